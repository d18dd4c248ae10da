package code_test

import (
	"bytes"
	"math"
	"slices"
	"testing"

	"cooperage/api"
	"cooperage/code"
	"cooperage/field"
)

// product is a times b as polynomials over 0 and 1, and then the rest by 285: the words of the field's chapter, without its package.
func product(a, b byte) byte {
	p := 0
	for i := range 8 {
		if b>>i&1 == 1 {
			p ^= int(a) << i
		}
	}
	for i := 14; i >= 8; i-- {
		if p>>i&1 == 1 {
			p ^= 285 << (i - 8)
		}
	}
	return byte(p)
}

// inverse is the element whose product with a is 1; it is looked for.
func inverse(a byte) byte {
	for b := range 256 {
		if product(a, byte(b)) == 1 {
			return byte(b)
		}
	}
	return 0
}

// rows is the chapter's words: the unit's rows, then those of the Cauchy matrix.
func rows(k, n int) [][]byte {
	m := make([][]byte, n)
	for i := range m {
		m[i] = make([]byte, k)
		for j := range m[i] {
			switch {
			case i >= k:
				m[i][j] = inverse(byte(i) ^ byte(j))
			case i == j:
				m[i][j] = 1
			}
		}
	}
	return m
}

// same tells whether two lists of shards, or two matrices, are the same.
func same(a, b [][]byte) bool {
	return slices.EqualFunc(a, b, bytes.Equal)
}

// made is a code that has to be.
func made(t *testing.T, k, n int) *code.Code {
	t.Helper()
	c, e := code.New(field.New(), k, n)
	if c == nil || e != api.OK {
		t.Fatalf("New(%d, %d): %d", k, n, e)
	}
	return c
}

// P4.1: the chapter's matrices, and others, written out.
func TestMatrixExamples(t *testing.T) {
	for _, want := range []api.Matrix{
		{{1, 0}, {0, 1}, {142, 244}},
		{{1}, {1}, {142}},
		{{1}},
		{{1, 0}, {0, 1}, {142, 244}, {244, 142}},
		{{1, 0, 0}, {0, 1, 0}, {0, 0, 1}},
	} {
		k, n := len(want[0]), len(want)
		if got := made(t, k, n).Matrix(); !same(got, want) {
			t.Errorf("New(%d, %d): %v, want %v", k, n, got, want)
		}
	}
}

// P4.1: need, all and the matrix of all small codes, and of those at the edges.
func TestNew(t *testing.T) {
	sides := [][2]int{{1, 255}, {2, 255}, {127, 254}, {128, 255}, {254, 255}, {255, 255}, {254, 254}}
	for n := 1; n <= 20; n++ {
		for k := 1; k <= n; k++ {
			sides = append(sides, [2]int{k, n})
		}
	}
	for _, s := range sides {
		c := made(t, s[0], s[1])
		if c.Need() != s[0] || c.All() != s[1] {
			t.Errorf("New(%d, %d): Need %d, All %d", s[0], s[1], c.Need(), c.All())
		}
		if !same(c.Matrix(), rows(s[0], s[1])) {
			t.Errorf("New(%d, %d): another matrix", s[0], s[1])
		}
	}
}

// P4.1: sides that no code has, and nothing beside the error.
func TestNewRefused(t *testing.T) {
	f := field.New()
	for _, s := range [][2]int{
		{0, 0}, {0, 1}, {0, 255}, {-1, 1}, {-1, -1}, {-2, 255}, {1, 0}, {1, -1}, {2, 1}, {255, 254}, {255, 1},
		{1, 256}, {255, 256}, {256, 256}, {256, 255}, {2, 1000}, {1000, 1000}, {1 << 32, 1<<32 + 1},
		{math.MinInt, 1}, {1, math.MinInt}, {math.MinInt, math.MinInt}, {math.MinInt, math.MaxInt}, {1, math.MaxInt}, {math.MaxInt, math.MaxInt}, {math.MaxInt, 1},
	} {
		if c, e := code.New(f, s[0], s[1]); c != nil || e != api.ErrArg {
			t.Errorf("New(%d, %d): %v, %d", s[0], s[1], c, e)
		}
	}
}

// P4.1, R5: no field, ahead of the other error.
func TestNewOfNoField(t *testing.T) {
	for name, f := range map[string]*field.Field{"nil": nil, "not made": {}, "new": new(field.Field)} {
		for _, s := range [][2]int{{2, 3}, {1, 1}, {3, 3}, {255, 255}, {0, 0}, {3, 2}, {1, 256}, {-1, math.MaxInt}} {
			if c, e := code.New(f, s[0], s[1]); c != nil || e != api.ErrNil {
				t.Errorf("%s: New(%d, %d): %v, %d", name, s[0], s[1], c, e)
			}
		}
	}
}
