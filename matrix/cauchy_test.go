package matrix_test

import (
	"math"
	"testing"

	"cooperage/api"
	"cooperage/field"
	"cooperage/matrix"
)

// product is a times b as polynomials over 0 and 1, and then the rest by 285: without the field's tables.
func product(a, b byte) byte {
	p := 0
	for i := range 8 {
		if b>>i&1 == 1 {
			p ^= int(a) << i
		}
	}
	for i := 14; i >= 8; i-- {
		if p>>i&1 == 1 {
			p ^= 285 << (i - 8)
		}
	}
	return byte(p)
}

// P3.2: small ones, written out.
func TestCauchyExamples(t *testing.T) {
	f := field.New()
	for _, c := range []struct {
		rows, cols int
		want       api.Matrix
	}{
		{1, 2, api.Matrix{{142, 244}}},
		{1, 1, api.Matrix{{1}}},
		{2, 1, api.Matrix{{1}, {142}}},
		{2, 2, api.Matrix{{142, 244}, {244, 142}}},
	} {
		if m, e := matrix.Cauchy(f, c.rows, c.cols); e != api.OK || !same(m, c.want) {
			t.Errorf("Cauchy(%d, %d): %v, %d", c.rows, c.cols, m, e)
		}
	}
}

// P3.2: each element times the sum of which it is the inverse is 1; at all edges of the sides too.
func TestCauchy(t *testing.T) {
	f := field.New()
	for _, s := range [][2]int{{1, 1}, {3, 5}, {5, 3}, {7, 64}, {1, 255}, {255, 1}, {128, 128}, {127, 128}, {2, 254}, {254, 2}, {100, 156}} {
		rows, cols := s[0], s[1]
		m, e := matrix.Cauchy(f, rows, cols)
		if e != api.OK || len(m) != rows || !matrix.Right(m) || len(m[0]) != cols {
			t.Errorf("Cauchy(%d, %d): %d rows, %d", rows, cols, len(m), e)
			continue
		}
		for i, row := range m {
			for j, x := range row {
				if product(x, byte(cols+i)^byte(j)) != 1 {
					t.Fatalf("Cauchy(%d, %d), row %d, column %d: %d", rows, cols, i, j, x)
				}
			}
		}
	}
}

// P3.2: sides that may not be, also such as are right together only where a sum wraps round; nothing beside the error.
func TestCauchyRefused(t *testing.T) {
	f := field.New()
	for _, s := range [][2]int{
		{0, 0}, {0, 1}, {1, 0}, {-1, 1}, {1, -1}, {-5, 10}, {10, -5}, {0, 255}, {255, 0}, {0, 256}, {256, 0},
		{1, 256}, {256, 1}, {2, 255}, {255, 2}, {128, 129}, {129, 128}, {255, 255}, {256, 256}, {300, -100}, {-100, 300},
		{math.MaxInt, 1}, {1, math.MaxInt}, {math.MaxInt, math.MaxInt}, {math.MaxInt/2 + 1, math.MaxInt/2 + 1},
		{math.MinInt, 1}, {1, math.MinInt}, {math.MinInt, math.MinInt}, {math.MinInt, math.MaxInt}, {math.MaxInt, math.MinInt},
		{1<<32 + 1, 1}, {1, 1<<32 + 1},
	} {
		if m, e := matrix.Cauchy(f, s[0], s[1]); len(m) != 0 || e != api.ErrArg {
			t.Errorf("Cauchy(%d, %d): %d rows, %d", s[0], s[1], len(m), e)
		}
	}
}
