package matrix_test

import (
	"bytes"
	"math"
	"slices"
	"testing"

	"cooperage/api"
	"cooperage/matrix"
)

// same tells whether two matrices are the same, row by row.
func same(a, b api.Matrix) bool {
	return slices.EqualFunc(a, b, bytes.Equal)
}

// some is a matrix of those sides whose elements come by a rule from a seed; any sides, also wrong ones.
func some(rows, cols int, seed uint32) api.Matrix {
	m := make(api.Matrix, rows)
	for i := range m {
		m[i] = make([]byte, cols)
		for j := range m[i] {
			seed = seed*1664525 + 1013904223
			m[i][j] = byte(seed >> 24)
		}
	}
	return m
}

// wrong is matrices that are not right, each by one thing.
func wrong() map[string]api.Matrix {
	longer := some(255, 255, 1)
	longer[254] = make([]byte, 256)
	return map[string]api.Matrix{
		"none":               nil,
		"no rows":            {},
		"a row that is none": {nil},
		"empty rows":         {{}, {}},
		"first row empty":    {{}, {1}},
		"last row empty":     {{1}, {}},
		"last row none":      {{1, 2}, nil},
		"last row shorter":   {{1, 2}, {3, 4}, {5}},
		"last row longer":    {{1, 2}, {3, 4}, {5, 6, 7}},
		"first row shorter":  {{1}, {3, 4}, {5, 6}},
		"256 rows":           some(256, 1, 1),
		"256 rows of 256":    some(256, 256, 1),
		"256 columns":        some(1, 256, 1),
		"1000 columns":       some(3, 1000, 1),
		"one too long":       longer,
	}
}

// P3.1: which matrices are right, up to both edges.
func TestRight(t *testing.T) {
	for _, s := range [][2]int{{1, 1}, {1, 2}, {2, 1}, {3, 3}, {1, 255}, {255, 1}, {254, 255}, {255, 255}} {
		if !matrix.Right(some(s[0], s[1], 1)) {
			t.Errorf("%d rows of %d are not right", s[0], s[1])
		}
		if !matrix.Right(some(s[0], s[1], 0)) {
			t.Errorf("%d rows of %d, with other elements, are not right", s[0], s[1])
		}
	}
	if !matrix.Right(api.Matrix{{0, 0}, {0, 0}}) {
		t.Error("noughts are not right")
	}
	for name, m := range wrong() {
		if matrix.Right(m) {
			t.Errorf("%s: right", name)
		}
	}
}

// P3.1: the unit of each n.
func TestUnit(t *testing.T) {
	for n := 1; n <= 255; n++ {
		m, e := matrix.Unit(n)
		if e != api.OK || len(m) != n {
			t.Fatalf("Unit(%d): %d rows, %d", n, len(m), e)
		}
		for i, row := range m {
			want := make([]byte, n)
			want[i] = 1
			if !bytes.Equal(row, want) {
				t.Fatalf("Unit(%d), row %d: %v", n, i, row)
			}
		}
	}
}

// P3.1: no unit of other sizes, and nothing beside the error.
func TestUnitRefused(t *testing.T) {
	for _, n := range []int{0, -1, -255, -256, math.MinInt, 256, 257, 511, 512, 1 << 32, 1<<32 + 1, math.MaxInt} {
		if m, e := matrix.Unit(n); len(m) != 0 || e != api.ErrArg {
			t.Errorf("Unit(%d): %d rows, %d", n, len(m), e)
		}
	}
}

// P3.1: rows in the order that is asked for, also twice.
func TestPick(t *testing.T) {
	m := api.Matrix{{1, 2}, {3, 4}, {5, 6}}
	for _, c := range []struct {
		rows []int
		want api.Matrix
	}{
		{[]int{0}, api.Matrix{{1, 2}}},
		{[]int{2}, api.Matrix{{5, 6}}},
		{[]int{0, 1, 2}, m},
		{[]int{2, 0, 1}, api.Matrix{{5, 6}, {1, 2}, {3, 4}}},
		{[]int{1, 1}, api.Matrix{{3, 4}, {3, 4}}},
		{[]int{2, 0, 2, 0, 2}, api.Matrix{{5, 6}, {1, 2}, {5, 6}, {1, 2}, {5, 6}}},
	} {
		if got, e := matrix.Pick(m, c.rows); e != api.OK || !same(got, c.want) {
			t.Errorf("Pick %v: %v, %d", c.rows, got, e)
		}
	}
	unit, _ := matrix.Unit(2)
	if got, e := matrix.Pick(unit, []int{1, 1}); e != api.OK || !same(got, api.Matrix{{0, 1}, {0, 1}}) {
		t.Errorf("Pick of the unit, 1 1: %v, %d", got, e)
	}
}

// P3.1: as many rows as there may be, of a matrix that has as many, or just one.
func TestPickMost(t *testing.T) {
	m, back := some(255, 255, 7), make([]int, 255)
	for i := range back {
		back[i] = 254 - i
	}
	want := slices.Clone(m)
	slices.Reverse(want)
	if got, e := matrix.Pick(m, back); e != api.OK || !same(got, want) {
		t.Errorf("all rows, backwards: %d rows, %d", len(got), e)
	}
	got, e := matrix.Pick(api.Matrix{{9}}, make([]int, 255))
	if e != api.OK || len(got) != 255 || !matrix.Right(got) || got[254][0] != 9 {
		t.Errorf("one row, 255 times: %v, %d", got, e)
	}
}

// P3.1: places that are none of m, too few and too many of them; nothing beside the error.
func TestPickRefused(t *testing.T) {
	m := api.Matrix{{1, 2}, {3, 4}, {5, 6}}
	for _, rows := range [][]int{nil, {}, {-1}, {3}, {0, 3}, {3, 0}, {0, 1, 2, -1}, {0, 256}, {math.MaxInt}, {math.MinInt}, {1, 1 << 32}, make([]int, 256), make([]int, 1000)} {
		if got, e := matrix.Pick(m, rows); len(got) != 0 || e != api.ErrArg {
			t.Errorf("Pick of %d places, %v: %v, %d", len(rows), rows[:min(4, len(rows))], got, e)
		}
	}
	if got, e := matrix.Pick(some(255, 3, 1), []int{254, 255}); len(got) != 0 || e != api.ErrArg {
		t.Errorf("Pick of 255, the last one is 254: %v, %d", got, e)
	}
}

// P3.1: ErrShape ahead of ErrArg.
func TestPickOfWrong(t *testing.T) {
	for name, m := range wrong() {
		for _, rows := range [][]int{{0}, {1, 0}, nil, {-1}, {300}, make([]int, 256)} {
			if got, e := matrix.Pick(m, rows); len(got) != 0 || e != api.ErrShape {
				t.Errorf("%s, %d places: %v, %d", name, len(rows), got, e)
			}
		}
	}
}
