package matrix_test

import (
	"slices"
	"testing"

	"cooperage/api"
	"cooperage/field"
	"cooperage/matrix"
)

// R5, P3.2, P3.3: of no field ErrNil, ahead of each other error, and nothing beside it; of Rank 0.
func TestNoField(t *testing.T) {
	matrices := map[string]api.Matrix{"right": {{1, 1}, {1, 0}}, "tied": {{1, 1}, {1, 1}}, "not square": {{1, 2}}}
	for name, m := range wrong() {
		matrices[name] = m
	}
	for name, f := range map[string]*field.Field{"nil": nil, "not made": {}, "new": new(field.Field)} {
		for _, s := range [][2]int{{1, 2}, {0, 0}, {-1, 5}, {200, 200}} {
			if m, e := matrix.Cauchy(f, s[0], s[1]); len(m) != 0 || e != api.ErrNil {
				t.Errorf("%s: Cauchy(%d, %d): %v, %d", name, s[0], s[1], m, e)
			}
		}
		for of, m := range matrices {
			if got, e := matrix.Invert(f, m); len(got) != 0 || e != api.ErrNil {
				t.Errorf("%s: Invert, %s: %v, %d", name, of, got, e)
			}
			for by, n := range matrices {
				if got, e := matrix.Mul(f, m, n); len(got) != 0 || e != api.ErrNil {
					t.Errorf("%s: Mul, %s times %s: %v, %d", name, of, by, got, e)
				}
			}
			if got := matrix.Rank(f, m); got != 0 {
				t.Errorf("%s: Rank, %s: %d", name, of, got)
			}
		}
	}
}

// roomy is a copy of m with spare room behind its rows and within them, and a way to tell whether any of that was changed.
func roomy(m api.Matrix) (api.Matrix, func() bool) {
	var rows [][]byte
	for _, row := range m {
		rows = append(rows, append(slices.Clone(row), 201, 202, 203))
	}
	out := make(api.Matrix, len(m), len(m)+2)
	for i, row := range rows {
		out[i] = row[:len(m[i])]
	}
	spare := []byte{5, 6}
	out[:cap(out)][len(m)], out[:cap(out)][len(m)+1] = spare, spare
	was := slices.Clone(out[:cap(out)])
	all := slices.Concat(slices.Concat(rows...), spare)
	return out, func() bool {
		for i, row := range out[:cap(out)] {
			if len(row) != len(was[i]) || &row[0] != &was[i][0] {
				return true
			}
		}
		return !slices.Equal(all, slices.Concat(slices.Concat(rows...), spare))
	}
}

// spoil changes all of an answer: each row with its spare room, then the rows themselves with theirs.
func spoil(m api.Matrix) {
	for _, row := range m {
		row = row[:cap(row)]
		for i := range row {
			row[i] ^= 0xff
		}
	}
	clear(m[:cap(m)])
}

// calls is each call that answers a matrix, of one that is handed in.
func calls(f *field.Field) map[string]func(m api.Matrix) (api.Matrix, api.Errno) {
	return map[string]func(m api.Matrix) (api.Matrix, api.Errno){
		"Unit":       func(m api.Matrix) (api.Matrix, api.Errno) { return matrix.Unit(len(m)) },
		"Cauchy":     func(m api.Matrix) (api.Matrix, api.Errno) { return matrix.Cauchy(f, len(m), 3) },
		"Mul":        func(m api.Matrix) (api.Matrix, api.Errno) { return matrix.Mul(f, m, m) },
		"Pick":       func(m api.Matrix) (api.Matrix, api.Errno) { return matrix.Pick(m, []int{1, 0}) },
		"Pick twice": func(m api.Matrix) (api.Matrix, api.Errno) { return matrix.Pick(m, []int{1, 1, 1}) },
		"Invert":     func(m api.Matrix) (api.Matrix, api.Errno) { return matrix.Invert(f, m) },
	}
}

// R3: what is handed in stays, its spare room too; answers share no memory with it, nor with one another, nor do the rows of one.
func TestHandedIn(t *testing.T) {
	f := field.New()
	for _, from := range []api.Matrix{{{1, 0}, {0, 1}}, {{0, 1}, {1, 0}}, {{1, 1}, {1, 0}}, {{2, 3}, {4, 9}}, slanted(9, 9), {{1, 1}, {1, 1}}} {
		for name, call := range calls(f) {
			m, changed := roomy(from)
			first, e := call(m)
			want := make(api.Matrix, len(first))
			for i, row := range first {
				want[i] = slices.Clone(row)
			}
			second, again := call(m)
			spoil(first)
			if e != again || !same(second, want) {
				t.Errorf("%s of %v: two answers share memory, or differ: %v, %v", name, from, second, want)
			}
			for i := range second {
				spoil(second[i : i+1 : i+1])
				for j, row := range second[i+1:] {
					if !slices.Equal(row, want[i+1+j]) {
						t.Errorf("%s of %v: the rows %d and %d share memory", name, from, i, i+1+j)
					}
				}
			}
			matrix.Rank(f, m)
			matrix.Right(m)
			if changed() {
				t.Errorf("%s of %v: what was handed in has changed", name, from)
			}
		}
	}
}

// R3: two matrices that lie in one another, and rows that are one list, are as if they were apart.
func TestHandedInTwice(t *testing.T) {
	f := field.New()
	row := []byte{1, 2, 3}
	m := api.Matrix{row, row, row}
	if got, e := matrix.Mul(f, m, m); e != api.OK || !same(got, times(m, m)) {
		t.Errorf("Mul of one row, three times: %v, %d", got, e)
	}
	if got, e := matrix.Invert(f, m); e != api.ErrTied || len(got) != 0 {
		t.Errorf("Invert of one row, three times: %v, %d", got, e)
	}
	if got := matrix.Rank(f, m); got != 1 {
		t.Errorf("Rank of one row, three times: %d", got)
	}
	memory := []byte{1, 0, 1, 1}
	lapped := api.Matrix{memory[0:3], memory[1:4], {1, 0, 0}}
	inverse, e := matrix.Invert(f, lapped)
	unit, _ := matrix.Unit(3)
	if e != api.OK || !same(times(inverse, lapped), unit) {
		t.Errorf("Invert of rows that lie in one another: %v, %d", inverse, e)
	}
	if !slices.Equal(row, []byte{1, 2, 3}) || !slices.Equal(memory, []byte{1, 0, 1, 1}) {
		t.Errorf("what was handed in is %v, %v", row, memory)
	}
}

// R3: the places that are handed in to Pick stay.
func TestPlacesHandedIn(t *testing.T) {
	all := []int{2, 0, 0, 7, 7}
	got, e := matrix.Pick(api.Matrix{{1}, {2}, {3}}, all[:3])
	if e != api.OK || !same(got, api.Matrix{{3}, {1}, {1}}) || !slices.Equal(all, []int{2, 0, 0, 7, 7}) {
		t.Errorf("Pick: %v, %d, the places are %v", got, e, all)
	}
}

// R2, R4: nothing that went wrong stays behind; two fields answer the same.
func TestSameAnswers(t *testing.T) {
	f, g := field.New(), field.New()
	m := slanted(9, 9)
	for name, call := range calls(f) {
		before, _ := call(m)
		matrix.Invert(f, api.Matrix{{1, 1}, {1, 1}})
		matrix.Mul(f, m, api.Matrix{{1}})
		matrix.Cauchy(f, 0, 0)
		matrix.Pick(m, []int{0, 9})
		after, e := call(m)
		other, _ := calls(g)[name](m)
		if e != api.OK || !same(before, after) || !same(after, other) {
			t.Errorf("%s: %v, then %v, by another field %v, %d", name, before, after, other, e)
		}
	}
}

// R6: an empty matrix, and an empty list of places, are as none.
func TestNone(t *testing.T) {
	f := field.New()
	for _, m := range []api.Matrix{nil, {}, make(api.Matrix, 0, 5)} {
		_, inverted := matrix.Invert(f, m)
		_, ahead := matrix.Mul(f, m, api.Matrix{{1}})
		_, behind := matrix.Mul(f, api.Matrix{{1}}, m)
		_, picked := matrix.Pick(m, []int{0})
		if matrix.Right(m) || matrix.Rank(f, m) != 0 || inverted != api.ErrShape || ahead != api.ErrShape || behind != api.ErrShape || picked != api.ErrShape {
			t.Errorf("none, with room for %d: %d, %d, %d, %d", cap(m), inverted, ahead, behind, picked)
		}
	}
	for _, rows := range [][]int{nil, {}, make([]int, 0, 5)} {
		if got, e := matrix.Pick(api.Matrix{{1}}, rows); len(got) != 0 || e != api.ErrArg {
			t.Errorf("no places, with room for %d: %v, %d", cap(rows), got, e)
		}
	}
}
