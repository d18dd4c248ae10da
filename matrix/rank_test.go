package matrix_test

import (
	"testing"

	"cooperage/api"
	"cooperage/field"
	"cooperage/matrix"
)

// choices is all ways to take so many of the numbers below n, rising.
func choices(n, many int) [][]int {
	if many == 0 {
		return [][]int{nil}
	}
	var out [][]int
	for last := many - 1; last < n; last++ {
		for _, c := range choices(last, many-1) {
			out = append(out, append(append([]int{}, c...), last))
		}
	}
	return out
}

// part is what stands where those rows and columns meet.
func part(m api.Matrix, rows, cols []int) api.Matrix {
	out := make(api.Matrix, len(rows))
	for i, r := range rows {
		for _, c := range cols {
			out[i] = append(out[i], m[r][c])
		}
	}
	return out
}

// greatest is the chapter's words: the greatest n of which a square part of n rows has an inverse.
func greatest(m api.Matrix) int {
	for n := min(len(m), len(m[0])); n > 0; n-- {
		for _, rows := range choices(len(m), n) {
			for _, cols := range choices(len(m[0]), n) {
				if determinant(part(m, rows, cols)) != 0 {
					return n
				}
			}
		}
	}
	return 0
}

// P3.3: small ones, written out; also such as lead only behind a column without any.
func TestRankExamples(t *testing.T) {
	f := field.New()
	for _, c := range []struct {
		m    api.Matrix
		want int
	}{
		{api.Matrix{{1, 1}, {1, 1}}, 1},
		{api.Matrix{{1, 1}, {1, 0}}, 2},
		{api.Matrix{{0}}, 0},
		{api.Matrix{{7}}, 1},
		{api.Matrix{{0, 0, 0}, {0, 0, 0}}, 0},
		{api.Matrix{{0, 0, 5}}, 1},
		{api.Matrix{{0}, {0}, {5}}, 1},
		{api.Matrix{{0, 0, 1, 2}, {0, 0, 3, 4}}, 2},
		{api.Matrix{{0, 1, 0, 2}, {0, 2, 0, 4}, {0, 0, 0, 1}}, 2},
		{api.Matrix{{1, 2, 3}, {4, 5, 6}, {5, 7, 5}}, 2},
		{api.Matrix{{1, 0}, {0, 1}, {1, 1}, {2, 3}}, 2},
	} {
		if got := matrix.Rank(f, c.m); got != c.want {
			t.Errorf("Rank %v: %d, want %d", c.m, got, c.want)
		}
	}
}

// P3.3: all matrices of up to three rows and columns of 0 and another element, and of two by four.
func TestRankAllSmall(t *testing.T) {
	f := field.New()
	for _, s := range [][2]int{{1, 1}, {1, 2}, {2, 1}, {2, 2}, {1, 3}, {3, 1}, {2, 3}, {3, 2}, {3, 3}, {2, 4}, {4, 2}} {
		for of := range 1 << (s[0] * s[1]) {
			for _, one := range []byte{1, 2, 255} {
				m := bits(s[0], s[1], of, one)
				if got, want := matrix.Rank(f, m), greatest(m); got != want {
					t.Fatalf("Rank %v: %d, want %d", m, got, want)
				}
			}
		}
	}
}

// P3.3: matrices that are a product through so many columns, of elements of all kinds.
func TestRankSome(t *testing.T) {
	f := field.New()
	for seed := range uint32(200) {
		rows, cols, through := 1+int(seed)%4, 1+int(seed)/4%4, 1+int(seed)/16%4
		m := times(some(rows, through, seed), some(through, cols, seed+1000))
		if got, want := matrix.Rank(f, m), greatest(m); got != want {
			t.Fatalf("Rank %v: %d, want %d", m, got, want)
		}
	}
}

// P3.3: the greatest matrices, of which rows are made up by so many others.
func TestRankGreat(t *testing.T) {
	f := field.New()
	for _, c := range []struct{ rows, cols, through int }{{255, 255, 1}, {255, 255, 100}, {255, 20, 7}, {20, 255, 7}} {
		down, _ := matrix.Cauchy(f, c.rows, 1)
		across, _ := matrix.Cauchy(f, 1, c.cols)
		if c.through > 1 {
			down, across = slanted(c.rows, c.through), slanted(c.through, c.cols)
		}
		if got := matrix.Rank(f, times(down, across)); got != c.through {
			t.Errorf("Rank of %d by %d through %d: %d", c.rows, c.cols, c.through, got)
		}
	}
	for _, s := range [][2]int{{255, 255}, {255, 1}, {1, 255}} {
		if got := matrix.Rank(f, slanted(s[0], s[1])); got != min(s[0], s[1]) {
			t.Errorf("Rank of %d by %d: %d", s[0], s[1], got)
		}
		if got := matrix.Rank(f, bits(s[0], s[1], 0, 0)); got != 0 {
			t.Errorf("Rank of %d by %d noughts: %d", s[0], s[1], got)
		}
	}
}

// slanted has elements of all kinds above the slant that begins in its first row, no 0 on it, and noughts below it: so its rank is the lesser side.
func slanted(rows, cols int) api.Matrix {
	m := some(rows, cols, uint32(rows*cols))
	for i := range m {
		for j := range m[i] {
			if j == i {
				m[i][j] |= 1
			}
			if j < i {
				m[i][j] = 0
			}
		}
	}
	return m
}

// P3.3: 0 of none, and of one that is not right.
func TestRankOfWrong(t *testing.T) {
	f := field.New()
	for name, m := range wrong() {
		if got := matrix.Rank(f, m); got != 0 {
			t.Errorf("%s: %d", name, got)
		}
	}
}
