package matrix_test

import (
	"testing"

	"cooperage/api"
	"cooperage/field"
	"cooperage/matrix"
)

// P3.3: small inverses, written out; where rows have to change places too.
func TestInvertExamples(t *testing.T) {
	f := field.New()
	for _, c := range []struct{ m, want api.Matrix }{
		{api.Matrix{{1, 1}, {1, 0}}, api.Matrix{{0, 1}, {1, 1}}},
		{api.Matrix{{1}}, api.Matrix{{1}}},
		{api.Matrix{{2}}, api.Matrix{{142}}},
		{api.Matrix{{0, 1}, {1, 0}}, api.Matrix{{0, 1}, {1, 0}}},
		{api.Matrix{{0, 2}, {1, 0}}, api.Matrix{{0, 1}, {142, 0}}},
		{api.Matrix{{2, 0}, {0, 3}}, api.Matrix{{142, 0}, {0, 244}}},
		{api.Matrix{{0, 1, 0}, {0, 0, 1}, {1, 0, 0}}, api.Matrix{{0, 0, 1}, {1, 0, 0}, {0, 1, 0}}},
		{api.Matrix{{1, 5}, {0, 1}}, api.Matrix{{1, 5}, {0, 1}}},
	} {
		if got, e := matrix.Invert(f, c.m); e != api.OK || !same(got, c.want) {
			t.Errorf("Invert %v: %v, %d", c.m, got, e)
		}
	}
}

// determinant is that of a square matrix, by its first row: without the field, and without steps upon rows.
func determinant(m api.Matrix) byte {
	if len(m) == 0 {
		return 1
	}
	var sum byte
	for j, x := range m[0] {
		var rest api.Matrix
		for _, row := range m[1:] {
			rest = append(rest, append(append([]byte{}, row[:j]...), row[j+1:]...))
		}
		if x != 0 {
			sum ^= product(x, determinant(rest))
		}
	}
	return sum
}

// bits is a matrix of those sides whose elements are by the bits of n: 0 or that one.
func bits(rows, cols, n int, one byte) api.Matrix {
	m := make(api.Matrix, rows)
	for i := range m {
		m[i] = make([]byte, cols)
		for j := range m[i] {
			if n>>(i*cols+j)&1 == 1 {
				m[i][j] = one
			}
		}
	}
	return m
}

// inverted tells what is wrong with an answer of Invert, by the determinant and the product.
func inverted(f *field.Field, m api.Matrix) string {
	got, e := matrix.Invert(f, m)
	if determinant(m) == 0 {
		if e != api.ErrTied || len(got) != 0 {
			return "it is not tied"
		}
		return ""
	}
	unit, _ := matrix.Unit(len(m))
	if e != api.OK || !same(times(got, m), unit) || !same(times(m, got), unit) {
		return "not its inverse"
	}
	return ""
}

// P3.3: all square matrices of up to three rows of 0 and another element, and of one row of anything.
func TestInvertAllSmall(t *testing.T) {
	f := field.New()
	for n := 1; n <= 3; n++ {
		for of := range 1 << (n * n) {
			for _, one := range []byte{1, 2, 255} {
				m := bits(n, n, of, one)
				if s := inverted(f, m); s != "" {
					t.Fatalf("Invert %v: %s", m, s)
				}
			}
		}
	}
	for x := range 256 {
		if s := inverted(f, api.Matrix{{byte(x)}}); s != "" {
			t.Errorf("Invert %d: %s", x, s)
		}
	}
}

// P3.3: matrices of elements of all kinds, each also with a row that others make up.
func TestInvertSome(t *testing.T) {
	f := field.New()
	for n := 2; n <= 6; n++ {
		for seed := range uint32(60) {
			m := some(n, n, seed)
			if s := inverted(f, m); s != "" {
				t.Fatalf("Invert %v: %s", m, s)
			}
			at := int(seed) % n
			m[at] = combined(m, at)
			if got, e := matrix.Invert(f, m); e != api.ErrTied || len(got) != 0 || determinant(m) != 0 {
				t.Fatalf("Invert %v, whose row %d others make up: %v, %d", m, at, got, e)
			}
		}
	}
}

// combined is a sum of multiples of all rows but one.
func combined(m api.Matrix, but int) []byte {
	sum := make([]byte, len(m[0]))
	for i, row := range m {
		for j, x := range row {
			if i != but {
				sum[j] ^= product(byte(i+2), x)
			}
		}
	}
	return sum
}

// P3.3: no inverse: of noughts, of a column or a row of noughts, of the same twice.
func TestInvertTied(t *testing.T) {
	f := field.New()
	great := some(255, 255, 9)
	great[254] = combined(great, 254)
	for name, m := range map[string]api.Matrix{
		"the same twice":  {{1, 1}, {1, 1}},
		"nought":          {{0}},
		"noughts":         {{0, 0}, {0, 0}},
		"a first column":  {{0, 1, 2}, {0, 3, 4}, {0, 5, 6}},
		"a last column":   {{1, 2, 0}, {3, 4, 0}, {5, 7, 0}},
		"a first row":     {{0, 0}, {1, 2}},
		"a last row":      {{1, 2}, {0, 0}},
		"twice as much":   {{1, 2}, {2, 4}},
		"the sum of both": {{1, 2, 3}, {4, 5, 6}, {5, 7, 5}},
		"255 rows":        great,
		"255 noughts":     bits(255, 255, 0, 0),
	} {
		if got, e := matrix.Invert(f, m); e != api.ErrTied || len(got) != 0 {
			t.Errorf("%s: %d rows, %d", name, len(got), e)
		}
	}
}

// P3.3: matrices that are not right, or not square; nothing beside the error.
func TestInvertRefused(t *testing.T) {
	f := field.New()
	for name, m := range wrong() {
		if got, e := matrix.Invert(f, m); e != api.ErrShape || len(got) != 0 {
			t.Errorf("%s: %v, %d", name, got, e)
		}
	}
	for _, s := range [][2]int{{1, 2}, {2, 1}, {254, 255}, {255, 254}, {1, 255}, {255, 1}} {
		for _, m := range []api.Matrix{some(s[0], s[1], 1), bits(s[0], s[1], 0, 0)} {
			if got, e := matrix.Invert(f, m); e != api.ErrShape || len(got) != 0 {
				t.Errorf("%v: %v, %d", s, got, e)
			}
		}
	}
}
