package matrix_test

import (
	"testing"

	"cooperage/api"
	"cooperage/field"
	"cooperage/matrix"
)

// P3.4: each square part of a Cauchy matrix has an inverse: all parts of small ones.
func TestPartsOfCauchy(t *testing.T) {
	f := field.New()
	for _, s := range [][2]int{{1, 1}, {1, 5}, {5, 1}, {4, 4}, {3, 6}, {6, 3}, {5, 5}} {
		m, _ := matrix.Cauchy(f, s[0], s[1])
		for n := 1; n <= min(s[0], s[1]); n++ {
			for _, rows := range choices(s[0], n) {
				for _, cols := range choices(s[1], n) {
					p := part(m, rows, cols)
					if determinant(p) == 0 {
						t.Fatalf("Cauchy(%d, %d): rows %v, columns %v have no inverse", s[0], s[1], rows, cols)
					}
					if s := inverted(f, p); s != "" {
						t.Fatalf("rows %v, columns %v: %s", rows, cols, s)
					}
				}
			}
		}
	}
}

// P3.4: parts of the greatest ones: all of one and two rows at some places, and great ones.
func TestPartsOfGreatCauchy(t *testing.T) {
	f := field.New()
	for _, s := range [][2]int{{128, 128}, {55, 201}, {201, 55}} {
		m, _ := matrix.Cauchy(f, s[0], s[1])
		for _, n := range []int{1, 2, 3, 17, min(s[0], s[1])} {
			for step := 1; step < 8; step += 2 {
				rows, cols := spread(s[0], n, step), spread(s[1], n, step+2)
				if got := matrix.Rank(f, part(m, rows, cols)); got != n {
					t.Errorf("Cauchy(%d, %d): %d rows, step %d: Rank %d", s[0], s[1], n, step, got)
				}
			}
		}
	}
}

// spread is so many of the numbers below all, none twice, by a step.
func spread(all, many, step int) []int {
	var out []int
	seen := map[int]int{}
	for at := step % all; len(out) < many; at = (at + step) % all {
		for seen[at] > 0 {
			at = (at + 1) % all
		}
		seen[at]++
		out = append(out, at)
	}
	return out
}

// square is matrices that have an inverse, up to the greatest.
func square(f *field.Field) []api.Matrix {
	swapped := slanted(255, 255)
	swapped[0], swapped[254] = swapped[254], swapped[0]
	greatCauchy, _ := matrix.Cauchy(f, 128, 128)
	smallCauchy, _ := matrix.Cauchy(f, 7, 7)
	unit, _ := matrix.Unit(255)
	return []api.Matrix{{{1}}, {{255}}, {{1, 1}, {1, 0}}, {{0, 2}, {1, 0}}, smallCauchy, greatCauchy, unit, slanted(255, 255), swapped}
}

// P3.4: an inverse is one from both sides, and of an inverse it is the matrix.
func TestInverseOfInverse(t *testing.T) {
	f := field.New()
	for i, m := range square(f) {
		unit, _ := matrix.Unit(len(m))
		inverse, e := matrix.Invert(f, m)
		if e != api.OK {
			t.Errorf("matrix %d: %d", i, e)
			continue
		}
		for _, c := range [][2]api.Matrix{{m, inverse}, {inverse, m}} {
			if p, e := matrix.Mul(f, c[0], c[1]); e != api.OK || !same(p, unit) {
				t.Errorf("matrix %d: the product is not the unit, %d", i, e)
			}
		}
		if back, e := matrix.Invert(f, inverse); e != api.OK || !same(back, m) {
			t.Errorf("matrix %d: its inverse's inverse is another, %d", i, e)
		}
		if got := matrix.Rank(f, m); got != len(m) {
			t.Errorf("matrix %d: Rank %d of %d", i, got, len(m))
		}
	}
}

// P3.4: products go together in any order of doing them.
func TestOrderOfProducts(t *testing.T) {
	f := field.New()
	mul := func(a, b api.Matrix) api.Matrix {
		p, e := matrix.Mul(f, a, b)
		if e != api.OK {
			t.Fatalf("%d rows times %d rows: %d", len(a), len(b), e)
		}
		return p
	}
	for i, s := range [][4]int{{1, 1, 1, 1}, {2, 3, 4, 5}, {5, 4, 3, 2}, {1, 255, 1, 255}, {255, 1, 255, 1}, {20, 30, 40, 10}, {3, 3, 3, 3}} {
		a, b, c := some(s[0], s[1], uint32(i)), some(s[1], s[2], uint32(i+50)), some(s[2], s[3], uint32(i+99))
		if !same(mul(mul(a, b), c), mul(a, mul(b, c))) {
			t.Errorf("%v: the product hangs on which is done first", s)
		}
	}
}

// P3.4: two matrices' product has the product of their inverses, the other way round.
func TestInverseOfProduct(t *testing.T) {
	f := field.New()
	a, b := slanted(9, 9), bits(9, 9, 0, 0)
	for i := range b {
		b[i] = some(1, 9, uint32(i))[0]
	}
	ab, _ := matrix.Mul(f, a, b)
	ia, ea := matrix.Invert(f, a)
	ib, eb := matrix.Invert(f, b)
	iab, eab := matrix.Invert(f, ab)
	if ea != api.OK || eb != api.OK || eab != api.OK || !same(iab, times(ib, ia)) {
		t.Errorf("errors %d, %d, %d, or not the inverses' product", ea, eb, eab)
	}
}
