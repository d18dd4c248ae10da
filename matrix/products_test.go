package matrix_test

import (
	"testing"

	"cooperage/api"
	"cooperage/field"
	"cooperage/matrix"
)

// times is the product of a and b, without the field.
func times(a, b api.Matrix) api.Matrix {
	out := make(api.Matrix, len(a))
	for i := range a {
		out[i] = make([]byte, len(b[0]))
		for j := range b[0] {
			for k := range b {
				out[i][j] ^= product(a[i][k], b[k][j])
			}
		}
	}
	return out
}

// P3.3: small products, written out.
func TestMulExamples(t *testing.T) {
	f := field.New()
	for _, c := range []struct{ a, b, want api.Matrix }{
		{api.Matrix{{1, 2}}, api.Matrix{{3}, {4}}, api.Matrix{{11}}},
		{api.Matrix{{3}, {4}}, api.Matrix{{1, 2}}, api.Matrix{{3, 6}, {4, 8}}},
		{api.Matrix{{2}}, api.Matrix{{128}}, api.Matrix{{29}}},
		{api.Matrix{{1, 1}, {1, 0}}, api.Matrix{{1, 2}, {3, 4}}, api.Matrix{{2, 6}, {1, 2}}},
		{api.Matrix{{1, 2}, {3, 4}}, api.Matrix{{1, 1}, {1, 0}}, api.Matrix{{3, 1}, {7, 3}}},
		{api.Matrix{{0, 0}}, api.Matrix{{5}, {6}}, api.Matrix{{0}}},
	} {
		if got, e := matrix.Mul(f, c.a, c.b); e != api.OK || !same(got, c.want) {
			t.Errorf("%v times %v: %v, %d", c.a, c.b, got, e)
		}
	}
}

// P3.3: products of all kinds of sides.
func TestMul(t *testing.T) {
	f := field.New()
	for i, s := range [][3]int{{1, 1, 1}, {2, 3, 4}, {4, 3, 2}, {1, 255, 1}, {255, 1, 255}, {1, 7, 255}, {255, 7, 1}, {31, 64, 17}, {3, 3, 3}} {
		a, b := some(s[0], s[1], uint32(i)), some(s[1], s[2], uint32(i+100))
		if got, e := matrix.Mul(f, a, b); e != api.OK || !same(got, times(a, b)) {
			t.Errorf("%d by %d times %d by %d: not the product, %d", s[0], s[1], s[1], s[2], e)
		}
	}
	a, unit := some(255, 255, 3), some(255, 255, 0)
	for i := range unit {
		clear(unit[i])
		unit[i][i] = 1
	}
	for _, c := range [][2]api.Matrix{{a, unit}, {unit, a}} {
		if got, e := matrix.Mul(f, c[0], c[1]); e != api.OK || !same(got, a) {
			t.Errorf("255 by 255 times the unit is another one, %d", e)
		}
	}
}

// P3.3: shapes that do not fit, and matrices that are not right; nothing beside the error.
func TestMulRefused(t *testing.T) {
	f := field.New()
	for _, s := range [][4]int{{1, 2, 1, 2}, {2, 1, 2, 1}, {2, 3, 2, 3}, {2, 2, 3, 2}, {2, 3, 2, 2}, {1, 255, 254, 1}, {1, 1, 2, 2}} {
		if got, e := matrix.Mul(f, some(s[0], s[1], 1), some(s[2], s[3], 2)); len(got) != 0 || e != api.ErrShape {
			t.Errorf("%v: %v, %d", s, got, e)
		}
	}
	for name, m := range wrong() {
		right := some(max(1, min(255, len(m))), 2, 1)
		for _, c := range [][2]api.Matrix{{m, right}, {right, m}, {m, m}, {m, {{1}}}, {{{1}}, m}, {{{1, 2}}, m}, {{{1, 2, 3}}, m}} {
			if got, e := matrix.Mul(f, c[0], c[1]); len(got) != 0 || e != api.ErrShape {
				t.Errorf("%s: %v, %d", name, got, e)
			}
		}
	}
	// Where it meets, each has one that is too long: 256 columns, and 256 rows.
	if got, e := matrix.Mul(f, some(1, 256, 1), some(256, 1, 1)); len(got) != 0 || e != api.ErrShape {
		t.Errorf("256 columns times 256 rows: %v, %d", got, e)
	}
	// And at its other side.
	if got, e := matrix.Mul(f, some(256, 1, 1), some(1, 256, 1)); len(got) != 0 || e != api.ErrShape {
		t.Errorf("256 rows times 256 columns: %d rows, %d", len(got), e)
	}
}
