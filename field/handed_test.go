package field_test

import (
	"math"
	"slices"
	"testing"

	"cooperage/api"
	"cooperage/field"
)

// R5, P2.1, P2.2: of no field 0 each, or nothing; where there is an error ErrNil, also where ErrZero would be next.
func TestNoField(t *testing.T) {
	for name, f := range map[string]*field.Field{"nil": nil, "not made": {}, "new": new(field.Field)} {
		for a, b := range pairs {
			if f.Add(a, b) != 0 || f.Mul(a, b) != 0 {
				t.Fatalf("%s: Add, Mul of %d, %d: %d, %d", name, a, b, f.Add(a, b), f.Mul(a, b))
			}
			if q, e := f.Div(a, b); q != 0 || e != api.ErrNil {
				t.Fatalf("%s: Div(%d, %d) = %d %d", name, a, b, q, e)
			}
		}
		for i := range 256 {
			a := byte(i)
			if q, e := f.Inv(a); q != 0 || e != api.ErrNil {
				t.Errorf("%s: Inv(%d) = %d %d", name, a, q, e)
			}
			if n, e := f.Log(a); n != 0 || e != api.ErrNil {
				t.Errorf("%s: Log(%d) = %d %d", name, a, n, e)
			}
			for _, n := range []int{math.MinInt, -1, 0, 1, 8, 255, math.MaxInt} {
				if got := f.Pow(a, n); got != 0 {
					t.Errorf("%s: Pow(%d, %d) = %d", name, a, n, got)
				}
			}
			if got := f.Dot([]byte{1, a}, []byte{3, 4}); got != 0 {
				t.Errorf("%s: Dot = %d", name, got)
			}
			if got := f.Lay([]byte{1, 1}, a, []byte{3, 128}); len(got) != 0 {
				t.Errorf("%s: Lay = %v", name, got)
			}
		}
	}
}

// roomy is those bytes with spare room behind them, and all of that memory.
func roomy(b ...byte) (list, all []byte) {
	all = append(slices.Clone(b), 201, 202, 203, 204)
	return all[:len(b)], all
}

// spoil changes all of an answer, its spare room too.
func spoil(b []byte) {
	for i := range b[:cap(b)] {
		b[:cap(b)][i] ^= 0xff
	}
}

// R3: what is handed in stays, its spare room too; answers share no memory with it, nor with one another.
func TestHandedIn(t *testing.T) {
	f := field.New()
	for _, c := range []byte{0, 1, 2} {
		for _, n := range []int{0, 1, 2, 3} {
			out, allOut := roomy(1, 1, 9)
			x, allX := roomy(3, 128, 7)
			out, x = out[:n], x[:3-n]
			copyOut, copyX := slices.Clone(allOut), slices.Clone(allX)
			f.Dot(out, x)
			first := f.Lay(out, c, x)
			want := slices.Clone(first)
			second := f.Lay(out, c, x)
			spoil(first)
			if !slices.Equal(second, want) {
				t.Errorf("%d times %v: two answers share memory, or differ: %v, %v", c, x, second, want)
			}
			spoil(second)
			if !slices.Equal(allOut, copyOut) || !slices.Equal(allX, copyX) {
				t.Errorf("%d times %v: what was handed in has changed", c, x)
			}
		}
	}
}

// R3: one list handed in twice, or two that lie in one another.
func TestHandedInTwice(t *testing.T) {
	f := field.New()
	b := []byte{1, 2, 3, 128}
	if got := f.Dot(b, b); got != 1^4^5^product(128, 128) {
		t.Errorf("Dot = %d", got)
	}
	if got := f.Lay(b, 2, b); !slices.Equal(got, []byte{3, 6, 5, 157}) {
		t.Errorf("Lay = %v", got)
	}
	if got := f.Lay(b[1:], 2, b); !slices.Equal(got, []byte{0, 7, 134}) {
		t.Errorf("Lay of what lies behind = %v", got)
	}
	if got := f.Lay(b, 2, b[1:]); !slices.Equal(got, []byte{5, 4, 30, 128}) {
		t.Errorf("Lay of what lies ahead = %v", got)
	}
	if !slices.Equal(b, []byte{1, 2, 3, 128}) {
		t.Errorf("what was handed in is %v", b)
	}
}

// R4: two fields, and one field at another time, answer the same; nothing that went wrong stays behind.
func TestSameAnswers(t *testing.T) {
	f, g := field.New(), field.New()
	f.Div(1, 0)
	f.Inv(0)
	f.Log(0)
	spoil(f.Lay([]byte{1, 1}, 2, []byte{3, 128}))
	for a, b := range pairs {
		if f.Add(a, b) != g.Add(a, b) || f.Mul(a, b) != g.Mul(a, b) {
			t.Fatalf("two fields differ at %d, %d", a, b)
		}
	}
}

// R6: an empty list and none are the same.
func TestNone(t *testing.T) {
	f := field.New()
	none, _ := roomy()
	x := []byte{5, 6}
	if f.Dot(none, x) != f.Dot(nil, x) || f.Dot(x, none) != f.Dot(x, nil) {
		t.Error("Dot tells an empty list from none")
	}
	if !slices.Equal(f.Lay(none, 7, x), f.Lay(nil, 7, x)) || !slices.Equal(f.Lay(x, 7, none), f.Lay(x, 7, nil)) {
		t.Error("Lay tells an empty list from none")
	}
}
