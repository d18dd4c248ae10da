package field_test

import (
	"math"
	"testing"

	"cooperage/api"
	"cooperage/field"
)

// product is a times b as polynomials over 0 and 1, and then the rest by 285: the chapter's words, without tables.
func product(a, b byte) byte {
	p := 0
	for i := range 8 {
		if b>>i&1 == 1 {
			p ^= int(a) << i
		}
	}
	for i := 14; i >= 8; i-- {
		if p>>i&1 == 1 {
			p ^= 285 << (i - 8)
		}
	}
	return byte(p)
}

// pairs is all pairs of elements.
func pairs(yield func(a, b byte) bool) {
	for i := range 1 << 16 {
		if !yield(byte(i>>8), byte(i)) {
			return
		}
	}
}

// P2.1, the chapter's examples, and products that are over 255 by no more than a bit, or by many.
func TestExamples(t *testing.T) {
	f := field.New()
	if f == nil {
		t.Fatal("New answers no field")
	}
	if got := f.Add(5, 3); got != 6 {
		t.Errorf("Add(5, 3) = %d", got)
	}
	for _, c := range [][3]byte{{2, 128, 29}, {3, 3, 5}, {2, 127, 254}, {16, 16, 29}, {4, 128, 58}, {255, 255, 226}, {1, 255, 255}, {0, 255, 0}} {
		if got := f.Mul(c[0], c[1]); got != c[2] {
			t.Errorf("Mul(%d, %d) = %d, want %d", c[0], c[1], got, c[2])
		}
	}
	if q, e := f.Div(29, 2); q != 128 || e != api.OK {
		t.Errorf("Div(29, 2) = %d %d", q, e)
	}
	if q, e := f.Inv(2); q != 142 || e != api.OK {
		t.Errorf("Inv(2) = %d %d", q, e)
	}
	if got := f.Pow(2, 8); got != 29 {
		t.Errorf("Pow(2, 8) = %d", got)
	}
	for a, want := range map[byte]int{29: 8, 1: 0, 2: 1, 128: 7, 142: 254} {
		if n, e := f.Log(a); n != want || e != api.OK {
			t.Errorf("Log(%d) = %d %d, want %d", a, n, e, want)
		}
	}
}

// P2.1: all sums and products, those with 0 too.
func TestAddMul(t *testing.T) {
	f := field.New()
	for a, b := range pairs {
		if got := f.Add(a, b); got != a^b {
			t.Fatalf("Add(%d, %d) = %d, want %d", a, b, got, a^b)
		}
		if got := f.Mul(a, b); got != product(a, b) {
			t.Fatalf("Mul(%d, %d) = %d, want %d", a, b, got, product(a, b))
		}
	}
}

// P2.1: all quotients, and that no other element has that product.
func TestDiv(t *testing.T) {
	f := field.New()
	for q, b := range pairs {
		if b == 0 {
			continue
		}
		if got, e := f.Div(product(q, b), b); got != q || e != api.OK {
			t.Fatalf("Div(%d, %d) = %d %d, want %d", product(q, b), b, got, e, q)
		}
	}
}

// P2.1: an inverse is Div of 1.
func TestInv(t *testing.T) {
	f := field.New()
	for i := 1; i < 256; i++ {
		a := byte(i)
		got, e := f.Inv(a)
		if product(got, a) != 1 || e != api.OK {
			t.Errorf("Inv(%d) = %d %d", a, got, e)
		}
		if q, _ := f.Div(1, a); q != got {
			t.Errorf("Inv(%d) = %d, but Div(1, %d) = %d", a, got, a, q)
		}
	}
}

// P2.1: nothing is divided by 0, not even 0; 0 has no inverse and no logarithm. Beside the error there is nothing.
func TestZeroRefused(t *testing.T) {
	f := field.New()
	for i := range 256 {
		if q, e := f.Div(byte(i), 0); q != 0 || e != api.ErrZero {
			t.Errorf("Div(%d, 0) = %d %d", i, q, e)
		}
	}
	if q, e := f.Inv(0); q != 0 || e != api.ErrZero {
		t.Errorf("Inv(0) = %d %d", q, e)
	}
	if n, e := f.Log(0); n != 0 || e != api.ErrZero {
		t.Errorf("Log(0) = %d %d", n, e)
	}
}

// P2.1: powers, factor by factor, through the order of the field and on.
func TestPow(t *testing.T) {
	f := field.New()
	for i := range 256 {
		a, want := byte(i), byte(1)
		for n := range 1025 {
			if got := f.Pow(a, n); got != want {
				t.Fatalf("Pow(%d, %d) = %d, want %d", a, n, got, want)
			}
			want = product(want, a)
		}
	}
}

// P2.1: 1 where n is 0 or less, of 0 too.
func TestPowBelow(t *testing.T) {
	f := field.New()
	for i := range 256 {
		for _, n := range []int{0, -1, -2, -254, -255, -256, math.MinInt32, math.MinInt + 1, math.MinInt} {
			if got := f.Pow(byte(i), n); got != 1 {
				t.Errorf("Pow(%d, %d) = %d, want 1", i, n, got)
			}
		}
	}
}

// squared is a times itself, n times, by squares.
func squared(a byte, n int) byte {
	p := byte(1)
	for ; n > 0; n /= 2 {
		if n%2 == 1 {
			p = product(p, a)
		}
		a = product(a, a)
	}
	return p
}

// P2.1: powers so great that a product with them is more than an int has.
func TestPowGreat(t *testing.T) {
	f := field.New()
	for i := range 256 {
		a := byte(i)
		for _, n := range []int{math.MaxInt32, math.MaxInt32 + 1, math.MaxInt / 255, math.MaxInt / 2, math.MaxInt - 7, math.MaxInt - 1, math.MaxInt} {
			if got := f.Pow(a, n); got != squared(a, n) {
				t.Errorf("Pow(%d, %d) = %d, want %d", a, n, got, squared(a, n))
			}
		}
	}
}

// P2.1: the logarithm is the only i from 0 to 254 of which an element is the power.
func TestLog(t *testing.T) {
	f := field.New()
	power := byte(1)
	for i := range 255 {
		if n, e := f.Log(power); n != i || e != api.OK {
			t.Errorf("Log(%d) = %d %d, want %d", power, n, e, i)
		}
		power = product(power, 2)
	}
}
