package field_test

import (
	"testing"

	"cooperage/api"
	"cooperage/field"
)

// P2.3: sums and products do not hang on the order of two.
func TestOrderOfTwo(t *testing.T) {
	f := field.New()
	for a, b := range pairs {
		if f.Add(a, b) != f.Add(b, a) || f.Mul(a, b) != f.Mul(b, a) {
			t.Fatalf("%d, %d: sums %d, %d, products %d, %d", a, b, f.Add(a, b), f.Add(b, a), f.Mul(a, b), f.Mul(b, a))
		}
	}
}

// P2.3: nor on which of three are taken first; and products go into sums.
func TestOrderOfThree(t *testing.T) {
	f := field.New()
	for a, b := range pairs {
		sum, of := f.Add(a, b), f.Mul(a, b)
		for i := range 256 {
			c := byte(i)
			if f.Add(sum, c) != f.Add(a, f.Add(b, c)) {
				t.Fatalf("%d + %d + %d hangs on the order", a, b, c)
			}
			if f.Mul(of, c) != f.Mul(a, f.Mul(b, c)) {
				t.Fatalf("%d * %d * %d hangs on the order", a, b, c)
			}
			if f.Mul(sum, c) != f.Add(f.Mul(a, c), f.Mul(b, c)) {
				t.Fatalf("(%d + %d) * %d is not the sum of the products", a, b, c)
			}
		}
	}
}

// P2.3: 0 and 1 are what they are in a field; each element is its own other side; each but 0 has one inverse.
func TestUnits(t *testing.T) {
	f := field.New()
	inverses := map[byte]byte{}
	for i := range 256 {
		a := byte(i)
		if f.Add(a, 0) != a || f.Mul(a, 1) != a || f.Mul(a, 0) != 0 || f.Add(a, a) != 0 {
			t.Errorf("%d: with 0 and 1 %d, %d, %d, with itself %d", a, f.Add(a, 0), f.Mul(a, 1), f.Mul(a, 0), f.Add(a, a))
		}
		if a == 0 {
			continue
		}
		inverse, e := f.Inv(a)
		if e != api.OK || f.Mul(a, inverse) != 1 {
			t.Errorf("%d times its inverse %d (%d): %d", a, inverse, e, f.Mul(a, inverse))
		}
		if other, ok := inverses[inverse]; ok {
			t.Errorf("%d is the inverse of %d and of %d", inverse, other, a)
		}
		inverses[inverse] = a
	}
}

// P2.3: powers of 2 go through all elements but 0, each once, and then begin again.
func TestPowers(t *testing.T) {
	f := field.New()
	at := map[byte]int{}
	for i := range 255 {
		power := f.Pow(2, i)
		if j, ok := at[power]; ok || power == 0 {
			t.Errorf("the power %d is %d, as the power %d", i, power, j)
		}
		at[power] = i
		if n, e := f.Log(power); n != i || e != api.OK {
			t.Errorf("Log(Pow(2, %d)) = %d %d", i, n, e)
		}
		if again := f.Pow(2, i+255); again != power {
			t.Errorf("Pow(2, %d) = %d, Pow(2, %d) = %d", i, power, i+255, again)
		}
	}
}
