package field_test

import (
	"math/rand"
	"slices"
	"testing"

	"cooperage/field"
)

// some is bytes that look like chance, and are the same each time.
func some(seed int64, n int) []byte {
	b := make([]byte, n)
	rand.New(rand.NewSource(seed)).Read(b)
	return b
}

// P2.2, sums of products: the example, lists of unlike lengths, no lists.
func TestDot(t *testing.T) {
	f := field.New()
	for _, c := range []struct {
		a, b []byte
		want byte
	}{
		{[]byte{1, 2}, []byte{3, 4}, 11},
		{[]byte{1, 2, 7}, []byte{3, 4}, 11},
		{[]byte{1, 2}, []byte{3, 4, 7}, 11},
		{[]byte{2}, []byte{128}, 29},
		{[]byte{9, 9}, []byte{5, 5}, 0},
		{[]byte{0, 0}, []byte{5, 6}, 0},
		{[]byte{5}, nil, 0},
		{nil, []byte{5}, 0},
		{[]byte{5}, []byte{}, 0},
		{nil, nil, 0},
	} {
		if got := f.Dot(c.a, c.b); got != c.want {
			t.Errorf("Dot(%v, %v) = %d, want %d", c.a, c.b, got, c.want)
		}
	}
}

// P2.2, what is laid on a list: the example, lists of unlike lengths, no lists.
func TestLay(t *testing.T) {
	f := field.New()
	for _, c := range []struct {
		out  []byte
		c    byte
		x    []byte
		want []byte
	}{
		{[]byte{1, 1}, 2, []byte{3, 128}, []byte{7, 28}},
		{[]byte{1, 1, 9}, 2, []byte{3, 128}, []byte{7, 28, 9}},
		{[]byte{1, 1}, 2, []byte{3, 128, 9}, []byte{7, 28}},
		{[]byte{1, 1}, 0, []byte{3, 128}, []byte{1, 1}},
		{[]byte{1, 1}, 1, []byte{3, 128}, []byte{2, 129}},
		{[]byte{0, 0}, 2, []byte{0, 64}, []byte{0, 128}},
		{[]byte{5, 6}, 7, nil, []byte{5, 6}},
		{[]byte{5, 6}, 7, []byte{}, []byte{5, 6}},
		{nil, 7, []byte{5, 6}, nil},
		{[]byte{}, 7, []byte{5, 6}, nil},
		{nil, 7, nil, nil},
	} {
		if got := f.Lay(c.out, c.c, c.x); !slices.Equal(got, c.want) {
			t.Errorf("Lay(%v, %d, %v) = %v, want %v", c.out, c.c, c.x, got, c.want)
		}
	}
}

// P2.2: lists of many lengths, held against products one by one.
func TestListsSample(t *testing.T) {
	f := field.New()
	for i := range 400 {
		seed := int64(3 * i)
		a, b, c := some(seed, i%41), some(seed+1, i%37), some(seed+2, 1)[0]
		var dot byte
		laid := slices.Clone(a)
		for j := range min(len(a), len(b)) {
			dot ^= product(a[j], b[j])
			laid[j] ^= product(c, b[j])
		}
		if got := f.Dot(a, b); got != dot {
			t.Errorf("Dot(%v, %v) = %d, want %d", a, b, got, dot)
		}
		if got := f.Lay(a, c, b); !slices.Equal(got, laid) {
			t.Errorf("Lay(%v, %d, %v) = %v, want %v", a, c, b, got, laid)
		}
	}
}

// P2.2: all that can be laid on one element.
func TestLayAll(t *testing.T) {
	f := field.New()
	all := make([]byte, 256)
	for i := range all {
		all[i] = byte(i)
	}
	for i := range 256 {
		c := byte(i)
		for j, got := range f.Lay(all, c, all) {
			if want := byte(j) ^ product(c, byte(j)); got != want {
				t.Fatalf("%d times %d laid on it: %d, want %d", c, j, got, want)
			}
		}
	}
}
