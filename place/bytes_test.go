package place_test

import (
	"fmt"
	"math"
	"slices"
	"testing"

	"cooperage/api"
	"cooperage/place"
)

// P9.3: how many, of each the Epoch, how many Nodes, these.
func TestBytes(t *testing.T) {
	for _, x := range []struct {
		l []api.Place
		b []byte
	}{
		{[]api.Place{at(1, 0)}, []byte{1, 1, 1, 0}},
		{[]api.Place{at(127, 5, 3)}, []byte{1, 127, 2, 5, 3}},
		{[]api.Place{at(128, 127, 128, 255)}, []byte{1, 128, 1, 3, 127, 128, 1, 255, 1}},
		{[]api.Place{at(2, 7), at(300, 9, 7)}, []byte{2, 2, 1, 7, 172, 2, 2, 9, 7}},
		{[]api.Place{at(far, 1)}, []byte{1, 128, 128, 128, 128, 128, 32, 1, 1}},
	} {
		if b := put(t, x.l); !slices.Equal(b, x.b) {
			t.Errorf("Bytes of %v: %v, want %v", x.l, b, x.b)
		}
		l, e := place.Read(x.b)
		is(t, "Read", e, api.OK)
		has(t, "Read", l, x.l...)
	}
}

// P9.3: of placements that are not right ErrPlace; nor are their bytes those of any.
func TestBytesNotRight(t *testing.T) {
	for name, l := range wrong() {
		if b, e := place.Bytes(l); e != api.ErrPlace || len(b) != 0 {
			t.Errorf("Bytes of %s: %d bytes, %d", name, len(b), e)
		}
		m, e := place.Read(laid(l))
		if e != api.ErrPlace || len(m) != 0 {
			t.Errorf("Read of %s: %s, %d", name, tell(m), e)
		}
	}
}

// P9.3: Read of all strings of a few bytes.
func TestReadAllShort(t *testing.T) {
	kinds := []byte{0, 1, 2, 127, 128, 129, 255}
	found := 0
	var lay func(b []byte)
	lay = func(b []byte) {
		reads(t, b)
		if _, e := place.Read(b); e == api.OK {
			found++
		}
		for _, x := range kinds {
			if len(b) < 6 {
				lay(append(slices.Clone(b), x))
			}
		}
	}
	lay(nil)
	if found < 100 {
		t.Errorf("only %d were bytes of placements", found)
	}
}

// P9.3: bytes of placements, of which one is another, is gone, or is there once more.
func TestReadSpoilt(t *testing.T) {
	c := chance(3)
	for _, l := range [][]api.Place{{at(1, 0)}, {at(200, 1, 130)}, {at(far, 5, 6), at(7, 255)}, c.places(9, 5, 256), c.places(130, 2, 3)} {
		b := put(t, l)
		step := 1 + len(b)/10 // a long one is not spoilt in all ways
		for i := range b {
			reads(t, b[:i])
			reads(t, b[i:])
			reads(t, slices.Delete(slices.Clone(b), i, i+1))
			for _, x := range []int{0, 1, 2, 127, 128, 129, 255, int(b[i])} {
				reads(t, slices.Insert(slices.Clone(b), i, byte(x)))
			}
			for x := i % step; x < 256; x += step {
				other := slices.Clone(b)
				other[i] = byte(x)
				reads(t, other)
			}
		}
		for x := range 256 {
			reads(t, append(slices.Clone(b), byte(x)))
		}
		reads(t, append(slices.Clone(b), b...))
	}
}

// P9.3: numbers at, and above, what each may be; some of them are far above what an int has.
func TestReadNumbers(t *testing.T) {
	greats := []uint64{0, 1, 2, 3, 127, 128, 254, 255, 256, 257, 258, 999, 1000, 1001, 1 << 16, 1<<16 + 1, 1 << 31, 1 << 32, 1<<32 + 1, 1<<32 + 2, far - 1, far, far + 1, 1 << 41, 1<<41 + 1, 1<<62 + 1, math.MaxInt64, 1 << 63, 1<<63 + 1, 1<<63 + 2, math.MaxUint64 - 1, math.MaxUint64}
	for _, n := range greats {
		for i, b := range [][]byte{
			numbers(n, 1, 1, 0), numbers(1, n, 1, 0), numbers(1, 1, n, 0), numbers(1, 1, 1, n), numbers(1, 1, 2, 4, n), numbers(1, 1, 2, n, 4),
			numbers(2, 1, 1, 0, n, 1, 0), numbers(2, 1, 1, 0, 1, n, 0), numbers(2, 1, 1, 0, 1, 1, n), numbers(n), numbers(1, 1, n), numbers(1, n), numbers(n, n, n, n),
		} {
			reads(t, b)
			if n > far {
				if l, e := place.Read(b); e != api.ErrPlace || len(l) != 0 {
					t.Errorf("the %d-th with %d: %s, %d", i, n, tell(l), e)
				}
			}
		}
	}
}

// P9.3: a number in another form than bytes.Uint's is none.
func TestReadOtherForms(t *testing.T) {
	for _, b := range [][]byte{
		{129, 0, 1, 1, 0}, {1, 129, 0, 1, 0}, {1, 1, 129, 0, 0}, {1, 1, 1, 128, 0}, {1, 1, 1, 128, 128, 0},
		{1, 1, 1, 255, 255, 255, 255, 255, 255, 255, 255, 255, 2}, {1, 1, 1, 128, 128, 128, 128, 128, 128, 128, 128, 128, 128, 0},
		{1, 1, 1, 128}, {1, 1, 128}, {1, 128}, {128}, {},
	} {
		if l, e := place.Read(b); e != api.ErrPlace || len(l) != 0 {
			t.Errorf("Read(%v): %s, %d", b, tell(l), e)
		}
	}
	if l, e := place.Read(nil); e != api.ErrPlace || len(l) != 0 {
		t.Errorf("Read of nothing: %s, %d", tell(l), e)
	}
}

// P9.3: behind a number that is too great no other one stands for it.
func TestReadTooGreatAndMore(t *testing.T) {
	for _, n := range []uint64{256, 1000, 1001, 1 << 20, far + 1, math.MaxUint64} {
		for _, more := range []uint64{1, 255, far} {
			reads(t, numbers(1, 1, n, more, 0))
			reads(t, numbers(1, 1, 1, n, more))
			reads(t, numbers(n, 1, more, 0))
			reads(t, numbers(2, 1, 1, n, 5, 1, 3))
			reads(t, numbers(2, n, 1, 4, 5, 1, 3))
			reads(t, numbers(1001, 1, 1, n, more))
		}
	}
}

// P9.3: what is put is read, of any placements; of as many as there may be, too.
func TestPutIsRead(t *testing.T) {
	c := chance(4)
	lists := map[string][]api.Place{"the greatest": nil, "as First": first(t, 256, 255, 1000)}
	for range 1000 {
		lists["the greatest"] = append(lists["the greatest"], at(far, c.nodes(255, 256)...))
	}
	for i := range 200 {
		lists[fmt.Sprint("by chance ", i)] = c.places(1+c.below(20), 1+c.below(255), 255+c.below(2))
	}
	for name, l := range lists {
		b := put(t, l)
		if !slices.Equal(b, laid(l)) {
			t.Fatalf("Bytes of %s: other ones, %d", name, len(b))
		}
		m, e := place.Read(b)
		is(t, "Read of "+name, e, api.OK)
		has(t, "Read of "+name, m, l...)
	}
}

// P9.3: of two different lists the bytes are different.
func TestBytesTellApart(t *testing.T) {
	seen := map[string]string{}
	var lay func(l []api.Place)
	lay = func(l []api.Place) {
		if len(l) > 0 {
			b, name := string(put(t, l)), fmt.Sprint(l)
			if seen[b] != "" {
				t.Fatalf("%s and %s have the same bytes", name, seen[b])
			}
			seen[b] = name
		}
		for _, p := range []api.Place{at(1, 0), at(1, 1), at(2, 0), at(2, 1, 0), at(1, 2, 1), at(1, 2, 1, 0), at(3, 1, 2)} {
			if len(l) < 3 {
				lay(append(slices.Clone(l), p))
			}
		}
	}
	lay(nil)
	if len(seen) != 7+49+343 {
		t.Errorf("%d lists", len(seen))
	}
}
