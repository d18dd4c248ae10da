package bytes_test

import (
	"slices"
	"testing"

	"cooperage/api"
	own "cooperage/bytes"
)

// P1.4: what was sent comes, one thing behind the other.
func TestSentComes(t *testing.T) {
	out := []byte("ahead")
	numbers := sample()
	for i, n := range numbers {
		out = own.Uint(out, n)
		out = own.Blob(out, some(int64(i), i))
	}
	at := len("ahead")
	for i, want := range numbers {
		n, next, e := own.GetUint(out, at)
		if n != want || e != api.OK {
			t.Fatalf("number %d: %d %d, want %d", i, n, e, want)
		}
		s, behind, e := own.GetBlob(out, next, i)
		if !slices.Equal(s, some(int64(i), i)) || e != api.OK {
			t.Fatalf("string %d: %v %d", i, s, e)
		}
		at = behind
	}
	if at != len(out) {
		t.Errorf("%d bytes of %d have come", at, len(out))
	}
}

// P1.4: what was sealed comes, by any table.
func TestSealedComes(t *testing.T) {
	table := own.Table()
	for n := range 200 {
		b := some(int64(n), n)
		for _, by := range []*api.Table{&table, {1, 2, 3}, nil} {
			if got, e := own.Unseal(by, own.Seal(by, b)); !slices.Equal(got, b) || e != api.OK {
				t.Fatalf("%v came as %v, %d", b, got, e)
			}
		}
	}
}

// turn is b with those bits turned that turned has, so far from the end.
func turn(b, turned []byte, end int) []byte {
	out := slices.Clone(b)
	first := len(b) - end - len(turned)
	for i, c := range turned {
		out[first+i] ^= c
	}
	return out
}

// change is how the sum of b is another one when those bits are turned.
func change(table *api.Table, b, turned []byte, end int) uint32 {
	return own.Sum(table, b) ^ own.Sum(table, turn(b, turned, end))
}

// P1.4: how a sum changes hangs on the bits, and how far from the end they are; changes of several add up.
func TestChange(t *testing.T) {
	table := own.Table()
	for i := range 300 {
		seed, size, end := int64(i), 1+i%7, i%50
		turned := some(seed+1000, size)
		want := change(&table, make([]byte, end+size), turned, end)
		b := some(seed, end+size+i%13)
		if got := change(&table, b, turned, end); got != want {
			t.Errorf("%v turned in %v, %d from the end: %08x, want %08x", turned, b, end, got, want)
		}
		also := some(seed+2000, size)
		both := turn(turned, also, 0)
		if got := change(&table, b, both, end); got != want^change(&table, b, also, end) {
			t.Errorf("%v and %v turned, %d from the end: %08x", turned, also, end, got)
		}
	}
}

// bitChanges is how each bit of so many bytes changes a sum, so far from the end.
func bitChanges(table *api.Table, size, end int) []uint32 {
	b := make([]byte, size+end)
	var all []uint32
	for i := range 8 * size {
		turned := make([]byte, size)
		turned[i/8] = 1 << (i % 8)
		all = append(all, change(table, b, turned, end))
	}
	return all
}

// independent tells whether no xor of some of these is 0.
func independent(all []uint32) bool {
	var leading [32]uint32
	for _, n := range all {
		for i := range leading {
			if n>>i&1 == 1 {
				n ^= leading[i]
				if leading[i] == 0 {
					leading[i] = n
					break
				}
			}
		}
		if n == 0 {
			return false
		}
	}
	return true
}

// P1.4: bits within four bytes next to each other. As changes add up, all 2^32 - 1 choices are told by 32 of one bit.
func TestFourBytes(t *testing.T) {
	if independent([]uint32{5, 6, 3}) || !independent([]uint32{5, 6, 4}) || independent([]uint32{0}) {
		t.Fatal("what is independent is told wrongly")
	}
	table := own.Table()
	for end := range 600 {
		if !independent(bitChanges(&table, 4, end)) {
			t.Errorf("some bits of four bytes, %d from the end, change nothing", end)
		}
	}
}

// P1.4: one bit, or two of them, however far from each other.
func TestTwoBits(t *testing.T) {
	table := own.Table()
	at := map[uint32]int{0: -1}
	for i, c := range bitChanges(&table, 1<<11, 0) {
		if j, ok := at[c]; ok {
			t.Fatalf("the bits %d and %d together change nothing", j, i)
		}
		at[c] = i
	}
}

func checkRefused(t *testing.T, table *api.Table, b []byte) {
	t.Helper()
	if got, e := own.Unseal(table, b); len(got) != 0 || e != api.ErrSum {
		t.Fatalf("%v came as %v, %d", b, got, e)
	}
}

// P1.4: what was sealed is refused with one bit or two turned anywhere, in the sum too.
func TestTurnedBitsRefused(t *testing.T) {
	table := own.Table()
	for _, size := range []int{0, 1, 4, 30} {
		sealed := own.Seal(&table, some(int64(size), size))
		for i := range 8 * len(sealed) {
			one := slices.Clone(sealed)
			one[i/8] ^= 1 << (i % 8)
			checkRefused(t, &table, one)
			for j := range i {
				two := slices.Clone(one)
				two[j/8] ^= 1 << (j % 8)
				checkRefused(t, &table, two)
			}
		}
	}
}

// P1.4: and with any bits turned within four bytes of it, or of its sum.
func TestTurnedBytesRefused(t *testing.T) {
	table := own.Table()
	sealed := own.Seal(&table, some(1, 40))
	for i := range 20000 {
		turned := some(int64(i), 4)
		if slices.Equal(turned, make([]byte, 4)) {
			continue
		}
		checkRefused(t, &table, turn(sealed, turned, 4+i%37))
		checkRefused(t, &table, turn(sealed, turned, 0))
	}
}
