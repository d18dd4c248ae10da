package bytes_test

import (
	"hash/crc32"
	"math/rand"
	"testing"

	"cooperage/api"
	own "cooperage/bytes"
)

// some is bytes that look like chance, and are the same each time.
func some(seed int64, n int) []byte {
	b := make([]byte, n)
	rand.New(rand.NewSource(seed)).Read(b)
	return b
}

// P1.3: the table, halved bit by bit as the chapter's words have it.
func TestTable(t *testing.T) {
	table := own.Table()
	if table[0] != 0 || table[128] != 2197175160 {
		t.Errorf("table at 0, 128: %d, %d", table[0], table[128])
	}
	for i, got := range table {
		want := uint32(i)
		for range 8 {
			rest := want % 2
			want /= 2
			if rest == 1 {
				want ^= 2197175160
			}
		}
		if got != want {
			t.Errorf("table at %d: %d, want %d", i, got, want)
		}
	}
	table[7] = 0
	if again := own.Table(); again[7] == 0 {
		t.Error("a table that was changed comes again")
	}
}

// P1.3, sums: the example, no bytes, no table.
func TestSum(t *testing.T) {
	table := own.Table()
	if s := own.Sum(&table, []byte("123456789")); s != 3808858755 {
		t.Errorf("sum of 123456789: %d", s)
	}
	if a, b := own.Sum(&table, nil), own.Sum(&table, []byte{}); a != 0 || b != 0 {
		t.Errorf("sums of nothing: %d, %d", a, b)
	}
	if a, b := own.Sum(nil, []byte("123456789")), own.Sum(nil, nil); a != 0 || b != 0 {
		t.Errorf("sums without a table: %d, %d", a, b)
	}
}

// P1.3 against another program of the same sum.
func TestSumSample(t *testing.T) {
	table, other := own.Table(), crc32.MakeTable(crc32.Castagnoli)
	for n := range 300 {
		b := some(int64(n), n)
		if got, want := own.Sum(&table, b), crc32.Checksum(b, other); got != want {
			t.Errorf("sum of %v: %d, want %d", b, got, want)
		}
	}
}

// P1.3: sums go by the table that is handed in, whatever it has.
func TestSumOtherTable(t *testing.T) {
	ieee := api.Table(*crc32.IEEETable)
	if got, want := own.Sum(&ieee, []byte("123456789")), uint32(0xcbf43926); got != want {
		t.Errorf("by another table: %d, want %d", got, want)
	}
	// Without anything in the table four bytes shift all of the start out.
	for n, want := range []uint32{0, 0xff000000, 0xffff0000, 0xffffff00, 0xffffffff, 0xffffffff} {
		if got := own.Sum(&api.Table{}, some(3, n)); got != want {
			t.Errorf("by noughts, of %d bytes: %d, want %d", n, got, want)
		}
	}
}

// P1.3, sealed: the sum stands behind the bytes, what weighs most first.
func TestSeal(t *testing.T) {
	table := own.Table()
	for _, c := range []struct {
		t       *api.Table
		b, want string
	}{
		{&table, "", "\x00\x00\x00\x00"},
		{&table, "123456789", "123456789\xe3\x06\x92\x83"},
		{nil, "", "\x00\x00\x00\x00"},
		{nil, "ab", "ab\x00\x00\x00\x00"},
		{&api.Table{}, "a", "a\xff\x00\x00\x00"},
	} {
		if got := own.Seal(c.t, []byte(c.b)); string(got) != c.want {
			t.Errorf("Seal(%q) = %q, want %q", c.b, got, c.want)
		}
		if got, e := own.Unseal(c.t, []byte(c.want)); string(got) != c.b || e != api.OK {
			t.Errorf("Unseal(%q) = %q %d, want %q", c.want, got, e, c.b)
		}
	}
	if got := own.Seal(&table, nil); string(got) != "\x00\x00\x00\x00" {
		t.Errorf("Seal(nil) = %q", got)
	}
}

// P1.3: what is refused, and that nothing comes beside it.
func TestUnsealRefused(t *testing.T) {
	table := own.Table()
	for _, c := range []struct {
		t *api.Table
		b string
		e api.Errno
	}{
		{&table, "", api.ErrShort},
		{&table, "\x00", api.ErrShort},
		{&table, "\x00\x00\x00", api.ErrShort},
		{nil, "\x00\x00\x00", api.ErrShort},
		{&table, "\x00\x00\x00\x01", api.ErrSum},
		{&table, "\x01\x00\x00\x00", api.ErrSum},
		{&table, "a\x00\x00\x00\x00", api.ErrSum},
		{&table, "123456789\x83\x92\x06\xe3", api.ErrSum},
		{&table, "123456788\xe3\x06\x92\x83", api.ErrSum},
		{&table, "123456789\xe3\x06\x92\x83\x00", api.ErrSum},
		{&table, "23456789\xe3\x06\x92\x83", api.ErrSum},
		{nil, "123456789\xe3\x06\x92\x83", api.ErrSum},
		{&api.Table{}, "123456789\xe3\x06\x92\x83", api.ErrSum},
	} {
		if got, e := own.Unseal(c.t, []byte(c.b)); len(got) != 0 || e != c.e {
			t.Errorf("Unseal(%q) = %q %d, want %d", c.b, got, e, c.e)
		}
	}
	if got, e := own.Unseal(&table, nil); len(got) != 0 || e != api.ErrShort {
		t.Errorf("Unseal(nil) = %q %d", got, e)
	}
}
