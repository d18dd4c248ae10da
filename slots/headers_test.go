package slots_test

import (
	"bytes"
	"encoding/binary"
	"hash/crc32"
	"math"
	"slices"
	"testing"

	"cooperage/api"
	own "cooperage/bytes"
	"cooperage/slots"
)

// P6.1: one sector, and as many as the bytes need.
func TestSlot(t *testing.T) {
	for size, want := range map[int]int{0: 1, 1: 2, 63: 2, 64: 2, 65: 3, 100: 3, 128: 3, 129: 4, 65472: 1024, 65473: 1025, 65535: 1025, 65536: 1025} {
		if got := slots.Slot(size); got != want {
			t.Errorf("Slot(%d): %d, want %d", size, got, want)
		}
	}
	for size := range api.MaxShard + 1 {
		many := slots.Slot(size) - 1
		if many*64 < size || many > 0 && (many-1)*64 >= size {
			t.Fatalf("Slot(%d): %d", size, many+1)
		}
	}
	for _, size := range []int{-1, -64, -65, math.MinInt, api.MaxShard + 1, 1 << 32, 1<<32 + 1, math.MaxInt, math.MaxInt - 63} {
		if got := slots.Slot(size); got != 0 {
			t.Errorf("Slot(%d): %d, want 0", size, got)
		}
	}
}

// P6.1: a header, number by number.
func TestHeadByHand(t *testing.T) {
	castagnoli := crc32.MakeTable(crc32.Castagnoli)
	want := []byte{2, 172, 2, 254, 1, 128, 128, 128, 128, 128, 32, 9}
	want = binary.AppendUvarint(want, uint64(crc32.Checksum([]byte("123456789"), castagnoli)))
	want = append(want, make([]byte, 60-len(want))...)
	want = binary.BigEndian.AppendUint32(want, crc32.Checksum(want, castagnoli))
	got, e := slots.Head(crc(), committed(300, 254, 1<<40, []byte("123456789")))
	if e != api.OK || !bytes.Equal(got, want) {
		t.Errorf("Head: %v, %d, want %v", got, e, want)
	}
	got, e = slots.Head(crc(), prepared(0, 0, 1, nil))
	if e != api.OK || len(got) != 64 || !bytes.Equal(got[:7], []byte{1, 0, 0, 1, 0, 0, 0}) {
		t.Errorf("Head of the least: %v, %d", got, e)
	}
}

// rights is right slots, those at the edges among them.
func rights() []api.Slot {
	var all []api.Slot
	for _, stripe := range []int{0, 1, 127, 128, 300, 1<<40 - 1, api.MaxStripe} {
		for _, index := range []int{0, 1, 127, 128, api.MaxSide - 1} {
			for _, version := range []int{1, 2, 128, 1 << 32, api.MaxStripe} {
				for _, many := range []int{0, 1, 2, 64, 100} {
					all = append(all, prepared(stripe, index, version, of(many, many)), committed(stripe, index, version, of(many+1, many)))
				}
			}
		}
	}
	return append(all, prepared(7, 0, 1, of(1, api.MaxShard)), committed(7, 0, 1, of(1, api.MaxShard-1)), prepared(7, 0, 1, make([]byte, 64)), prepared(7, 0, 1, []byte{}))
}

// tables is that of the sums, one by which all long bytes have one sum, another one, and none.
func tables() []*api.Table {
	odd := crc()
	for i := range odd {
		odd[i] ^= 1 << 20
	}
	return []*api.Table{crc(), {}, odd, nil}
}

// plainHead is a slot's header, by a table or without one: all sums are 0 then.
func plainHead(table *api.Table, x api.Slot) []byte {
	if table != nil {
		return head(table, x)
	}
	var b []byte
	for _, n := range []int{int(x.State), x.Stripe, x.Index, x.Version, len(x.Bytes), 0} {
		b = binary.AppendUvarint(b, uint64(n))
	}
	return append(b, make([]byte, 64-len(b))...)
}

// P6.1: of all right slots the header, which is told apart.
func TestHeadParse(t *testing.T) {
	for i, table := range tables() {
		for _, x := range rights() {
			b, e := slots.Head(table, x)
			if e != api.OK || !bytes.Equal(b, plainHead(table, x)) {
				t.Fatalf("table %d: Head(%v): %v, %d, want %v", i, x, b, e, plainHead(table, x))
			}
			y, many, s, ok := slots.Parse(table, b)
			if !ok || many != len(x.Bytes) || s != own.Sum(table, x.Bytes) || len(y.Bytes) != 0 || y.State != x.State || !numbers(y, x.Stripe, x.Index, x.Version) {
				t.Fatalf("table %d: Parse of Head(%v): %v, %d, %d, %v", i, x, y, many, s, ok)
			}
		}
	}
}

// P6.1: no right slot.
func TestHeadWrong(t *testing.T) {
	long := make([]byte, api.MaxShard+1)
	wrongs := []api.Slot{
		{}, prepared(-1, 0, 1, nil), prepared(math.MinInt, 0, 1, nil), prepared(api.MaxStripe+1, 0, 1, nil), prepared(math.MaxInt, 0, 1, nil),
		prepared(0, -1, 1, nil), prepared(0, math.MinInt, 1, nil), prepared(0, api.MaxSide, 1, nil), prepared(0, 256, 1, nil), prepared(0, math.MaxInt, 1, nil),
		prepared(0, 0, 0, nil), prepared(0, 0, -1, nil), prepared(0, 0, math.MinInt, nil), prepared(0, 0, api.MaxStripe+1, nil), prepared(0, 0, math.MaxInt, nil),
		prepared(0, 0, 1, long), committed(0, 0, 1, long), committed(-1, 0, 1, nil), committed(0, api.MaxSide, 1, nil), committed(0, 0, 0, nil),
		{Version: 1, State: api.Free}, {Version: 1, State: 3}, {Version: 1, State: 128}, {Version: 1, State: 255},
	}
	for _, table := range tables() {
		for _, x := range wrongs {
			if b, e := slots.Head(table, x); len(b) != 0 || e != api.ErrArg {
				t.Errorf("Head(%d %d %d %d of %d bytes): %v, %d", x.Stripe, x.Index, x.Version, x.State, len(x.Bytes), b, e)
			}
		}
	}
}

// refuses asks whether bytes are no header.
func refuses(t *testing.T, what string, table *api.Table, b []byte) {
	t.Helper()
	if x, many, s, ok := slots.Parse(table, b); ok || many != 0 || s != 0 || x.State != 0 || len(x.Bytes) != 0 || !numbers(x, 0, 0, 0) {
		t.Errorf("Parse of %s: %v, %d, %d, %v", what, x, many, s, ok)
	}
}

// P6.1: each byte of a header counts, and how many there are.
func TestParseTurned(t *testing.T) {
	for _, x := range []api.Slot{prepared(300, 5, 1, []byte("ab")), committed(0, 0, 1, nil)} {
		b := head(crc(), x)
		for at := range b {
			for _, turn := range []byte{1, 2, 3, 64, 128, 255} {
				turned := bytes.Clone(b)
				turned[at] ^= turn
				refuses(t, "one that was turned", crc(), turned)
			}
		}
		for long := range b {
			refuses(t, "one that is short", crc(), b[:long])
		}
		refuses(t, "one with a nought behind", crc(), append(bytes.Clone(b), 0))
		refuses(t, "two", crc(), slices.Concat(b, b))
		refuses(t, "one by another table", tables()[2], b)
		refuses(t, "one by a table of noughts", tables()[1], b)
		refuses(t, "one without a table", nil, b)
	}
	for _, table := range tables() {
		refuses(t, "noughts", table, make([]byte, 64))
		refuses(t, "none", table, nil)
		refuses(t, "255s", table, bytes.Repeat([]byte{255}, 64))
		refuses(t, "many", table, make([]byte, 1<<16))
	}
	refuses(t, "noughts, sealed", crc(), sealed(crc(), nil))
}

// P6.1: numbers that no right slot has, rightly sealed: also those that are right by the lowest of their bits.
func TestParseNumbers(t *testing.T) {
	right := []uint64{1, 7, 2, 3, 4, 5}
	if _, _, _, ok := slots.Parse(crc(), numbered(crc(), right...)); !ok {
		t.Fatal("Parse refuses what is right")
	}
	wrongs := [6][]uint64{
		{0, 3, 127, 255, 256, 257, 258, 1<<32 + 1, 1<<63 + 2, math.MaxUint64},
		{1<<40 + 1, 1 << 41, 1 << 63, 1<<63 + 7, math.MaxInt64, math.MaxUint64},
		{255, 256, 258, 1<<32 + 2, 1<<63 + 2, math.MaxUint64},
		{0, 1<<40 + 1, 1 << 63, 1<<63 + 3, math.MaxInt64, math.MaxUint64},
		{65537, 1 << 17, 1<<32 + 4, 1 << 63, 1<<63 + 4, math.MaxUint64},
		{1 << 32, 1<<32 + 5, 1<<63 + 5, math.MaxUint64},
	}
	for i, all := range wrongs {
		for _, n := range all {
			wrong := slices.Clone(right)
			wrong[i] = n
			refuses(t, "a wrong number", crc(), numbered(crc(), wrong...))
		}
	}
	edges := [6][]uint64{{1, 2}, {0, 1 << 40}, {0, 254}, {1, 1 << 40}, {65536}, {0, 1<<32 - 1}}
	for i, all := range edges {
		for _, n := range all {
			edge := slices.Clone(right)
			edge[i] = n
			x, many, s, ok := slots.Parse(crc(), numbered(crc(), edge...))
			got := []uint64{uint64(x.State), uint64(x.Stripe), uint64(x.Index), uint64(x.Version), uint64(many), uint64(s)}
			if !ok || !slices.Equal(got, edge) {
				t.Errorf("Parse of %v: %v, %v", edge, got, ok)
			}
		}
	}
}

// P6.1: of each header there is one form: its numbers in theirs, noughts behind them, and the seal at the end.
func TestParseForms(t *testing.T) {
	b := []byte{1, 7, 2, 3, 4, 5}
	for i := range b {
		longer := slices.Concat(b[:i], []byte{b[i] + 128, 0}, b[i+1:])
		refuses(t, "a number that goes on with 0", crc(), sealed(crc(), longer))
	}
	for at := len(b); at < 60; at++ {
		behind := append(bytes.Clone(b), make([]byte, 60-len(b))...)
		behind[at] = 1
		refuses(t, "one with something behind the numbers", crc(), sealed(crc(), behind))
	}
	for many := range 4 {
		refuses(t, "too few numbers", crc(), sealed(crc(), b[:many]))
	}
	near := own.Seal(crc(), b)
	refuses(t, "one whose seal is near", crc(), append(near, make([]byte, 64-len(near))...))
	refuses(t, "numbers up to the end", crc(), sealed(crc(), bytes.Repeat([]byte{129}, 60)))
	whole := sealed(crc(), b)
	slices.Reverse(whole[60:])
	refuses(t, "one whose seal is turned about", crc(), whole)
}
