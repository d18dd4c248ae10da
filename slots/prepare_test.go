package slots_test

import (
	"bytes"
	"math"
	"slices"
	"testing"

	"cooperage/api"
	"cooperage/slots"
)

// P6.1 to P6.4: the chapter's example.
func TestExample(t *testing.T) {
	d := made(t, 6)
	s := opened(t, d, crc(), 100)
	rooms(t, s, 2)
	now := func(version int, want string) {
		t.Helper()
		if x, ok := s.Now(7, 0); !ok || !same(x, committed(7, 0, version, []byte(want))) {
			t.Errorf("Now: %v, %v", x, ok)
		}
	}
	is(t, "Prepare", s.Prepare(7, 0, 1, []byte("ab")), api.OK)
	is(t, "Commit", s.Commit(7, 0, 1), api.OK)
	now(1, "ab")
	is(t, "Prepare", s.Prepare(7, 0, 2, []byte("cd")), api.OK)
	now(1, "ab")
	rooms(t, s, 0)
	is(t, "Prepare, no room", s.Prepare(8, 0, 1, []byte("e")), api.ErrSpace)
	is(t, "Commit", s.Commit(7, 0, 2), api.OK)
	now(2, "cd")
	rooms(t, s, 1)
	is(t, "Commit, stale", s.Commit(7, 0, 1), api.ErrStale)
	is(t, "Abort, stale", s.Abort(7, 0, 2), api.ErrStale)
	lists(t, opened(t, d, crc(), 100), committed(7, 0, 2, []byte("cd")))
}

// P6.3: what is prepared stands in the first free place: its header, and its bytes, filled up.
func TestPrepareWrites(t *testing.T) {
	for _, many := range []int{0, 1, 63, 64, 65, 100, 128} {
		d := made(t, 9)
		for i := range 9 {
			if i%3 > 0 {
				put(t, d, i, of(i, 64))
			}
		}
		s := opened(t, d, crc(), 128)
		for place := range 3 {
			x := prepared(place+5, place, 3, of(place+40, many))
			is(t, "Prepare", s.Prepare(x.Stripe, x.Index, x.Version, x.Bytes), api.OK)
			d.Crash(nil)
			for at := range 3 {
				i := 3*place + at
				want := of(i, 64)
				if from := 64 * (at - 1); at == 0 {
					want = head(crc(), x)
				} else if from < many {
					want = make([]byte, 64)
					copy(want, x.Bytes[from:])
				}
				if !bytes.Equal(sector(t, d, i), want) {
					t.Errorf("the sector %d of %d bytes: %v, want %v", i, many, sector(t, d, i), want)
				}
			}
		}
	}
}

// P6.3: the first free place is taken, also one that became free.
func TestPrepareFirstFree(t *testing.T) {
	d := made(t, 8)
	s := opened(t, d, crc(), 64)
	for version := 1; version <= 4; version++ {
		is(t, "Prepare", s.Prepare(7, version, version, []byte("ab")), api.OK)
	}
	is(t, "Abort", s.Abort(7, 3, 3), api.OK)
	is(t, "Abort", s.Abort(7, 2, 2), api.OK)
	rooms(t, s, 2)
	for _, place := range []int{1, 2} {
		x := prepared(9, place, 9, []byte("cd"))
		is(t, "Prepare", s.Prepare(9, place, 9, x.Bytes), api.OK)
		if !bytes.Equal(sector(t, d, 2*place), head(crc(), x)) {
			t.Errorf("it is not in the place %d", place)
		}
	}
	rooms(t, s, 0)
}

// P6.3: the bytes are flushed ahead of the header; operation by operation.
func TestPrepareOrder(t *testing.T) {
	for _, c := range []struct {
		many   int
		cached [][]int // ahead of each operation
	}{
		{0, [][]int{{}, {3}}},
		{1, [][]int{{}, {4}, {}, {3}}},
		{64, [][]int{{}, {4}, {}, {3}}},
		{100, [][]int{{}, {4}, {4, 5}, {}, {3}}},
	} {
		for n := range len(c.cached) + 1 {
			d := made(t, 6)
			s := opened(t, d, crc(), 100)
			is(t, "Prepare", s.Prepare(1, 1, 1, nil), api.OK)
			d.Arm(n)
			e := s.Prepare(7, 0, 1, of(1, c.many))
			if n == len(c.cached) {
				if e != api.OK || d.Down() || s.Over() || len(d.Cached()) > 0 {
					t.Errorf("%d bytes, armed with %d: %d, Over %v, Cached %v", c.many, n, e, s.Over(), d.Cached())
				}
				lists(t, s, prepared(1, 1, 1, nil), prepared(7, 0, 1, of(1, c.many)))
				continue
			}
			if e != api.ErrDown || !s.Over() || !slices.Equal(d.Cached(), c.cached[n]) {
				t.Errorf("%d bytes, armed with %d: %d, Over %v, Cached %v", c.many, n, e, s.Over(), d.Cached())
			}
			lists(t, s, prepared(1, 1, 1, nil))
			rooms(t, s, 1)
		}
	}
}

// P6.3: numbers that no right slot has, and bytes that are too many; nothing is done.
func TestPrepareWrong(t *testing.T) {
	d := made(t, 6)
	s := opened(t, d, crc(), 100)
	d.Arm(0)
	for _, n := range [][3]int{
		{-1, 0, 1}, {math.MinInt, 0, 1}, {api.MaxStripe + 1, 0, 1}, {math.MaxInt, 0, 1},
		{0, -1, 1}, {0, math.MinInt, 1}, {0, api.MaxSide, 1}, {0, 256, 1}, {0, math.MaxInt, 1},
		{0, 0, 0}, {0, 0, -1}, {0, 0, math.MinInt}, {0, 0, api.MaxStripe + 1}, {0, 0, math.MaxInt},
	} {
		is(t, "Prepare", s.Prepare(n[0], n[1], n[2], []byte("ab")), api.ErrArg)
	}
	for _, many := range []int{101, 128, api.MaxShard, api.MaxShard + 1, 1 << 20} {
		is(t, "Prepare of many", s.Prepare(7, 0, 1, make([]byte, many)), api.ErrArg)
	}
	if d.Down() || s.Over() {
		t.Error("something was done")
	}
	lists(t, s)
	d.Crash(nil)
	for _, n := range [][3]int{{0, 0, 1}, {api.MaxStripe, api.MaxSide - 1, api.MaxStripe}} {
		is(t, "Prepare at the edge", s.Prepare(n[0], n[1], n[2], of(1, 100)), api.OK)
	}
	rooms(t, s, 0)
	none := opened(t, made(t, 2), crc(), 0)
	is(t, "Prepare of one, size 0", none.Prepare(0, 0, 1, []byte{0}), api.ErrArg)
	is(t, "Prepare of none, size 0", none.Prepare(0, 0, 1, nil), api.OK)
	great := opened(t, made(t, 1025), crc(), api.MaxShard)
	is(t, "Prepare of more than a shard", great.Prepare(0, 0, 1, make([]byte, api.MaxShard+1)), api.ErrArg)
	is(t, "Prepare of a whole shard", great.Prepare(0, 0, 1, of(3, api.MaxShard)), api.OK)
	is(t, "Commit", great.Commit(0, 0, 1), api.OK)
	if x, ok := great.Now(0, 0); !ok || !bytes.Equal(x.Bytes, of(3, api.MaxShard)) || !great.Sound(0, 0, 1) {
		t.Error("a whole shard is not there")
	}
}

// P6.3: of two errors of Prepare the one that is named first.
func TestPrepareErrors(t *testing.T) {
	d := made(t, 2)
	s := opened(t, d, crc(), 64)
	is(t, "Prepare", s.Prepare(7, 0, 5, []byte("ab")), api.OK)
	d.Arm(0)
	is(t, "the same again, no room", s.Prepare(7, 0, 5, []byte("ab")), api.OK)
	is(t, "other bytes, no room", s.Prepare(7, 0, 5, []byte("ac")), api.ErrSlot)
	is(t, "fewer bytes", s.Prepare(7, 0, 5, []byte("a")), api.ErrSlot)
	is(t, "more bytes", s.Prepare(7, 0, 5, []byte("ab\x00")), api.ErrSlot)
	is(t, "no bytes", s.Prepare(7, 0, 5, nil), api.ErrSlot)
	is(t, "too many bytes", s.Prepare(7, 0, 5, make([]byte, 65)), api.ErrArg)
	is(t, "a lesser version, no room", s.Prepare(7, 0, 4, nil), api.ErrSpace)
	is(t, "a lesser version, no right one", s.Prepare(7, 0, 0, nil), api.ErrArg)
	d.Crash(nil)
	is(t, "Commit", s.Commit(7, 0, 5), api.OK)
	d.Arm(0)
	is(t, "the same again, committed", s.Prepare(7, 0, 5, []byte("ab")), api.OK)
	is(t, "other bytes, committed", s.Prepare(7, 0, 5, []byte("ac")), api.ErrSlot)
	is(t, "a lesser version, stale and no room", s.Prepare(7, 0, 4, nil), api.ErrStale)
	is(t, "a greater version, no room", s.Prepare(7, 0, 6, nil), api.ErrSpace)
	is(t, "another index, no room", s.Prepare(7, 1, 4, nil), api.ErrSpace)
	is(t, "no right version", s.Prepare(7, 0, -1, nil), api.ErrArg)
	if d.Down() {
		t.Error("something was done")
	}
	lists(t, s, committed(7, 0, 5, []byte("ab")))
}

// P6.3: what is refused otherwise is refused ahead of the disk, and what is there already is told of a disk that is down.
func TestPrepareDown(t *testing.T) {
	d := made(t, 6)
	s := opened(t, d, crc(), 100)
	is(t, "Prepare", s.Prepare(7, 0, 2, []byte("ab")), api.OK)
	is(t, "Commit", s.Commit(7, 0, 2), api.OK)
	d.Arm(0)
	d.Flush()
	is(t, "Prepare of the same", s.Prepare(7, 0, 2, []byte("ab")), api.OK)
	is(t, "Prepare of others", s.Prepare(7, 0, 2, []byte("cd")), api.ErrSlot)
	is(t, "Prepare, stale", s.Prepare(7, 0, 1, []byte("ab")), api.ErrStale)
	is(t, "Prepare, wrong", s.Prepare(7, 0, 0, []byte("ab")), api.ErrArg)
	is(t, "Commit again", s.Commit(7, 0, 2), api.OK)
	is(t, "Commit, stale", s.Commit(7, 0, 1), api.ErrStale)
	is(t, "Commit of none", s.Commit(7, 0, 3), api.ErrSlot)
	is(t, "Abort, stale", s.Abort(7, 0, 1), api.ErrStale)
	is(t, "Abort of none", s.Abort(7, 0, 3), api.OK)
	is(t, "Drop of none", s.Drop(7, 0, 1), api.OK)
	if s.Over() {
		t.Error("it is over")
	}
	is(t, "Prepare", s.Prepare(7, 0, 3, []byte("ef")), api.ErrDown)
	if !s.Over() {
		t.Error("it is not over")
	}
}

// P6.3: versions may be prepared in any order, as long as no greater one is committed.
func TestPrepareVersions(t *testing.T) {
	s := opened(t, made(t, 20), crc(), 64)
	for _, version := range []int{5, 2, 9, 7, 1} {
		is(t, "Prepare", s.Prepare(7, 0, version, of(version, version)), api.OK)
	}
	is(t, "Commit", s.Commit(7, 0, 5), api.OK)
	lists(t, s, committed(7, 0, 5, of(5, 5)), prepared(7, 0, 7, of(7, 7)), prepared(7, 0, 9, of(9, 9)))
	rooms(t, s, 7)
	is(t, "Prepare, stale", s.Prepare(7, 0, 2, of(2, 2)), api.ErrStale)
	is(t, "Prepare, between", s.Prepare(7, 0, 6, of(6, 6)), api.OK)
	is(t, "Commit of the last", s.Commit(7, 0, 9), api.OK)
	lists(t, s, committed(7, 0, 9, of(9, 9)))
	rooms(t, s, 9)
}

// P6.3: a committed header, and the headers of lesser versions, the least first: operation by operation.
func TestCommitOrder(t *testing.T) {
	all := []api.Slot{prepared(7, 0, 3, []byte("c")), prepared(7, 0, 1, []byte("a")), prepared(7, 0, 4, []byte("d")), prepared(7, 0, 2, []byte("b")), prepared(7, 1, 1, []byte("e"))}
	// The places of the versions 3, 1, 4, 2 begin at the sectors 0, 2, 4, 6.
	cached := [][]int{{}, {0}, {}, {2}, {2, 6}, {}}
	for n := range 6 {
		d := made(t, 10)
		s := opened(t, d, crc(), 64)
		for _, x := range all {
			is(t, "Prepare", s.Prepare(x.Stripe, x.Index, x.Version, x.Bytes), api.OK)
		}
		d.Arm(n)
		e := s.Commit(7, 0, 3)
		if n < 5 && (e != api.ErrDown || !s.Over()) || n == 5 && (e != api.OK || s.Over() || d.Down()) || !slices.Equal(d.Cached(), cached[n]) {
			t.Errorf("armed with %d: %d, Over %v, Cached %v", n, e, s.Over(), d.Cached())
		}
		if n < 2 {
			lists(t, s, all[1], all[3], all[0], all[2], all[4])
			rooms(t, s, 0)
		} else {
			lists(t, s, committed(7, 0, 3, []byte("c")), all[2], all[4])
			rooms(t, s, 2)
		}
	}
}

// P6.3: what is struck out are headers alone, and the committed header is as it was but for its state.
func TestCommitWrites(t *testing.T) {
	d := made(t, 6)
	s := opened(t, d, crc(), 100)
	for version := 1; version <= 2; version++ {
		is(t, "Prepare", s.Prepare(7, 0, version, of(version, 100)), api.OK)
	}
	is(t, "Commit", s.Commit(7, 0, 1), api.OK)
	is(t, "Commit", s.Commit(7, 0, 2), api.OK)
	d.Crash(nil)
	want := slices.Concat(make([]byte, 64), of(1, 100), make([]byte, 28), head(crc(), committed(7, 0, 2, of(2, 100))), of(2, 100), make([]byte, 28))
	var got []byte
	for i := range 6 {
		got = append(got, sector(t, d, i)...)
	}
	if !bytes.Equal(got, want) {
		t.Errorf("the sectors are %v, want %v", got, want)
	}
}

// P6.3: errors of Commit; nothing is done.
func TestCommitErrors(t *testing.T) {
	d := made(t, 6)
	s := opened(t, d, crc(), 0)
	is(t, "Prepare", s.Prepare(7, 0, 3, nil), api.OK)
	is(t, "Commit", s.Commit(7, 0, 3), api.OK)
	is(t, "Prepare", s.Prepare(7, 0, 5, nil), api.OK)
	is(t, "Prepare", s.Prepare(8, 0, 5, nil), api.OK)
	d.Arm(0)
	is(t, "Commit again", s.Commit(7, 0, 3), api.OK)
	for _, version := range []int{2, 1, 0, -1, math.MinInt} {
		is(t, "Commit, stale", s.Commit(7, 0, version), api.ErrStale)
	}
	for _, version := range []int{4, 6, api.MaxStripe, api.MaxStripe + 1, math.MaxInt} {
		is(t, "Commit of none", s.Commit(7, 0, version), api.ErrSlot)
	}
	for _, n := range [][3]int{{8, 0, 4}, {8, 0, 6}, {8, 0, math.MinInt}, {8, 0, math.MaxInt}, {7, 1, 3}, {6, 0, 3}, {-1, 0, 3}, {7, -1, 3}, {7, 255, 5}, {math.MinInt, math.MinInt, math.MinInt}, {math.MaxInt, math.MaxInt, math.MaxInt}} {
		is(t, "Commit of none", s.Commit(n[0], n[1], n[2]), api.ErrSlot)
	}
	if d.Down() || s.Over() {
		t.Error("something was done")
	}
	lists(t, s, committed(7, 0, 3, nil), prepared(7, 0, 5, nil), prepared(8, 0, 5, nil))
}

// P6.2, P6.3: slots that are over refuse all that changes something, whatever it is handed, and tell what was there.
func TestOver(t *testing.T) {
	d := made(t, 9)
	s := opened(t, d, crc(), 100)
	is(t, "Prepare", s.Prepare(7, 0, 1, []byte("ab")), api.OK)
	is(t, "Commit", s.Commit(7, 0, 1), api.OK)
	is(t, "Prepare", s.Prepare(7, 0, 2, []byte("cd")), api.OK)
	d.Arm(2)
	is(t, "Prepare, the power fails", s.Prepare(8, 0, 1, []byte("ef")), api.ErrDown)
	ended := func() {
		t.Helper()
		for _, n := range [][3]int{{7, 0, 1}, {7, 0, 2}, {8, 0, 1}, {7, 0, 9}, {-1, -1, -1}} {
			is(t, "Prepare", s.Prepare(n[0], n[1], n[2], []byte("ab")), api.ErrEnded)
			is(t, "Commit", s.Commit(n[0], n[1], n[2]), api.ErrEnded)
			is(t, "Abort", s.Abort(n[0], n[1], n[2]), api.ErrEnded)
			is(t, "Drop", s.Drop(n[0], n[1], n[2]), api.ErrEnded)
		}
		is(t, "Prepare of many", s.Prepare(7, 0, 1, make([]byte, 1<<17)), api.ErrEnded)
		if !s.Over() || s.Bad() != 0 {
			t.Errorf("Over %v, Bad %d", s.Over(), s.Bad())
		}
		lists(t, s, committed(7, 0, 1, []byte("ab")), prepared(7, 0, 2, []byte("cd")))
		rooms(t, s, 1)
		if x, ok := s.Now(7, 0); !ok || !same(x, committed(7, 0, 1, []byte("ab"))) {
			t.Errorf("Now: %v, %v", x, ok)
		}
		if x, ok := s.Get(7, 0, 2); !ok || !same(x, prepared(7, 0, 2, []byte("cd"))) {
			t.Errorf("Get: %v, %v", x, ok)
		}
	}
	ended()
	if s.Sound(7, 0, 1) {
		t.Error("Sound, of a disk that is down")
	}
	d.Crash([]bool{true, true})
	d.Arm(0)
	ended()
	if !s.Sound(7, 0, 1) || !s.Sound(7, 0, 2) || s.Sound(8, 0, 1) || d.Down() {
		t.Error("Sound, of a disk that is up again")
	}
	var none *slots.Slots
	if none.Over() {
		t.Error("none is over")
	}
}
