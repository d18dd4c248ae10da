package slots_test

import (
	"bytes"
	"math"
	"slices"
	"testing"

	"cooperage/api"
	"cooperage/disk"
	"cooperage/slots"
)

// some is slots with a committed version 3 of 7 0, prepared ones 5 and 8, one of 7 1, and two free places.
func some(t *testing.T) (*disk.Disk, *slots.Slots) {
	t.Helper()
	d := made(t, 12)
	s := opened(t, d, crc(), 64)
	for _, n := range [][2]int{{0, 3}, {0, 8}, {1, 4}, {0, 5}} {
		is(t, "Prepare", s.Prepare(7, n[0], n[1], of(n[1], n[1])), api.OK)
	}
	is(t, "Commit", s.Commit(7, 0, 3), api.OK)
	rooms(t, s, 2)
	return d, s
}

// P6.4: what is aborted counts no more, here and behind a crash, and its place is free.
func TestAbort(t *testing.T) {
	d, s := some(t)
	is(t, "Abort", s.Abort(7, 0, 8), api.OK)
	want := []api.Slot{committed(7, 0, 3, of(3, 3)), prepared(7, 0, 5, of(5, 5)), prepared(7, 1, 4, of(4, 4))}
	lists(t, s, want...)
	rooms(t, s, 3)
	d.Crash(nil)
	if !bytes.Equal(sector(t, d, 2), make([]byte, 64)) || bytes.Equal(sector(t, d, 3), make([]byte, 64)) {
		t.Error("its header alone is made noughts")
	}
	again := opened(t, d, crc(), 64)
	lists(t, again, want...)
	is(t, "Abort again", s.Abort(7, 0, 8), api.OK)
	is(t, "Prepare, as never before", s.Prepare(7, 0, 8, []byte("other")), api.OK)
}

// P6.4: errors of Abort; nothing is done.
func TestAbortErrors(t *testing.T) {
	d, s := some(t)
	all := s.All()
	d.Arm(0)
	for _, version := range []int{3, 2, 1, 0, -1, math.MinInt} {
		is(t, "Abort, stale", s.Abort(7, 0, version), api.ErrStale)
	}
	for _, version := range []int{4, 6, 7, 9, api.MaxStripe + 1, math.MaxInt} {
		is(t, "Abort of none", s.Abort(7, 0, version), api.OK)
	}
	for _, n := range [][3]int{{7, 1, 3}, {7, 1, 5}, {8, 0, 5}, {7, 2, 8}, {-1, 0, 5}, {7, -1, 5}, {7, 255, 5}, {math.MinInt, math.MinInt, math.MinInt}, {math.MaxInt, math.MaxInt, math.MaxInt}} {
		is(t, "Abort of none", s.Abort(n[0], n[1], n[2]), api.OK)
	}
	if d.Down() || s.Over() {
		t.Error("something was done")
	}
	lists(t, s, all...)
}

// P6.4: an error of Abort: they are over, and it counts still.
func TestAbortFails(t *testing.T) {
	for n := range 3 {
		d, s := some(t)
		all := s.All()
		d.Arm(n)
		e := s.Abort(7, 0, 5)
		if n == 2 {
			if e != api.OK || s.Over() || d.Down() {
				t.Errorf("armed with %d: %d, Over %v", n, e, s.Over())
			}
			continue
		}
		if e != api.ErrDown || !s.Over() || !slices.Equal(d.Cached(), []int{6}[:n]) {
			t.Errorf("armed with %d: %d, Over %v, Cached %v", n, e, s.Over(), d.Cached())
		}
		lists(t, s, all...)
		rooms(t, s, 2)
	}
}

// P6.4: of a shard all of at most a version are dropped, committed or not; those above stay, and other shards.
func TestDrop(t *testing.T) {
	for _, c := range []struct{ version, gone int }{{math.MinInt, 0}, {-1, 0}, {0, 0}, {2, 0}, {3, 1}, {4, 1}, {5, 2}, {7, 2}, {8, 3}, {9, 3}, {api.MaxStripe + 1, 3}, {math.MaxInt, 3}} {
		d, s := some(t)
		all := s.All()
		is(t, "Drop", s.Drop(7, 0, c.version), api.OK)
		lists(t, s, all[c.gone:]...)
		rooms(t, s, 2+c.gone)
		d.Crash(nil)
		again := opened(t, d, crc(), 64)
		lists(t, again, all[c.gone:]...)
		d.Arm(0)
		is(t, "Drop again", s.Drop(7, 0, c.version), api.OK)
		if d.Down() {
			t.Error("something was done again")
		}
	}
	d, s := some(t)
	all := s.All()
	d.Arm(0)
	for _, n := range [][3]int{{7, 2, 9}, {8, 0, 9}, {7, 1, 3}, {-1, 0, 9}, {7, -1, 9}, {math.MaxInt, math.MaxInt, math.MaxInt}, {math.MinInt, math.MinInt, math.MinInt}} {
		is(t, "Drop of none", s.Drop(n[0], n[1], n[2]), api.OK)
	}
	if d.Down() {
		t.Error("something was done")
	}
	lists(t, s, all...)
}

// P6.4: what was dropped may be prepared again, a lesser version too.
func TestDropForgets(t *testing.T) {
	_, s := some(t)
	is(t, "Drop", s.Drop(7, 0, 8), api.OK)
	is(t, "Prepare", s.Prepare(7, 0, 1, []byte("new")), api.OK)
	is(t, "Commit", s.Commit(7, 0, 1), api.OK)
	lists(t, s, committed(7, 0, 1, []byte("new")), prepared(7, 1, 4, of(4, 4)))
}

// P6.4: the greatest version first, each one flushed ahead of the next: operation by operation.
func TestDropOrder(t *testing.T) {
	// The versions 3, 8, 5 have the places that begin at the sectors 0, 2, 6.
	cached := [][]int{{}, {2}, {}, {6}, {}, {0}, {}}
	for n := range 7 {
		d, s := some(t)
		all := s.All()
		d.Arm(n)
		e := s.Drop(7, 0, 8)
		if n < 6 && (e != api.ErrDown || !s.Over()) || n == 6 && (e != api.OK || s.Over() || d.Down()) || !slices.Equal(d.Cached(), cached[n]) {
			t.Errorf("armed with %d: %d, Over %v, Cached %v", n, e, s.Over(), d.Cached())
		}
		lists(t, s, slices.Concat(all[:3-n/2], all[3:])...)
		rooms(t, s, 2+n/2)
	}
}

// P6.4: what counts, by its numbers, and what is committed.
func TestGetNow(t *testing.T) {
	_, s := some(t)
	for version := -1; version < 11; version++ {
		want := map[int]api.Slot{3: committed(7, 0, 3, of(3, 3)), 5: prepared(7, 0, 5, of(5, 5)), 8: prepared(7, 0, 8, of(8, 8))}[version]
		if x, ok := s.Get(7, 0, version); ok != (want.State > 0) || !same(x, want) {
			t.Errorf("Get(7, 0, %d): %v, %v", version, x, ok)
		}
	}
	if x, ok := s.Now(7, 0); !ok || !same(x, committed(7, 0, 3, of(3, 3))) {
		t.Errorf("Now(7, 0): %v, %v", x, ok)
	}
	for _, n := range [][3]int{{7, 2, 4}, {8, 0, 3}, {7, -1, 3}, {-1, 0, 3}, {math.MinInt, math.MinInt, math.MinInt}, {math.MaxInt, math.MaxInt, math.MaxInt}} {
		x, ok := s.Get(n[0], n[1], n[2])
		y, other := s.Now(n[0], n[1])
		if ok || other || !same(x, api.Slot{}) || !same(y, api.Slot{}) {
			t.Errorf("Get, Now of %v: %v, %v, %v, %v", n, x, ok, y, other)
		}
	}
	if x, ok := s.Now(7, 1); ok || !same(x, api.Slot{}) {
		t.Errorf("Now of what is but prepared: %v, %v", x, ok)
	}
}

// P6.4: what counts is told as it was when it came to count, whatever becomes of the medium; Sound tells what became of it.
func TestSoundSpoilt(t *testing.T) {
	for _, c := range []struct {
		i, at int
		sound bool
	}{{0, 0, false}, {0, 63, false}, {0, 40, false}, {1, 0, false}, {1, 63, false}, {2, 0, false}, {2, 35, false}, {2, 36, true}, {2, 63, true}, {3, 0, true}, {5, 9, true}} {
		for _, commit := range []bool{false, true} {
			d := made(t, 6)
			s := opened(t, d, crc(), 100)
			want := prepared(7, 0, 1, of(1, 100))
			is(t, "Prepare", s.Prepare(7, 0, 1, of(1, 100)), api.OK)
			if commit {
				want.State = api.Committed
				is(t, "Commit", s.Commit(7, 0, 1), api.OK)
			}
			if !s.Sound(7, 0, 1) {
				t.Error("it is not sound at first")
			}
			d.Spoil(c.i, c.at, 16)
			if s.Sound(7, 0, 1) != c.sound {
				t.Errorf("the byte %d of the sector %d: Sound %v", c.at, c.i, !c.sound)
			}
			if x, ok := s.Get(7, 0, 1); !ok || !same(x, want) {
				t.Errorf("Get, spoilt: %v, %v", x, ok)
			}
			lists(t, s, want)
			if s.Bad() != 0 || s.Over() {
				t.Errorf("Bad %d, Over %v", s.Bad(), s.Over())
			}
			d.Spoil(c.i, c.at, 16)
			if !s.Sound(7, 0, 1) {
				t.Error("it is not sound again")
			}
		}
	}
}

// P6.4: a place that keeps another slot, rightly, is not sound: of other numbers, of another state, of other bytes, also with the same sum.
func TestSoundOther(t *testing.T) {
	weak := &api.Table{} // by it all bytes from four on have one sum
	for _, table := range []*api.Table{crc(), weak} {
		d := made(t, 2)
		s := opened(t, d, table, 64)
		x := prepared(7, 0, 2, of(1, 10))
		is(t, "Prepare", s.Prepare(7, 0, 2, x.Bytes), api.OK)
		for _, y := range []api.Slot{prepared(8, 0, 2, x.Bytes), prepared(7, 1, 2, x.Bytes), prepared(7, 0, 3, x.Bytes), committed(7, 0, 2, x.Bytes), prepared(7, 0, 2, of(2, 10)), prepared(7, 0, 2, x.Bytes[:9]), prepared(7, 0, 2, of(1, 11))} {
			lay(t, d, table, 0, y)
			if s.Sound(7, 0, 2) || s.Sound(y.Stripe, y.Index, y.Version) {
				t.Errorf("%v is sound, where %v is", x, y)
			}
			lists(t, s, x)
			lay(t, d, table, 0, x)
			if !s.Sound(7, 0, 2) {
				t.Error("it is not sound again")
			}
		}
	}
}

// P6.4: what does not count is not sound; nor is anything, while the disk is down; that is no error of the slots.
func TestSoundDown(t *testing.T) {
	d, s := some(t)
	for _, n := range [][3]int{{7, 0, 4}, {7, 0, 0}, {7, 2, 3}, {8, 0, 3}, {-1, -1, -1}, {math.MaxInt, math.MaxInt, math.MaxInt}} {
		if s.Sound(n[0], n[1], n[2]) {
			t.Errorf("Sound of %v", n)
		}
	}
	d.Arm(0)
	for _, x := range s.All() {
		if !s.Sound(x.Stripe, x.Index, x.Version) {
			t.Errorf("%v is not sound", x)
		}
	}
	if d.Down() {
		t.Error("Sound does something to the disk")
	}
	d.Flush()
	for _, x := range s.All() {
		if s.Sound(x.Stripe, x.Index, x.Version) {
			t.Errorf("%v is sound, of a disk that is down", x)
		}
	}
	if s.Over() {
		t.Error("it is over")
	}
	d.Crash(nil)
	for _, x := range s.All() {
		if !s.Sound(x.Stripe, x.Index, x.Version) {
			t.Errorf("%v is not sound behind a crash", x)
		}
	}
	is(t, "Prepare behind it", s.Prepare(7, 0, 9, nil), api.OK)
}

// P6.4: in the cache, too, it is read anew.
func TestSoundCached(t *testing.T) {
	d, s := some(t)
	d.Write(0, make([]byte, 64))
	if s.Sound(7, 0, 3) {
		t.Error("it is sound, where the cache has noughts")
	}
	d.Crash(nil)
	if !s.Sound(7, 0, 3) {
		t.Error("it is not sound behind the crash")
	}
}
