package slots_test

import (
	"bytes"
	"math"
	"testing"

	"cooperage/api"
	"cooperage/slots"
)

// R3: bytes that are prepared are not kept, nor changed, nor their spare room.
func TestPrepareHandedIn(t *testing.T) {
	memory := append(of(1, 70), 201, 202, 203)
	was := bytes.Clone(memory)
	d := made(t, 6)
	s := opened(t, d, crc(), 100)
	is(t, "Prepare", s.Prepare(7, 0, 1, memory[:70]), api.OK)
	is(t, "Prepare again", s.Prepare(7, 0, 1, memory[:70]), api.OK)
	is(t, "Prepare of others", s.Prepare(7, 0, 1, memory[:71]), api.ErrSlot)
	if !bytes.Equal(memory, was) {
		t.Errorf("what was handed in is %v, was %v", memory, was)
	}
	clear(memory)
	lists(t, s, prepared(7, 0, 1, of(1, 70)))
	is(t, "Commit", s.Commit(7, 0, 1), api.OK)
	lists(t, opened(t, d, crc(), 100), committed(7, 0, 1, of(1, 70)))
	if !s.Sound(7, 0, 1) {
		t.Error("it is not sound")
	}
}

// R3: what is told is in memory of its own, each time, with its spare room; behind Open, too.
func TestHandedOut(t *testing.T) {
	d := made(t, 9)
	first := opened(t, d, crc(), 100)
	is(t, "Prepare", first.Prepare(7, 0, 1, of(1, 70)), api.OK)
	is(t, "Commit", first.Commit(7, 0, 1), api.OK)
	is(t, "Prepare", first.Prepare(7, 0, 2, of(2, 3)), api.OK)
	want := []api.Slot{committed(7, 0, 1, of(1, 70)), prepared(7, 0, 2, of(2, 3))}
	spoil := func(b []byte) {
		b = b[:cap(b)]
		for i := range b {
			b[i] ^= 255
		}
	}
	for _, s := range []*slots.Slots{first, opened(t, d, crc(), 100)} {
		kept := s.All()
		x, _ := s.Get(7, 0, 1)
		y, _ := s.Get(7, 0, 2)
		z, _ := s.Now(7, 0)
		all := s.All()
		for _, b := range [][]byte{x.Bytes, y.Bytes, z.Bytes, all[0].Bytes, all[1].Bytes} {
			spoil(b)
		}
		clear(all[:cap(all)])
		lists(t, s, want...)
		for i, x := range kept {
			if !same(x, want[i]) {
				t.Errorf("two answers share memory: %v", x)
			}
		}
		if now, ok := s.Now(7, 0); !ok || !same(now, want[0]) || !s.Sound(7, 0, 1) || !s.Sound(7, 0, 2) {
			t.Errorf("Now: %v, %v", now, ok)
		}
	}
	kept := first.All()
	is(t, "Commit", first.Commit(7, 0, 2), api.OK)
	is(t, "Drop", first.Drop(7, 0, 2), api.OK)
	for i, x := range kept {
		if !same(x, want[i]) {
			t.Errorf("an answer has changed: %v", x)
		}
	}
}

// R3: Head and Parse change nothing of what they are handed, and keep nothing.
func TestHeadHandedIn(t *testing.T) {
	table, was := crc(), *crc()
	memory := append(of(1, 70), 201, 202)
	x := prepared(7, 0, 1, memory[:70])
	first, _ := slots.Head(table, x)
	second, _ := slots.Head(table, x)
	if !bytes.Equal(memory, append(of(1, 70), 201, 202)) || *table != was {
		t.Error("Head changes what it is handed")
	}
	long := second[:cap(second)]
	clear(long)
	if !bytes.Equal(first, head(crc(), x)) {
		t.Error("two headers share memory")
	}
	room := append(bytes.Clone(first), 1, 2, 3)
	if _, _, _, ok := slots.Parse(table, room[:64]); !ok || !bytes.Equal(room, append(bytes.Clone(first), 1, 2, 3)) || *table != was {
		t.Error("Parse changes what it is handed")
	}
}

// The disk and the table are shared: slots go by what they have become.
func TestShared(t *testing.T) {
	d, table := made(t, 4), crc()
	s := opened(t, d, table, 64)
	is(t, "Prepare", s.Prepare(7, 0, 1, []byte("ab")), api.OK)
	*table = *tables()[2]
	if s.Sound(7, 0, 1) {
		t.Error("it is sound by another table")
	}
	is(t, "Commit", s.Commit(7, 0, 1), api.OK)
	if x := committed(7, 0, 1, []byte("ab")); !bytes.Equal(sector(t, d, 0), head(table, x)) || !s.Sound(7, 0, 1) {
		t.Error("the header is not by the table")
	}
	put(t, d, 0, nil)
	if s.Sound(7, 0, 1) {
		t.Error("it is sound without a header")
	}
	*table = *crc()
	none := opened(t, d, table, 64)
	lists(t, none)
}

// R5: no slots, and such as Open did not make: ErrNil, ahead of all else, or zeros; a copy by value was not made by Open either, and does not meet what it was copied from.
func TestNoSlots(t *testing.T) {
	d := made(t, 6)
	one := opened(t, d, crc(), 100)
	is(t, "Prepare", one.Prepare(7, 0, 1, []byte("ab")), api.OK)
	is(t, "Commit", one.Commit(7, 0, 1), api.OK)
	twin := *one
	d.Arm(0)
	for name, s := range map[string]*slots.Slots{"nil": nil, "not made": {}, "a copy": &twin} {
		for range 2 {
			for _, n := range [][3]int{{7, 0, 1}, {7, 0, 2}, {-1, -1, -1}, {math.MinInt, math.MinInt, math.MinInt}, {math.MaxInt, math.MaxInt, math.MaxInt}} {
				for _, b := range [][]byte{nil, []byte("ab"), make([]byte, 1<<17)} {
					is(t, name+": Prepare", s.Prepare(n[0], n[1], n[2], b), api.ErrNil)
				}
				is(t, name+": Commit", s.Commit(n[0], n[1], n[2]), api.ErrNil)
				is(t, name+": Abort", s.Abort(n[0], n[1], n[2]), api.ErrNil)
				is(t, name+": Drop", s.Drop(n[0], n[1], n[2]), api.ErrNil)
				x, ok := s.Get(n[0], n[1], n[2])
				y, other := s.Now(n[0], n[1])
				if ok || other || !same(x, api.Slot{}) || !same(y, api.Slot{}) || s.Sound(n[0], n[1], n[2]) {
					t.Errorf("%s: Get, Now, Sound of %v: %v, %v", name, n, x, y)
				}
			}
			if len(s.All()) != 0 || s.Room() != 0 || s.Bad() != 0 || s.Over() {
				t.Errorf("%s: All %v, Room %d, Bad %d, Over %v", name, s.All(), s.Room(), s.Bad(), s.Over())
			}
		}
	}
	if d.Down() {
		t.Error("something was done to the disk")
	}
	lists(t, one, committed(7, 0, 1, []byte("ab")))
}

// R4: slots of two disks have nothing in common, and answer the same to the same.
func TestTwoDisks(t *testing.T) {
	c := chance(5)
	one, other := opened(t, made(t, 12), crc(), 100), opened(t, made(t, 12), crc(), 100)
	for k := range 500 {
		version := 1 + k/20 + c.below(4)
		calls := []func(s *slots.Slots) api.Errno{
			func(s *slots.Slots) api.Errno { return s.Prepare(7, k%2, version, of(version, version%101)) },
			func(s *slots.Slots) api.Errno { return s.Commit(7, k%2, version) },
			func(s *slots.Slots) api.Errno { return s.Abort(7, k%2, version) },
			func(s *slots.Slots) api.Errno { return s.Drop(7, k%2, version-3) },
		}
		call := calls[c.below(4)]
		all, room := other.All(), other.Room()
		e := call(one)
		lists(t, other, all...)
		rooms(t, other, room)
		is(t, "the other one", call(other), e)
		lists(t, one, other.All()...)
		rooms(t, one, other.Room())
	}
}

// Limits: as many places as a disk may have, all taken, in any order, and all given back.
func TestManyPlaces(t *testing.T) {
	s := opened(t, made(t, api.MaxSectors), crc(), 0)
	const many = 1 << 14
	for k := range many {
		n := k * 7919 % many
		if e := s.Prepare(n/7, n%7, 1, nil); e != api.OK {
			t.Fatalf("Prepare: %d", e)
		}
	}
	rooms(t, s, api.MaxSectors-many)
	all := s.All()
	for n, x := range all {
		if !numbers(x, n/7, n%7, 1) {
			t.Fatalf("the slot %d is %v", n, x)
		}
	}
	for k := range many {
		n := k * 5003 % many
		if e := s.Drop(n/7, n%7, 1); e != api.OK {
			t.Fatalf("Drop: %d", e)
		}
	}
	rooms(t, s, api.MaxSectors)
	lists(t, s)
}
