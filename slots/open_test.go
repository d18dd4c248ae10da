package slots_test

import (
	"bytes"
	"math"
	"slices"
	"testing"

	"cooperage/api"
	"cooperage/disk"
	"cooperage/slots"
)

// P6.2: no disk, and no table, ahead of all else.
func TestOpenNothing(t *testing.T) {
	down := made(t, 1)
	down.Arm(0)
	down.Flush()
	for _, size := range []int{0, 64, -1, api.MaxShard + 1, math.MinInt, math.MaxInt} {
		for name, d := range map[string]*disk.Disk{"nil": nil, "not made": {}} {
			for _, table := range []*api.Table{crc(), nil} {
				if s, e := slots.Open(d, table, size); s != nil || e != api.ErrNil {
					t.Errorf("Open of a disk that is %s, %d: %v, %d", name, size, s, e)
				}
			}
		}
		for _, d := range []*disk.Disk{made(t, 6), down} {
			if s, e := slots.Open(d, nil, size); s != nil || e != api.ErrNil {
				t.Errorf("Open without a table, %d: %v, %d", size, s, e)
			}
		}
	}
}

// P6.2: no size, and no place, ahead of a disk that is down; the disk stays as it is.
func TestOpenWrong(t *testing.T) {
	for _, down := range []bool{false, true} {
		for _, c := range []struct{ sectors, size int }{{6, -1}, {6, math.MinInt}, {api.MaxSectors, api.MaxShard + 1}, {6, math.MaxInt}, {6, 1 << 32}, {1, 1}, {1, 64}, {2, 65}, {6, 321}, {1024, api.MaxShard}} {
			d := made(t, c.sectors)
			put(t, d, 0, []byte("neither a header nor noughts"))
			d.Arm(0)
			if down {
				d.Flush()
			}
			if s, e := slots.Open(d, crc(), c.size); s != nil || e != api.ErrArg || d.Down() != down {
				t.Errorf("Open of %d sectors, size %d: %v, %d", c.sectors, c.size, s, e)
			}
		}
	}
}

// P6.2: a disk that is down.
func TestOpenDown(t *testing.T) {
	d := made(t, 6)
	d.Arm(0)
	d.Flush()
	if s, e := slots.Open(d, crc(), 100); s != nil || e != api.ErrDown {
		t.Errorf("Open: %v, %d", s, e)
	}
	d.Crash(nil)
	rooms(t, opened(t, d, crc(), 100), 2)
}

// P6.2: as many places as the disk has whole; on a new disk all are free, and nothing is done to it.
func TestOpenNew(t *testing.T) {
	for _, c := range []struct{ sectors, size, want int }{{6, 100, 2}, {5, 100, 1}, {3, 65, 1}, {8, 128, 2}, {9, 128, 3}, {1, 0, 1}, {7, 0, 7}, {2, 1, 1}, {7, 64, 3}, {1025, api.MaxShard, 1}, {2049, api.MaxShard, 1}, {2050, api.MaxShard, 2}, {api.MaxSectors, 0, api.MaxSectors}, {api.MaxSectors, 64, api.MaxSectors / 2}, {api.MaxSectors, api.MaxShard, 63}} {
		d := made(t, c.sectors)
		d.Arm(0)
		s := opened(t, d, crc(), c.size)
		rooms(t, s, c.want)
		lists(t, s)
		if s.Bad() != 0 || s.Over() || d.Down() {
			t.Errorf("Open of %d sectors, size %d: Bad %d, Over %v, Down %v", c.sectors, c.size, s.Bad(), s.Over(), d.Down())
		}
	}
}

// P6.2: all ways in which three places may have something, of one shard and of another one: what counts, what is struck out.
func TestOpenAllThree(t *testing.T) {
	var kinds [][]byte // a place's sectors
	kinds = append(kinds, make([]byte, 128), append([]byte{1}, make([]byte, 127)...), slices.Concat(head(crc(), prepared(7, 0, 2, []byte("ab"))), make([]byte, 64)))
	for version := 1; version <= 3; version++ {
		for _, x := range []api.Slot{prepared(7, 0, version, []byte("ab")), committed(7, 0, version, []byte("ab")), prepared(7, 0, version, []byte("cd"))} {
			kinds = append(kinds, slices.Concat(head(crc(), x), x.Bytes, make([]byte, 62)))
		}
	}
	for _, x := range []api.Slot{committed(7, 1, 3, []byte("ef")), committed(8, 0, 3, []byte("ef")), committed(7, 0, 3, []byte("gh"))} {
		kinds = append(kinds, slices.Concat(head(crc(), x), x.Bytes, make([]byte, 62)))
	}
	for way := range len(kinds) * len(kinds) * len(kinds) {
		d, p := made(t, 7), &plain{d: made(t, 7), table: crc(), size: 64}
		for place, rest := 0, way; place < 3; place, rest = place+1, rest/len(kinds) {
			kind := kinds[rest%len(kinds)]
			for _, to := range []*disk.Disk{d, p.d} {
				put(t, to, 2*place, kind[:64])
				put(t, to, 2*place+1, kind[64:])
			}
		}
		s := opened(t, d, crc(), 64)
		p.open()
		if why := differs(s, d, p); why != "" {
			t.Fatalf("way %d: %s", way, why)
		}
	}
}

// P6.2: an elder version, one that was prepared again, a place that comes behind: by hand.
func TestOpenCounts(t *testing.T) {
	d := made(t, 20)
	all := []api.Slot{
		prepared(7, 0, 9, []byte("first")), committed(7, 0, 4, []byte("elder")), prepared(7, 0, 9, []byte("second")), committed(7, 0, 6, nil), prepared(7, 0, 6, []byte("as old")),
		prepared(7, 0, 3, []byte("passed")), prepared(7, 0, 8, []byte("behind")), committed(7, 0, 6, []byte("again")), prepared(7, 1, 1, []byte("other")), committed(6, 254, 2, []byte("less")),
	}
	for place, x := range all {
		lay(t, d, crc(), 2*place, x)
	}
	s := opened(t, d, crc(), 64)
	lists(t, s, all[9], all[3], all[6], all[0], all[8])
	rooms(t, s, 5)
	if s.Bad() != 0 || len(d.Cached()) != 0 {
		t.Errorf("Bad %d, Cached %v", s.Bad(), d.Cached())
	}
	d.Crash(nil)
	for place, x := range all {
		struck := slices.Contains([]int{1, 2, 4, 5, 7}, place)
		if bytes.Equal(sector(t, d, 2*place), make([]byte, 64)) != struck {
			t.Errorf("the header of %v: %v", x, sector(t, d, 2*place))
		}
	}
}

// P6.2: what is bad, and is struck out; what lies behind the bytes, and behind the last place, does not count.
func TestOpenBad(t *testing.T) {
	x := committed(7, 0, 1, of(1, 70))
	spoilt := func(d *disk.Disk, i, at int) { d.Spoil(i, at, 1) }
	for name, c := range map[string]struct {
		size int
		do   func(d *disk.Disk)
		bad  int
	}{
		"nothing":               {100, func(d *disk.Disk) {}, 0},
		"its header":            {100, func(d *disk.Disk) { spoilt(d, 0, 30) }, 1},
		"its seal":              {100, func(d *disk.Disk) { spoilt(d, 0, 63) }, 1},
		"its first byte":        {100, func(d *disk.Disk) { spoilt(d, 1, 0) }, 1},
		"its last byte":         {100, func(d *disk.Disk) { spoilt(d, 2, 5) }, 1},
		"behind its last byte":  {100, func(d *disk.Disk) { spoilt(d, 2, 6) }, 0},
		"the next header":       {100, func(d *disk.Disk) { spoilt(d, 3, 63) }, 1},
		"the next one's bytes":  {100, func(d *disk.Disk) { spoilt(d, 4, 0) }, 0},
		"behind the last place": {100, func(d *disk.Disk) { spoilt(d, 6, 0); spoilt(d, 7, 9) }, 0},
		"more bytes than size":  {69, func(d *disk.Disk) {}, 1},
		"as many as size":       {70, func(d *disk.Disk) {}, 0},
		"two":                   {100, func(d *disk.Disk) { spoilt(d, 0, 0); spoilt(d, 3, 0) }, 2},
	} {
		d := made(t, 8)
		lay(t, d, crc(), 0, x)
		c.do(d)
		tail := slices.Concat(sector(t, d, 6), sector(t, d, 7))
		s := opened(t, d, crc(), c.size)
		if s.Bad() != c.bad {
			t.Errorf("%s: Bad %d, want %d", name, s.Bad(), c.bad)
		}
		if len(s.All())+s.Room() != 2 {
			t.Errorf("%s: All %v, Room %d", name, s.All(), s.Room())
		}
		if len(s.All()) == 1 {
			lists(t, s, x)
		}
		s.Abort(7, 0, 2)
		if s.Bad() != c.bad {
			t.Errorf("%s: Bad %d behind a call", name, s.Bad())
		}
		if !bytes.Equal(slices.Concat(sector(t, d, 6), sector(t, d, 7)), tail) {
			t.Errorf("%s: the sectors behind the last place have changed", name)
		}
		d.Crash(nil)
		again := opened(t, d, crc(), c.size)
		if again.Bad() != 0 || !slices.EqualFunc(again.All(), s.All(), same) {
			t.Errorf("%s: opened anew: Bad %d, All %v", name, again.Bad(), again.All())
		}
	}
}

// P6.2: what is struck out is struck out in order, and then flushed, once: the power fails at each of these.
func TestOpenFails(t *testing.T) {
	for n := range 5 {
		d := made(t, 10)
		lay(t, d, crc(), 0, committed(7, 0, 1, nil))
		put(t, d, 2, []byte("bad"))
		lay(t, d, crc(), 4, committed(7, 0, 2, []byte("it")))
		lay(t, d, crc(), 6, prepared(7, 0, 2, []byte("it")))
		d.Arm(n)
		s, e := slots.Open(d, crc(), 64)
		if n < 4 {
			if s != nil || e != api.ErrDown || !d.Down() || !slices.Equal(d.Cached(), []int{0, 2, 6}[:min(n, 3)]) {
				t.Errorf("armed with %d: %v, %d, Cached %v", n, s, e, d.Cached())
			}
			continue
		}
		if e != api.OK || d.Down() || len(d.Cached()) != 0 {
			t.Errorf("armed with %d: %d, Cached %v", n, e, d.Cached())
		}
		lists(t, s, committed(7, 0, 2, []byte("it")))
	}
}

// P6.2: the cache is read, too.
func TestOpenCached(t *testing.T) {
	d := made(t, 4)
	x := prepared(3, 1, 4, []byte("ab"))
	lay(t, d, crc(), 0, committed(3, 1, 2, []byte("a")))
	d.Write(3, append([]byte("ab"), make([]byte, 62)...))
	d.Write(2, head(crc(), x))
	d.Write(0, make([]byte, 64))
	s := opened(t, d, crc(), 64)
	lists(t, s, x)
	rooms(t, s, 1)
	if !s.Sound(3, 1, 4) {
		t.Error("it is not sound")
	}
}

// P6.2: places of a size are none of another one.
func TestOpenOtherSize(t *testing.T) {
	d := made(t, 12)
	lay(t, d, crc(), 0, committed(7, 0, 1, []byte("ab")))
	lay(t, d, crc(), 3, committed(7, 1, 1, []byte("cd")))
	lay(t, d, crc(), 6, committed(7, 2, 1, []byte("ef")))
	s := opened(t, d, crc(), 64)
	lists(t, s, committed(7, 0, 1, []byte("ab")), committed(7, 2, 1, []byte("ef")))
	rooms(t, s, 4)
	if s.Bad() != 1 { // the bytes cd stand where a header would
		t.Errorf("Bad: %d", s.Bad())
	}
}

// P6.2: what counts, by stripes, then indexes, then versions.
func TestAllRises(t *testing.T) {
	s := opened(t, made(t, 200), crc(), 10)
	var want []api.Slot
	for _, stripe := range []int{0, 2, 10, 300, api.MaxStripe} {
		for _, index := range []int{0, 1, 9, 10, 254} {
			for _, version := range []int{1, 2, 10, api.MaxStripe} {
				want = append(want, prepared(stripe, index, version, of(len(want), len(want)%11)))
			}
		}
	}
	for k := range want {
		x := want[k*37%len(want)]
		is(t, "Prepare", s.Prepare(x.Stripe, x.Index, x.Version, x.Bytes), api.OK)
		rooms(t, s, 99-k)
	}
	lists(t, s, want...)
}
