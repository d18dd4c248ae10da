package slots_test

import (
	"bytes"
	"math"
	"slices"
	"strconv"
	"testing"

	"cooperage/api"
	"cooperage/disk"
	"cooperage/slots"
)

// differs tells by what slots and their disk differ from the plain ones; nothing, if by nothing.
func differs(s *slots.Slots, d *disk.Disk, p *plain) string {
	free := 0
	for _, x := range p.places {
		if x.State == api.Free {
			free++
		}
	}
	switch {
	case s.Over() != p.over:
		return "Over: " + strconv.FormatBool(s.Over())
	case s.Bad() != p.bad:
		return "Bad: " + strconv.Itoa(s.Bad())
	case s.Room() != free:
		return "Room: " + strconv.Itoa(s.Room()) + ", want " + strconv.Itoa(free)
	case !slices.EqualFunc(s.All(), p.all(), same):
		return "another All"
	case d.Down() != p.d.Down() || !slices.Equal(d.Cached(), p.d.Cached()):
		return "the disk, or its cache"
	}
	for i := range d.Size() {
		got, _ := d.Read(i)
		want, _ := p.d.Read(i)
		if !bytes.Equal(got, want) {
			return "the sector " + strconv.Itoa(i)
		}
	}
	for stripe := 6; stripe <= 8; stripe++ {
		for index := -1; index <= 2; index++ {
			x, ok := s.Now(stripe, index)
			if y, other := p.get(p.now(stripe, index)); ok != other || !same(x, y) {
				return "Now"
			}
			for version := range 6 {
				x, ok := s.Get(stripe, index, version)
				if y, other := p.get(p.find(stripe, index, version)); ok != other || !same(x, y) {
					return "Get"
				}
				if s.Sound(stripe, index, version) != p.sound(stripe, index, version) {
					return "Sound"
				}
			}
		}
	}
	return ""
}

// pair is slots, and plain ones, to which the same is done.
type pair struct {
	d *disk.Disk
	s *slots.Slots
	p *plain
}

// paired is one on new disks.
func paired(t *testing.T, table *api.Table, sectors, size int) *pair {
	t.Helper()
	x := &pair{d: made(t, sectors), p: &plain{d: made(t, sectors), table: table, size: size}}
	if !reopens(x) {
		t.Fatal("Open")
	}
	return x
}

// step is something that is done to a pair; it tells whether both answer the same.
type step func(x *pair) bool

func prepares(stripe, index, version int, b []byte) step {
	return func(x *pair) bool {
		return x.s.Prepare(stripe, index, version, b) == x.p.prepare(stripe, index, version, b)
	}
}

func commits(stripe, index, version int) step {
	return func(x *pair) bool {
		return x.s.Commit(stripe, index, version) == x.p.commit(stripe, index, version)
	}
}

func aborts(stripe, index, version int) step {
	return func(x *pair) bool { return x.s.Abort(stripe, index, version) == x.p.abort(stripe, index, version) }
}

func drops(stripe, index, version int) step {
	return func(x *pair) bool { return x.s.Drop(stripe, index, version) == x.p.drop(stripe, index, version) }
}

// both is something that is done to both disks.
func both(do func(d *disk.Disk)) step {
	return func(x *pair) bool { do(x.d); do(x.p.d); return true }
}

func arms(n int) step { return both(func(d *disk.Disk) { d.Arm(n) }) }

func spoils(i, at int, turn byte) step {
	return both(func(d *disk.Disk) { d.Spoil(i, at, turn) })
}

func crashes(keeps ...bool) step { return both(func(d *disk.Disk) { d.Crash(keeps) }) }

// reopens opens both anew; where that is refused the slots stay as they are.
func reopens(x *pair) bool {
	s, e := slots.Open(x.d, x.p.table, x.p.size)
	if x.p.d.Down() {
		return e == api.ErrDown && s == nil
	}
	elder := *x.p
	if other := x.p.open(); other != api.OK || e != api.OK {
		*x.p = elder
		return e == other && s == nil
	}
	x.s = s
	return s != nil
}

// P6.2 to P6.4: all ways of a few steps with three places, held against the plain ones behind each step.
func TestAllShortWays(t *testing.T) {
	steps := []step{
		prepares(7, 0, 1, of(1, 2)), prepares(7, 0, 2, of(2, 70)), prepares(7, 0, 3, nil), prepares(7, 0, 2, of(9, 70)), prepares(8, 0, 2, of(3, 64)),
		commits(7, 0, 1), commits(7, 0, 2), commits(7, 0, 3), aborts(7, 0, 1), aborts(7, 0, 2), drops(7, 0, 1), drops(7, 0, 2), drops(7, 0, 3),
	}
	const long = 4
	ways := 1
	for range long {
		ways *= len(steps)
	}
	for way := range ways {
		x := paired(t, crc(), 10, 100)
		for k, rest := 0, way; k < long; k, rest = k+1, rest/len(steps) {
			if !steps[rest%len(steps)](x) {
				t.Fatalf("way %d: another answer of step %d", way, k)
			}
		}
		if why := differs(x.s, x.d, x.p); why != "" {
			t.Fatalf("way %d: %s", way, why)
		}
	}
}

// chance is numbers by a rule from a seed.
type chance uint32

// below is the next one, from 0 on and below n.
func (c *chance) below(n int) int {
	*c = *c*1664525 + 1013904223
	return int(*c>>8) % n
}

// bits is the lowest of n's, so many, as keeps.
func bits(n, many int) []bool {
	var keeps []bool
	for i := range many {
		keeps = append(keeps, n>>i&1 == 1)
	}
	return keeps
}

// number is one that is most often small, and now and then none that anything has.
func (c *chance) number(from, many int) int {
	if c.below(30) > 0 {
		return from + c.below(many)
	}
	odd := []int{-1, 0, math.MinInt, math.MaxInt, api.MaxStripe, api.MaxStripe + 1, api.MaxSide - 1, api.MaxSide, 1 << 32}
	return odd[c.below(len(odd))]
}

// any is some step with slots of that size.
func (c *chance) any(sectors, size int) step {
	stripe, index, version := c.number(7, 2), c.number(0, 2), c.number(1, 5)
	switch kind := c.below(100); {
	case kind < 45:
		// Of one version the bytes are most often the same.
		long := []int{0, 1, 63, 64, 65, max(size-1, 0), size, size + 1}
		seed := version&7 + c.below(10)/9
		return prepares(stripe, index, version, of(seed, long[seed%len(long)]))
	case kind < 65:
		return commits(stripe, index, version)
	case kind < 75:
		return aborts(stripe, index, version)
	case kind < 80:
		return drops(stripe, index, version)
	case kind < 84:
		return spoils(c.below(sectors), c.below(64), byte(1+c.below(255)))
	case kind < 88:
		return arms(c.below(12))
	case kind < 90:
		return crashes(bits(c.below(1<<16), c.below(16))...)
	case kind < 93:
		return reopens
	}
	crash := crashes(bits(c.below(1<<16), c.below(16))...)
	return func(x *pair) bool { return crash(x) && reopens(x) }
}

// P6.2 to P6.4: long ways with disks and shards of some sizes, held against the plain ones behind each step.
func TestLongWays(t *testing.T) {
	for seed := range 60 {
		c := chance(seed)
		size := []int{0, 1, 64, 100, 128, 200}[seed%6]
		sectors := slots.Slot(size)*(1+seed%7) + seed%3
		table := tables()[min(seed%5, 2)]
		x := paired(t, table, sectors, size)
		for k := range 700 {
			if !c.any(sectors, size)(x) {
				t.Fatalf("seed %d: another answer of step %d", seed, k)
			}
			if why := differs(x.s, x.d, x.p); why != "" {
				t.Fatalf("seed %d: behind step %d: %s", seed, k, why)
			}
		}
	}
}
