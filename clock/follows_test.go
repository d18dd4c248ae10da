package clock_test

import (
	"math"
	"slices"
	"testing"

	"cooperage/api"
	"cooperage/clock"
)

// step is something that is done to a clock, and to a plain one; it tells whether both answer the same.
type step func(c *clock.Clock, p *plain) bool

func sets(id int, in int64) step {
	return func(c *clock.Clock, p *plain) bool { return c.Set(id, in) == p.set(id, in) }
}

func unsets(id int) step {
	return func(c *clock.Clock, p *plain) bool { return c.Unset(id) == p.unset(id) }
}

func ticks(c *clock.Clock, p *plain) bool {
	return slices.Equal(c.Tick(), p.tick())
}

func skips(c *clock.Clock, p *plain) bool {
	return slices.Equal(c.Skip(), p.skip())
}

// P8.1 to P8.3: all ways of a few steps with two timers, held against a plain clock behind each way.
func TestAllShortWays(t *testing.T) {
	steps := []step{
		sets(1, 1), sets(1, 2), sets(1, 3), sets(0, 2), sets(0, 3), sets(2, 1), sets(2, far), sets(0, 0),
		unsets(0), unsets(1), unsets(2), ticks, skips,
	}
	const long = 5
	ways := 1
	for range long {
		ways *= len(steps)
	}
	for way := range ways {
		c, p := made(t, 2), &plain{most: 2}
		for k, rest := 0, way; k < long; k, rest = k+1, rest/len(steps) {
			if !steps[rest%len(steps)](c, p) {
				t.Fatalf("way %d: another answer of step %d", way, k)
			}
		}
		if why := differs(c, p); why != "" {
			t.Fatalf("way %d: %s", way, why)
		}
	}
}

// any is some step with so many Ids.
func (c *chance) any(ids int) step {
	id, in := c.below(ids), int64(1+c.below(9))
	switch c.below(40) {
	case 0:
		odd := []int64{0, -1, math.MinInt64, math.MaxInt64, far, far + 1, far - 1, far / 2, 1 << 32}
		in = odd[c.below(len(odd))]
	case 1:
		odd := []int{-1, -2, math.MinInt, math.MaxInt, ids, 1 << 32}
		id = odd[c.below(len(odd))]
	}
	switch kind := c.below(100); {
	case kind < 55:
		return sets(id, in)
	case kind < 65:
		return unsets(id)
	case kind < 90:
		return ticks
	}
	return skips
}

// P8.1 to P8.3: long ways with some clocks, held against plain ones behind each step.
func TestLongWays(t *testing.T) {
	for seed := range 60 {
		k := chance(seed)
		most, ids := []int{1, 2, 3, 10, 40}[seed%5], []int{2, 3, 5, 60}[seed%4]
		c, p := made(t, most), &plain{most: most}
		for i := range 2000 {
			if !k.any(ids)(c, p) {
				t.Fatalf("seed %d: another answer of step %d", seed, i)
			}
			if why := differs(c, p); why != "" {
				t.Fatalf("seed %d: behind step %d: %s", seed, i, why)
			}
		}
	}
}

// P8.4: each timer is told once, at the time when it is due, unless it was unset, or set anew, ahead of it.
func TestToldOnce(t *testing.T) {
	for seed := range 20 {
		k := chance(seed)
		c := made(t, 30)
		due := map[int]int64{} // of what was set and not told, by Ids
		told := 0
		for range 3000 {
			id, in := k.below(40), int64(1+k.below(12))
			var l []api.Timer
			switch k.below(8) {
			case 0, 1, 2, 3:
				if c.Set(id, in) == api.OK {
					due[id] = c.Now() + in
				}
			case 4:
				_, there := due[id]
				if c.Unset(id) != there {
					t.Fatalf("seed %d: Unset(%d)", seed, id)
				}
				delete(due, id)
			case 5:
				l = c.Skip()
			default:
				l = c.Tick()
			}
			for _, x := range l {
				if at, there := due[x.Id]; !there || at != x.Due || at != c.Now() {
					t.Fatalf("seed %d: at %d was told %v, which was due at %d, %v", seed, c.Now(), x, at, there)
				}
				delete(due, x.Id)
				told++
			}
			for id, at := range due {
				if at <= c.Now() {
					t.Fatalf("seed %d: at %d %d, due at %d, was not told", seed, c.Now(), id, at)
				}
			}
		}
		if told < 300 {
			t.Errorf("seed %d: only %d were told", seed, told)
		}
	}
}

// P8.4: Skip tells what as many ticks as it takes would tell, and leaves the clock as they do.
func TestSkipAsTicks(t *testing.T) {
	for seed := range 40 {
		k := chance(seed)
		one, other := made(t, 20), made(t, 20)
		for round := range 200 {
			for range k.below(4) {
				id, in := k.below(25), int64(1+k.below(30))
				if e, f := one.Set(id, in), other.Set(id, in); e != f {
					t.Fatalf("seed %d: round %d: Set(%d, %d): %d and %d", seed, round, id, in, e, f)
				}
			}
			want := one.Skip()
			var told []api.Timer
			for range one.Now() - other.Now() {
				if len(told) > 0 {
					t.Fatalf("seed %d: round %d: ticks tell %v ahead of Skip", seed, round, told)
				}
				told = append(told, other.Tick()...)
			}
			if one.Now() != other.Now() || !slices.Equal(told, want) || !slices.Equal(one.All(), other.All()) {
				t.Fatalf("seed %d: round %d: %v at %d, want %v at %d", seed, round, told, other.Now(), want, one.Now())
			}
		}
	}
}
