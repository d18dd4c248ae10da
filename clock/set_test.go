package clock_test

import (
	"math"
	"testing"

	"cooperage/api"
	"cooperage/clock"
)

// P8.1: New of a count that is refused.
func TestNewRefused(t *testing.T) {
	for _, most := range []int{0, -1, -2, -65536, 65537, 65538, 1 << 20, 1 << 32, 1<<32 + 1, math.MinInt, math.MaxInt} {
		if c, e := clock.New(most); c != nil || e != api.ErrArg {
			t.Errorf("New(%d): %v, %d", most, c, e)
		}
	}
}

// P8.1: New of the least and the greatest count, and some between: without timers, at the time 0.
func TestNew(t *testing.T) {
	for _, most := range []int{1, 2, 3, 100, 65535, 65536} {
		c := made(t, most)
		stands(t, c, 0)
		tells(t, "Skip", c.Skip())
		stands(t, c, 0)
	}
}

// P8.1: as many timers as there may be, and no more; one that is there is set anew even then.
func TestMost(t *testing.T) {
	for _, most := range []int{1, 2, 3, 1000, 65535, 65536} {
		c := made(t, most)
		for id := range most {
			set(t, c, id, 7)
		}
		for _, id := range []int{most, -1, math.MaxInt} {
			is(t, "Set, one too many", c.Set(id, 7), api.ErrTimer)
			is(t, "Set, one too many", c.Set(id, 1), api.ErrTimer)
			if due, there := c.Due(id); due != 0 || there {
				t.Errorf("Due(%d): %d, %v", id, due, there)
			}
		}
		set(t, c, most-1, 9)
		set(t, c, 0, 8)
		if due, there := c.Due(0); due != 8 || !there || len(c.All()) != most {
			t.Errorf("Due(0): %d, %v, of %d timers", due, there, len(c.All()))
		}
		is(t, "Set, one too many still", c.Set(most, 7), api.ErrTimer)
	}
}

// P8.1: there is room again for as many as were unset, or told, and no more.
func TestRoomAgain(t *testing.T) {
	c := made(t, 3)
	set(t, c, 1, 1)
	set(t, c, 2, 1)
	set(t, c, 3, 5)
	is(t, "Set, full", c.Set(4, 2), api.ErrTimer)
	if !c.Unset(2) {
		t.Error("Unset")
	}
	set(t, c, 4, 2)
	is(t, "Set, full", c.Set(2, 2), api.ErrTimer)
	tells(t, "Tick", c.Tick(), 1, 1)
	set(t, c, 2, 1)
	is(t, "Set, full", c.Set(1, 2), api.ErrTimer)
	tells(t, "Skip", c.Skip(), 2, 2, 2, 4)
	set(t, c, 1, 1)
	set(t, c, 7, 1)
	is(t, "Set, full", c.Set(8, 2), api.ErrTimer)
	stands(t, c, 2, 3, 1, 3, 7, 5, 3)
}

// P8.1: what is refused changes nothing, neither the timer of that Id.
func TestSetRefused(t *testing.T) {
	wrong := []int64{0, -1, -2, -far, math.MinInt64, math.MinInt64 + 1, far + 1, far + 2, 2 * far, math.MaxInt64 - 1, math.MaxInt64}
	c := made(t, 2)
	for _, in := range wrong {
		is(t, "Set", c.Set(1, in), api.ErrArg)
	}
	stands(t, c, 0)
	set(t, c, 1, 3)
	for _, in := range wrong {
		is(t, "Set", c.Set(1, in), api.ErrArg)
		is(t, "Set", c.Set(2, in), api.ErrArg)
	}
	stands(t, c, 0, 3, 1)
	set(t, c, 2, 4)
	for _, in := range wrong {
		for _, id := range []int{1, 2, 3} { // of the last one both errors could be told
			is(t, "Set, full", c.Set(id, in), api.ErrArg)
		}
	}
	stands(t, c, 0, 3, 1, 4, 2)
}

// P8.1: the time and what is added are at most MaxTime together, whatever the time is.
func TestSetFar(t *testing.T) {
	c := made(t, 3)
	set(t, c, 1, far)
	stands(t, c, 0, far, 1)
	c.Tick()
	c.Tick()
	for _, in := range []int64{far - 1, far, math.MaxInt64, math.MaxInt64 - 1, math.MaxInt64 - 2} {
		is(t, "Set", c.Set(1, in), api.ErrArg)
		is(t, "Set", c.Set(2, in), api.ErrArg)
	}
	set(t, c, 2, far-2)
	set(t, c, 3, far-3)
	stands(t, c, 2, far-1, 3, far, 1, far, 2)
	tells(t, "Skip", c.Skip(), far-1, 3)
	is(t, "Set", c.Set(3, 2), api.ErrArg)
	set(t, c, 3, 1)
	stands(t, c, far-1, far, 1, far, 2, far, 3)
	tells(t, "Tick", c.Tick(), far, 1, far, 2, far, 3)
	for _, in := range []int64{1, 2, far, math.MaxInt64} {
		is(t, "Set at the end of time", c.Set(1, in), api.ErrArg)
	}
	stands(t, c, far)
}

// P8.1: a timer is due as much later as was said, counted from the time at which it is set.
func TestSetFromNow(t *testing.T) {
	c := made(t, 9)
	for now := range int64(5) {
		set(t, c, int(now), 10)
		set(t, c, 100, 3)
		if due, there := c.Due(int(now)); due != now+10 || !there {
			t.Errorf("at %d: due at %d, %v", now, due, there)
		}
		c.Tick()
	}
	stands(t, c, 5, 7, 100, 10, 0, 11, 1, 12, 2, 13, 3, 14, 4)
}

// P8.1: a timer that is there is due anew: later, sooner, or at the same time; it is one still.
func TestSetAnew(t *testing.T) {
	c := made(t, 3)
	for _, in := range []int64{5, 9, 1, 1, 4, far, 5} {
		set(t, c, 6, in)
		stands(t, c, 0, int(in), 6)
	}
	set(t, c, 5, 5)
	set(t, c, 7, 5)
	stands(t, c, 0, 5, 5, 5, 6, 5, 7)
	set(t, c, 7, 4)
	stands(t, c, 0, 4, 7, 5, 5, 5, 6)
	set(t, c, 7, 6)
	stands(t, c, 0, 5, 5, 5, 6, 6, 7)
	set(t, c, 5, 6)
	stands(t, c, 0, 5, 6, 6, 5, 6, 7)
}

// P8.1: each number is an Id.
func TestAnyId(t *testing.T) {
	ids := []int{0, -1, 1, math.MinInt, math.MaxInt, 1 << 32, -1 << 32, 65536}
	c := made(t, len(ids))
	for i, id := range ids {
		set(t, c, id, int64(3+i%2))
	}
	stands(t, c, 0,
		3, -1<<32, 3, 0, 3, 1, 3, math.MaxInt,
		4, math.MinInt, 4, -1, 4, 65536, 4, 1<<32)
	for _, id := range ids {
		if !c.Unset(id) || c.Unset(id) {
			t.Errorf("Unset(%d)", id)
		}
	}
	stands(t, c, 0)
}

// P8.1: Unset takes that one away, and none else; of one that is not there nothing.
func TestUnset(t *testing.T) {
	c := made(t, 5)
	if c.Unset(0) || c.Unset(1) {
		t.Error("Unset of none")
	}
	for id := range 5 {
		set(t, c, id, int64(4-id/2))
	}
	stands(t, c, 0, 2, 4, 3, 2, 3, 3, 4, 0, 4, 1)
	if !c.Unset(3) || c.Unset(3) || c.Unset(5) || c.Unset(-1) {
		t.Error("Unset")
	}
	stands(t, c, 0, 2, 4, 3, 2, 4, 0, 4, 1)
	if !c.Unset(4) {
		t.Error("Unset of the first one")
	}
	stands(t, c, 0, 3, 2, 4, 0, 4, 1)
	if !c.Unset(1) {
		t.Error("Unset of the last one")
	}
	stands(t, c, 0, 3, 2, 4, 0)
	tells(t, "Skip", c.Skip(), 3, 2)
	if c.Unset(2) {
		t.Error("Unset of one that was told")
	}
	stands(t, c, 3, 4, 0)
	if !c.Unset(0) || c.Unset(0) {
		t.Error("Unset of the only one")
	}
	stands(t, c, 3)
}
