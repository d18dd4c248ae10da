package clock_test

import (
	"fmt"
	"math"
	"slices"
	"testing"

	"cooperage/api"
	"cooperage/clock"
)

// spoil changes a list to the end of its spare room.
func spoil(l []api.Timer) {
	l = l[:cap(l)]
	for i := range l {
		l[i] = api.Timer{Due: -77, Id: -78}
	}
}

// of is a clock with so many timers due at each of the times 1 to 4, and a plain one.
func of(t *testing.T, many int) (*clock.Clock, *plain) {
	t.Helper()
	c, p := made(t, 200), &plain{most: 200}
	for id := range 4 * many {
		in := int64(1 + id%4)
		set(t, c, 7-id, in)
		is(t, "Set of a plain one", p.set(7-id, in), api.OK)
	}
	return c, p
}

// R3: what is told is in memory of its own, each time, with its spare room.
func TestHandedOut(t *testing.T) {
	for _, many := range []int{1, 2, 3, 4, 5, 7, 8, 9, 33, 40} {
		c, p := of(t, many)
		kept, first := c.All(), p.all()
		spoil(c.All())
		for k, turn := range []func() []api.Timer{c.Tick, c.Skip, c.Tick, c.Skip} {
			l, want := turn(), p.tick()
			spoil(c.All())
			c.Set(1000, 50)
			c.Unset(1000)
			if !slices.Equal(l, want) {
				t.Fatalf("of %d: turn %d tells %v, want %v", many, k, l, want)
			}
			spoil(l)
			if why := differs(c, p); why != "" {
				t.Fatalf("of %d: behind turn %d: %s", many, k, why)
			}
		}
		for id := range 200 { // where what was told may have lain
			set(t, c, id, 9)
		}
		if !slices.Equal(kept, first) {
			t.Fatalf("of %d: an elder list has changed", many)
		}
	}
}

// R5: no clock, and such as New did not make: ErrNil, ahead of all else, or zeros; a copy by value was not made by New either, and does not meet what it was copied from.
func TestNoClock(t *testing.T) {
	one := made(t, 2)
	c := made(t, 2)
	set(t, c, 1, 3)
	set(t, one, 1, 3)
	one.Tick()
	twin := *one
	for name, c := range map[string]*clock.Clock{"nil": nil, "not made": {}, "a copy": &twin} {
		for range 2 {
			for _, id := range []int{0, 1, -1, math.MinInt, math.MaxInt} {
				for _, in := range []int64{0, 1, -1, math.MinInt64, math.MaxInt64, far} {
					is(t, name+": Set", c.Set(id, in), api.ErrNil)
				}
				due, there := c.Due(id)
				if c.Unset(id) || due != 0 || there {
					t.Errorf("%s: Unset, Due of %d: %d, %v", name, id, due, there)
				}
			}
			x, some := c.Next()
			if c.Now() != 0 || x != (api.Timer{}) || some || len(c.All()) != 0 {
				t.Errorf("%s: Now %d, Next %v, All %v", name, c.Now(), x, c.All())
			}
			if l, m := c.Tick(), c.Skip(); len(l) != 0 || len(m) != 0 {
				t.Errorf("%s: Tick %v, Skip %v", name, l, m)
			}
		}
	}
	stands(t, one, 1, 3, 1)
	tells(t, "Skip", one.Skip(), 3, 1)
	stands(t, c, 0, 3, 1)
}

// R4: two clocks have nothing in common, and answer the same to the same.
func TestTwoClocks(t *testing.T) {
	k := chance(5)
	one, other := made(t, 9), made(t, 9)
	for i := range 2000 {
		id, in := k.below(12), int64(1+k.below(9))
		call := []func(c *clock.Clock) string{
			func(c *clock.Clock) string { return fmt.Sprint(c.Set(id, in)) },
			func(c *clock.Clock) string { return fmt.Sprint(c.Set(id, in)) },
			func(c *clock.Clock) string { return fmt.Sprint(c.Unset(id)) },
			func(c *clock.Clock) string { return fmt.Sprint(c.Tick()) },
			func(c *clock.Clock) string { return fmt.Sprint(c.Skip()) },
		}[k.below(5)]
		before := fmt.Sprint(other.Now(), other.All())
		told := call(one)
		if now := fmt.Sprint(other.Now(), other.All()); now != before {
			t.Fatalf("step %d: %s, was %s", i, now, before)
		}
		if x := call(other); x != told {
			t.Fatalf("step %d: %s and %s", i, told, x)
		}
	}
}

// Limits: as many timers as there may be, each due at another time, in an order that is mixed: all in order, and told one by one.
func TestGreatestAll(t *testing.T) {
	const most = 65536
	c := made(t, most)
	for i := range most {
		id := i * 40503 % most // a factor that is odd comes to each
		set(t, c, id, int64(most-id))
	}
	is(t, "Set, full", c.Set(most, 1), api.ErrTimer)
	if l := c.All(); len(l) != most || l[0] != (api.Timer{Due: 1, Id: most - 1}) || l[most-1] != (api.Timer{Due: most, Id: 0}) {
		t.Fatalf("All: %d timers", len(l))
	}
	for i := range most {
		turn := c.Tick
		if i%2 == 1 {
			turn = c.Skip
		}
		tells(t, "a turn", turn(), i+1, most-1-i)
	}
	stands(t, c, most)
}

// Limits: as many timers as there may be, all told at once.
func TestAllAtOnce(t *testing.T) {
	const most = 65536
	c := made(t, most)
	for id := range most {
		set(t, c, id*40503%most, far)
	}
	l := c.Skip()
	if len(l) != most {
		t.Fatalf("%d were told", len(l))
	}
	for id, x := range l {
		if x != (api.Timer{Due: far, Id: id}) {
			t.Fatalf("the %d-th: %v", id, x)
		}
	}
	stands(t, c, far)
}

// The chapter's example.
func TestExample(t *testing.T) {
	c := made(t, 3)
	set(t, c, 1, 5)
	set(t, c, 2, 3)
	set(t, c, 0, 5)
	stands(t, c, 0, 3, 2, 5, 0, 5, 1)
	tells(t, "Tick", c.Tick())
	tells(t, "Tick", c.Tick())
	tells(t, "Tick", c.Tick(), 3, 2)
	set(t, c, 1, 9)
	stands(t, c, 3, 5, 0, 12, 1)
	tells(t, "Skip", c.Skip(), 5, 0)
	stands(t, c, 5, 12, 1)
	if !c.Unset(1) {
		t.Error("Unset")
	}
	tells(t, "Skip", c.Skip())
	stands(t, c, 5)
	is(t, "Set", c.Set(4, 0), api.ErrArg)
}
