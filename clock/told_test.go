package clock_test

import (
	"math"
	"testing"

	"cooperage/api"
)

// P8.2: of no timer nothing.
func TestNone(t *testing.T) {
	c := made(t, 2)
	for range 3 {
		for _, id := range []int{0, 1, -1, math.MinInt, math.MaxInt} {
			if due, there := c.Due(id); due != 0 || there {
				t.Errorf("Due(%d): %d, %v", id, due, there)
			}
		}
		if x, some := c.Next(); x != (api.Timer{}) || some || len(c.All()) != 0 {
			t.Errorf("Next: %v, %v", x, some)
		}
		set(t, c, 1, 1)
		c.Tick()
	}
}

// P8.2: one is ahead by its Due, and by its Id where that is the same: in each order of setting five of them.
func TestOrder(t *testing.T) {
	five := timers(1, 9, 2, -3, 2, 0, 2, 7, 3, -9)
	ways := 0
	var lay func(left []api.Timer, laid []api.Timer)
	lay = func(left, laid []api.Timer) {
		if len(left) == 0 {
			ways++
			c := made(t, 5)
			for _, x := range laid {
				set(t, c, x.Id, x.Due)
			}
			stands(t, c, 0, 1, 9, 2, -3, 2, 0, 2, 7, 3, -9)
			return
		}
		for i, x := range left {
			rest := append(append([]api.Timer{}, left[:i]...), left[i+1:]...)
			lay(rest, append(append([]api.Timer{}, laid...), x))
		}
	}
	lay(five, nil)
	if ways != 120 {
		t.Errorf("%d ways", ways)
	}
}

// P8.2: Ids far from one another, and times, are put in order by their values.
func TestOrderFar(t *testing.T) {
	c := made(t, 7)
	set(t, c, math.MaxInt, 5)
	set(t, c, math.MinInt, 5)
	set(t, c, 0, far)
	set(t, c, 1, far-1)
	set(t, c, -1, 1)
	set(t, c, math.MinInt+1, 5)
	set(t, c, math.MaxInt-1, 1<<32)
	stands(t, c, 0, 1, -1, 5, math.MinInt, 5, math.MinInt+1, 5, math.MaxInt, 1<<32, math.MaxInt-1, far-1, 1, far, 0)
}

// P8.2: asking changes nothing.
func TestAskingChangesNothing(t *testing.T) {
	c := made(t, 3)
	set(t, c, 2, 3)
	set(t, c, 1, 3)
	set(t, c, 3, 1)
	for range 5 {
		stands(t, c, 0, 1, 3, 3, 1, 3, 2)
	}
	tells(t, "Tick", c.Tick(), 1, 3)
	for range 5 {
		stands(t, c, 1, 3, 1, 3, 2)
	}
}

// P8.2: what was told, or unset, is told by none of them any more.
func TestGone(t *testing.T) {
	c := made(t, 4)
	set(t, c, 0, 1)
	set(t, c, 1, 1)
	set(t, c, 2, 2)
	set(t, c, 3, 3)
	tells(t, "Tick", c.Tick(), 1, 0, 1, 1)
	stands(t, c, 1, 2, 2, 3, 3)
	tells(t, "Skip", c.Skip(), 2, 2)
	stands(t, c, 2, 3, 3)
	c.Unset(3)
	stands(t, c, 2)
}
