package clock_test

import (
	"testing"
)

// P8.3: Tick turns the time on by one each time, with timers and without.
func TestTick(t *testing.T) {
	c := made(t, 4)
	for now := range int64(3) {
		stands(t, c, now)
		tells(t, "Tick", c.Tick())
	}
	set(t, c, 5, 2)
	set(t, c, 4, 2)
	set(t, c, 6, 3)
	set(t, c, -1, 1)
	tells(t, "Tick", c.Tick(), 4, -1)
	stands(t, c, 4, 5, 4, 5, 5, 6, 6)
	tells(t, "Tick", c.Tick(), 5, 4, 5, 5)
	stands(t, c, 5, 6, 6)
	tells(t, "Tick", c.Tick(), 6, 6)
	stands(t, c, 6)
	tells(t, "Tick", c.Tick())
	stands(t, c, 7)
}

// P8.3: Tick does not go past the greatest time, nor does it tell anything there.
func TestTickAtTheEnd(t *testing.T) {
	c := made(t, 2)
	set(t, c, 1, far-1)
	tells(t, "Skip", c.Skip(), far-1, 1)
	set(t, c, 1, 1)
	tells(t, "Tick", c.Tick(), far, 1)
	for range 3 {
		tells(t, "Tick", c.Tick())
		tells(t, "Skip", c.Skip())
		stands(t, c, far)
	}
}

// P8.3: the last tick of all, without a timer that is due by it.
func TestLastTick(t *testing.T) {
	c := made(t, 2)
	set(t, c, 1, far-2)
	c.Skip()
	for _, now := range []int64{far - 1, far, far, far} {
		tells(t, "Tick", c.Tick())
		stands(t, c, now)
	}
}

// P8.3: Skip turns the time to the Due of the first one, tells all that are due then, and none else.
func TestSkip(t *testing.T) {
	c := made(t, 6)
	tells(t, "Skip", c.Skip())
	stands(t, c, 0)
	set(t, c, 3, 10)
	set(t, c, 1, 10)
	set(t, c, 2, 11)
	set(t, c, 0, 1000)
	set(t, c, 5, far)
	set(t, c, 4, far)
	tells(t, "Skip", c.Skip(), 10, 1, 10, 3)
	stands(t, c, 10, 11, 2, 1000, 0, far, 4, far, 5)
	tells(t, "Skip", c.Skip(), 11, 2)
	stands(t, c, 11, 1000, 0, far, 4, far, 5)
	set(t, c, 2, 989)
	tells(t, "Skip", c.Skip(), 1000, 0, 1000, 2)
	stands(t, c, 1000, far, 4, far, 5)
	tells(t, "Skip", c.Skip(), far, 4, far, 5)
	stands(t, c, far)
	tells(t, "Skip", c.Skip())
	stands(t, c, far)
}

// P8.3: without a timer Skip leaves the time as it is, also where there was one.
func TestSkipNone(t *testing.T) {
	c := made(t, 1)
	c.Tick()
	tells(t, "Skip", c.Skip())
	stands(t, c, 1)
	set(t, c, 1, 5)
	c.Unset(1)
	tells(t, "Skip", c.Skip())
	stands(t, c, 1)
	set(t, c, 1, 5)
	tells(t, "Skip", c.Skip(), 6, 1)
	tells(t, "Skip", c.Skip())
	stands(t, c, 6)
}

// P8.3: what was told can be set again, and is told again then.
func TestTwice(t *testing.T) {
	c := made(t, 1)
	for k := range 5 {
		set(t, c, 9, 2)
		if k%2 == 0 {
			tells(t, "Tick", c.Tick())
			tells(t, "Tick", c.Tick(), 2*k+2, 9)
		} else {
			tells(t, "Skip", c.Skip(), 2*k+2, 9)
		}
		stands(t, c, int64(2*k+2))
	}
}
