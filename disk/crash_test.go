package disk_test

import (
	"slices"
	"testing"

	"cooperage/api"
)

// P5.3: the chapter's example.
func TestCrashExample(t *testing.T) {
	d := made(t, 4)
	write(t, d, 1, of(1))
	reads(t, d, 1, of(1))
	cached(t, d, 1)
	flush(t, d)
	write(t, d, 1, of(2))
	write(t, d, 3, of(3))
	d.Crash([]bool{false, true})
	reads(t, d, 1, of(1))
	reads(t, d, 3, of(3))
	d.Arm(1)
	write(t, d, 1, of(9))
	if e := d.Flush(); e != api.ErrDown {
		t.Errorf("Flush: %d", e)
	}
	refused(t, d)
	d.Crash(nil)
	reads(t, d, 1, of(1))
	d.Spoil(1, 0, 255)
	if b, e := d.Read(1); e != api.OK || b[0] != 254 || !slices.Equal(b[1:], of(1)[1:]) {
		t.Errorf("Read(1), spoilt: %v, %d", b, e)
	}
}

// bits is the lowest of n's, so many, as keeps.
func bits(n, many int) []bool {
	var keeps []bool
	for i := range many {
		keeps = append(keeps, n>>i&1 == 1)
	}
	return keeps
}

// P5.3: each choice of what is kept, of a disk that is down, and of one that is not: by the cache's sectors, rising, not by the writes.
func TestCrashKeeps(t *testing.T) {
	order := []int{9, 2, 40, 0, 5}
	rising := slices.Sorted(slices.Values(order))
	for n := range 1 << len(order) {
		for _, down := range []bool{false, true} {
			d := made(t, 41)
			for _, i := range order {
				write(t, d, i, of(1))
			}
			flush(t, d)
			for _, i := range order {
				write(t, d, i, mixed(uint32(i)))
			}
			if down {
				d.Arm(0)
				d.Flush()
			}
			d.Crash(bits(n, len(order)))
			cached(t, d)
			if d.Down() {
				t.Error("down behind a crash")
			}
			for place, i := range rising {
				if n>>place&1 == 1 {
					reads(t, d, i, mixed(uint32(i)))
				} else {
					reads(t, d, i, of(1))
				}
			}
			reads(t, d, 1, of(0))
		}
	}
}

// P5.3: keeps that are fewer than the cache's sectors, and more.
func TestCrashOtherMany(t *testing.T) {
	for many := range 7 {
		for n := range 1 << many {
			d := made(t, 8)
			for _, i := range []int{6, 1, 3} {
				write(t, d, i, of(byte(i)))
			}
			keeps := bits(n, many)
			d.Crash(keeps)
			for place, i := range []int{1, 3, 6} {
				if place < many && keeps[place] {
					reads(t, d, i, of(byte(i)))
				} else {
					reads(t, d, i, of(0))
				}
			}
			for _, i := range []int{0, 2, 4, 5, 7} {
				reads(t, d, i, of(0))
			}
		}
	}
}

// P5.3: what was lost never comes back, and what was kept is on the medium.
func TestCrashTwice(t *testing.T) {
	d := made(t, 3)
	write(t, d, 0, of(1))
	write(t, d, 1, of(2))
	d.Crash([]bool{true, false})
	for range 3 {
		d.Crash([]bool{true, true, true})
		flush(t, d)
		reads(t, d, 0, of(1))
		reads(t, d, 1, of(0))
	}
	write(t, d, 1, of(3))
	d.Crash([]bool{true})
	d.Crash(nil)
	reads(t, d, 1, of(3))
}

// P5.3: a crash with nothing in the cache, of a new disk, and of one that is down.
func TestCrashOfNothing(t *testing.T) {
	d := made(t, 2)
	d.Crash([]bool{true, true, true})
	reads(t, d, 0, of(0))
	d.Arm(0)
	d.Write(0, of(1))
	d.Crash([]bool{true, true})
	reads(t, d, 0, of(0))
	reads(t, d, 1, of(0))
	cached(t, d)
}
