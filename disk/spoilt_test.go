package disk_test

import (
	"math"
	"testing"

	"cooperage/api"
)

// P5.2: one byte of the medium is turned, and nothing else; turned likewise again it is as it was.
func TestSpoil(t *testing.T) {
	d := made(t, 3)
	for i := range 3 {
		write(t, d, i, mixed(uint32(i)))
	}
	flush(t, d)
	for at := range api.Sector {
		for _, turn := range []byte{0, 1, 2, 128, 170, 255} {
			want := mixed(1)
			want[at] ^= turn
			if e := d.Spoil(1, at, turn); e != api.OK {
				t.Fatalf("Spoil(1, %d, %d): %d", at, turn, e)
			}
			cached(t, d)
			reads(t, d, 0, mixed(0))
			reads(t, d, 1, want)
			reads(t, d, 2, mixed(2))
			d.Spoil(1, at, turn)
			reads(t, d, 1, mixed(1))
		}
	}
}

// P5.2: the first and the last sector of disks.
func TestSpoilEdges(t *testing.T) {
	for _, sectors := range []int{1, 2, api.MaxSectors} {
		d := made(t, sectors)
		if e := d.Spoil(0, 0, 1); e != api.OK {
			t.Errorf("Spoil(0, 0): %d", e)
		}
		if e := d.Spoil(sectors-1, api.Sector-1, 2); e != api.OK {
			t.Errorf("Spoil(%d, 63): %d", sectors-1, e)
		}
		first, _ := d.Read(0)
		last, _ := d.Read(sectors - 1)
		if first[0] != 1 || last[api.Sector-1] != 2 {
			t.Errorf("New(%d): %v, %v", sectors, first, last)
		}
	}
}

// P5.2: bytes of the cache are not spoilt: they hide those of the medium, and go over them.
func TestSpoilBehindCache(t *testing.T) {
	for _, flushes := range []bool{false, true} {
		d := made(t, 2)
		write(t, d, 1, of(1))
		if e := d.Spoil(1, 5, 255); e != api.OK {
			t.Errorf("Spoil: %d", e)
		}
		reads(t, d, 1, of(1))
		cached(t, d, 1)
		want := of(1)
		if flushes {
			flush(t, d)
			reads(t, d, 1, want)
		} else {
			want = of(0)
			want[5] = 255
		}
		d.Crash(nil)
		reads(t, d, 1, want)
	}
	d := made(t, 2)
	write(t, d, 1, of(1))
	d.Spoil(1, 5, 255)
	d.Crash([]bool{true})
	reads(t, d, 1, of(1))
}

// P5.2: no such sector, ahead of no such byte; nothing has changed.
func TestSpoilRefused(t *testing.T) {
	d := made(t, 2)
	write(t, d, 0, of(1))
	flush(t, d)
	for _, i := range []int{-1, -2, 2, 3, 64, 1 << 32, math.MinInt, math.MaxInt} {
		for _, at := range []int{0, 63, -1, 64, math.MinInt, math.MaxInt} {
			if e := d.Spoil(i, at, 255); e != api.ErrSector {
				t.Errorf("Spoil(%d, %d): %d", i, at, e)
			}
		}
	}
	for i := range 2 {
		for _, at := range []int{-1, -64, 64, 65, 128, 1 << 32, math.MinInt, math.MaxInt} {
			for _, turn := range []byte{0, 255} {
				if e := d.Spoil(i, at, turn); e != api.ErrArg {
					t.Errorf("Spoil(%d, %d, %d): %d", i, at, turn, e)
				}
			}
		}
	}
	reads(t, d, 0, of(1))
	reads(t, d, 1, of(0))
	cached(t, d)
}

// P5.2: a disk that is down is spoilt all the same, and refuses what no disk has.
func TestSpoilDown(t *testing.T) {
	d := made(t, 2)
	d.Arm(0)
	d.Flush()
	if e := d.Spoil(1, 63, 7); e != api.OK {
		t.Errorf("Spoil, down: %d", e)
	}
	if e := d.Spoil(2, 64, 7); e != api.ErrSector {
		t.Errorf("Spoil of no sector, down: %d", e)
	}
	if e := d.Spoil(1, 64, 7); e != api.ErrArg {
		t.Errorf("Spoil of no byte, down: %d", e)
	}
	refused(t, d)
	d.Crash(nil)
	want := of(0)
	want[63] = 7
	reads(t, d, 1, want)
	reads(t, d, 0, of(0))
}

// P5.2: the cache's sectors, rising, each of them once, in whatever order they were written; of a disk that is down, too.
func TestCached(t *testing.T) {
	d := made(t, 1000)
	cached(t, d)
	for _, i := range []int{500, 3, 999, 0, 3, 70, 500, 8} {
		write(t, d, i, of(byte(i)))
		d.Read(i + 1)
	}
	cached(t, d, 0, 3, 8, 70, 500, 999)
	d.Arm(1)
	write(t, d, 9, of(9))
	d.Write(4, of(4))
	cached(t, d, 0, 3, 8, 9, 70, 500, 999)
	d.Crash([]bool{true, true})
	cached(t, d)
	write(t, d, 2, of(2))
	cached(t, d, 2)
	flush(t, d)
	cached(t, d)
}

// P5.2: the size stays, whatever is done.
func TestSize(t *testing.T) {
	for _, sectors := range []int{1, 5, api.MaxSectors} {
		d := made(t, sectors)
		write(t, d, 0, of(1))
		d.Write(sectors, of(1))
		d.Spoil(sectors, 0, 1)
		flush(t, d)
		d.Arm(0)
		d.Flush()
		if d.Size() != sectors {
			t.Errorf("Size %d of %d, down", d.Size(), sectors)
		}
		d.Crash(nil)
		if d.Size() != sectors {
			t.Errorf("Size %d of %d", d.Size(), sectors)
		}
	}
}
