package disk_test

import (
	"bytes"
	"math"
	"slices"
	"testing"

	"cooperage/api"
	"cooperage/disk"
)

// of is a sector that has but that byte.
func of(b byte) []byte {
	return bytes.Repeat([]byte{b}, api.Sector)
}

// mixed is a sector whose bytes come by a rule from a seed.
func mixed(seed uint32) []byte {
	out := make([]byte, api.Sector)
	for i := range out {
		seed = seed*1664525 + 1013904223
		out[i] = byte(seed >> 24)
	}
	return out
}

// made is a disk that has to be.
func made(t *testing.T, sectors int) *disk.Disk {
	t.Helper()
	d, e := disk.New(sectors)
	if d == nil || e != api.OK {
		t.Fatalf("New(%d): %d", sectors, e)
	}
	return d
}

// write is a Write that has to be done.
func write(t *testing.T, d *disk.Disk, i int, b []byte) {
	t.Helper()
	if e := d.Write(i, b); e != api.OK {
		t.Fatalf("Write(%d): %d", i, e)
	}
}

// flush is a Flush that has to be done.
func flush(t *testing.T, d *disk.Disk) {
	t.Helper()
	if e := d.Flush(); e != api.OK {
		t.Fatalf("Flush: %d", e)
	}
}

// reads asks for a sector, which has to have these bytes.
func reads(t *testing.T, d *disk.Disk, i int, want []byte) {
	t.Helper()
	if got, e := d.Read(i); e != api.OK || !bytes.Equal(got, want) {
		t.Errorf("Read(%d): %v, %d, want %v", i, got, e, want)
	}
}

// cached asks which sectors the cache has.
func cached(t *testing.T, d *disk.Disk, want ...int) {
	t.Helper()
	if got := d.Cached(); !slices.Equal(got, want) {
		t.Errorf("Cached: %v, want %v", got, want)
	}
}

// P5.1: a new disk has so many sectors, all of noughts, nothing in its cache, and its power.
func TestNew(t *testing.T) {
	for _, sectors := range []int{1, 2, 3, 4, 63, 64, 65, 1000, api.MaxSectors - 1, api.MaxSectors} {
		d := made(t, sectors)
		if d.Size() != sectors || d.Down() {
			t.Errorf("New(%d): Size %d, Down %v", sectors, d.Size(), d.Down())
		}
		cached(t, d)
		for i := range sectors {
			if b, e := d.Read(i); e != api.OK || !bytes.Equal(b, of(0)) {
				t.Fatalf("New(%d): Read(%d): %v, %d", sectors, i, b, e)
			}
		}
		for _, i := range []int{-1, sectors} {
			if b, e := d.Read(i); len(b) != 0 || e != api.ErrSector {
				t.Errorf("New(%d): Read(%d): %v, %d", sectors, i, b, e)
			}
		}
	}
}

// P5.1: sizes that no disk has, and nothing beside the error.
func TestNewRefused(t *testing.T) {
	for _, sectors := range []int{0, -1, -2, -api.MaxSectors, api.MaxSectors + 1, 2 * api.MaxSectors, 1 << 32, 1<<32 + 1, math.MinInt, math.MaxInt} {
		if d, e := disk.New(sectors); d != nil || e != api.ErrArg {
			t.Errorf("New(%d): %v, %d", sectors, d, e)
		}
	}
}

// P5.1: a new disk is not armed: its power fails at none of many operations.
func TestNewNotArmed(t *testing.T) {
	d := made(t, 2)
	for n := range 1000 {
		write(t, d, n%2, mixed(uint32(n)))
		flush(t, d)
	}
	reads(t, d, 0, mixed(998))
	reads(t, d, 1, mixed(999))
}

// P5.1: what is written last is read, of each sector its own, ahead of a flush and behind it.
func TestWriteRead(t *testing.T) {
	for _, sectors := range []int{1, 2, 7, 300} {
		d := made(t, sectors)
		for round := range uint32(3) {
			for i := range sectors {
				write(t, d, i, mixed(round*1000+uint32(i)))
				reads(t, d, i, mixed(round*1000+uint32(i)))
			}
			for i := range sectors {
				reads(t, d, i, mixed(round*1000+uint32(i)))
			}
			flush(t, d)
			cached(t, d)
			for i := range sectors {
				reads(t, d, i, mixed(round*1000+uint32(i)))
			}
		}
	}
}

// P5.1: each byte of a sector is its own.
func TestWriteEachByte(t *testing.T) {
	d := made(t, 3)
	for at := range api.Sector {
		b := of(0)
		b[at] = byte(at) + 1
		write(t, d, 1, b)
		reads(t, d, 1, b)
		flush(t, d)
		reads(t, d, 1, b)
		reads(t, d, 0, of(0))
		reads(t, d, 2, of(0))
	}
}

// P5.1: the cache counts, and not the medium: a sector of noughts that is written over another one, too.
func TestCacheAheadOfMedium(t *testing.T) {
	d := made(t, 2)
	write(t, d, 0, of(7))
	flush(t, d)
	write(t, d, 0, of(0))
	cached(t, d, 0)
	reads(t, d, 0, of(0))
	d.Crash(nil)
	reads(t, d, 0, of(7))
	write(t, d, 0, of(0))
	flush(t, d)
	d.Crash(nil)
	reads(t, d, 0, of(0))
}

// P5.1: a sector that was written as it was is in the cache, too.
func TestWriteTheSame(t *testing.T) {
	d := made(t, 2)
	write(t, d, 1, of(0))
	cached(t, d, 1)
	flush(t, d)
	cached(t, d)
	write(t, d, 1, of(0))
	write(t, d, 1, of(0))
	cached(t, d, 1)
}

// P5.1: a flush brings all to the medium, and one of an empty cache nothing.
func TestFlush(t *testing.T) {
	d := made(t, api.MaxSectors)
	flush(t, d)
	for i := range api.MaxSectors {
		write(t, d, i, of(byte(i%251)))
	}
	flush(t, d)
	cached(t, d)
	flush(t, d)
	d.Crash(nil)
	for i := range api.MaxSectors {
		if b, e := d.Read(i); e != api.OK || !bytes.Equal(b, of(byte(i%251))) {
			t.Fatalf("Read(%d): %v, %d", i, b, e)
		}
	}
}

// P5.1, R7: no such sector, ahead of wrong bytes; nothing has changed.
func TestNoSector(t *testing.T) {
	for _, sectors := range []int{1, 4, api.MaxSectors} {
		d := made(t, sectors)
		write(t, d, 0, of(3))
		for _, i := range []int{-1, -2, sectors, sectors + 1, 1 << 16, 1 << 32, -1 << 32, math.MinInt, math.MaxInt} {
			for _, b := range [][]byte{of(1), nil, {1}, make([]byte, 65)} {
				if e := d.Write(i, b); e != api.ErrSector {
					t.Errorf("Write(%d) of %d bytes: %d", i, len(b), e)
				}
			}
			if b, e := d.Read(i); len(b) != 0 || e != api.ErrSector {
				t.Errorf("Read(%d): %v, %d", i, b, e)
			}
		}
		cached(t, d, 0)
		reads(t, d, 0, of(3))
	}
}

// P5.1: bytes that are no sector; nothing has changed.
func TestNoSectorsBytes(t *testing.T) {
	d := made(t, 2)
	write(t, d, 1, of(3))
	for _, long := range []int{0, 1, 32, 62, 63, 65, 66, 127, 128, 256, 64 + 1<<16} {
		for i := range 2 {
			if e := d.Write(i, make([]byte, long)); e != api.ErrArg {
				t.Errorf("Write(%d) of %d bytes: %d", i, long, e)
			}
		}
	}
	if e := d.Write(0, nil); e != api.ErrArg {
		t.Errorf("Write of none: %d", e)
	}
	if e := d.Write(0, make([]byte, 63, 64)); e != api.ErrArg {
		t.Errorf("Write of 63 bytes with spare room: %d", e)
	}
	cached(t, d, 1)
	reads(t, d, 0, of(0))
	reads(t, d, 1, of(3))
}
