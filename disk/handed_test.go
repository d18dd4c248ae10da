package disk_test

import (
	"bytes"
	"math"
	"slices"
	"testing"

	"cooperage/api"
	"cooperage/disk"
)

// R3: bytes that are written are not kept, nor changed, nor their spare room.
func TestWriteHandedIn(t *testing.T) {
	memory := append(mixed(1), 201, 202, 203)
	was := bytes.Clone(memory)
	d := made(t, 2)
	write(t, d, 1, memory[:api.Sector])
	flush(t, d)
	write(t, d, 0, memory[:api.Sector])
	d.Spoil(1, 3, 255)
	d.Spoil(0, 3, 255)
	if !bytes.Equal(memory, was) {
		t.Errorf("what was handed in is %v, was %v", memory, was)
	}
	clear(memory)
	reads(t, d, 0, mixed(1))
	want := mixed(1)
	want[3] ^= 255
	reads(t, d, 1, want)
	d.Crash([]bool{true})
	reads(t, d, 0, mixed(1))
}

// R3: one list that is written to more than one sector, and changed between.
func TestWriteOneList(t *testing.T) {
	d := made(t, 3)
	b := make([]byte, api.Sector)
	for i := range 3 {
		copy(b, mixed(uint32(i)))
		write(t, d, i, b)
	}
	for i := range 3 {
		reads(t, d, i, mixed(uint32(i)))
	}
	flush(t, d)
	clear(b)
	for i := range 3 {
		reads(t, d, i, mixed(uint32(i)))
	}
}

// R3: what Read answers is in memory of its own, whether the cache has it or not.
func TestReadHandedOut(t *testing.T) {
	d := made(t, 3)
	write(t, d, 1, mixed(1))
	flush(t, d)
	write(t, d, 2, mixed(2))
	for i, want := range [][]byte{of(0), mixed(1), mixed(2)} {
		first, _ := d.Read(i)
		second, _ := d.Read(i)
		long := first[:cap(first)]
		for at := range long {
			long[at] ^= 255
		}
		if !bytes.Equal(second, want) {
			t.Errorf("two answers of sector %d share memory", i)
		}
		_ = append(second, 1, 2, 3)
		reads(t, d, i, want)
	}
	flush(t, d)
	kept, _ := d.Read(2)
	write(t, d, 2, of(9))
	d.Spoil(2, 0, 255)
	flush(t, d)
	if !bytes.Equal(kept, mixed(2)) {
		t.Errorf("an answer has changed: %v", kept)
	}
}

// R3: what Cached answers is in memory of its own, and stays as it is.
func TestCachedHandedOut(t *testing.T) {
	d := made(t, 4)
	write(t, d, 2, of(1))
	write(t, d, 0, of(1))
	first, second := d.Cached(), d.Cached()
	clear(first[:cap(first)])
	if !slices.Equal(second, []int{0, 2}) {
		t.Errorf("two answers share memory: %v", second)
	}
	cached(t, d, 0, 2)
	write(t, d, 1, of(1))
	flush(t, d)
	if !slices.Equal(second, []int{0, 2}) {
		t.Errorf("an answer has changed: %v", second)
	}
}

// R3: keeps are not changed, nor kept, nor their spare room looked at.
func TestKeepsHandedIn(t *testing.T) {
	d := made(t, 4)
	for i := range 4 {
		write(t, d, i, of(7))
	}
	memory := []bool{true, false, true, true}
	d.Crash(memory[:2])
	if !slices.Equal(memory, []bool{true, false, true, true}) {
		t.Errorf("what was handed in is %v", memory)
	}
	for i, b := range []byte{7, 0, 0, 0} {
		reads(t, d, i, of(b))
	}
	clear(memory)
	reads(t, d, 0, of(7))
}

// R5: no disk, and one that New did not make: ErrNil, ahead of all else, or zeros; and it becomes none.
func TestNoDisk(t *testing.T) {
	for name, d := range map[string]*disk.Disk{"nil": nil, "not made": {}, "new": new(disk.Disk)} {
		for range 2 {
			for _, i := range []int{0, 1, -1, 4, math.MinInt, math.MaxInt} {
				for _, b := range [][]byte{of(1), nil, {1}} {
					if e := d.Write(i, b); e != api.ErrNil {
						t.Errorf("%s: Write(%d): %d", name, i, e)
					}
				}
				if b, e := d.Read(i); len(b) != 0 || e != api.ErrNil {
					t.Errorf("%s: Read(%d): %v, %d", name, i, b, e)
				}
				for _, at := range []int{0, 63, 64, -1, math.MaxInt} {
					if e := d.Spoil(i, at, 1); e != api.ErrNil {
						t.Errorf("%s: Spoil(%d, %d): %d", name, i, at, e)
					}
				}
			}
			if e := d.Flush(); e != api.ErrNil {
				t.Errorf("%s: Flush: %d", name, e)
			}
			if len(d.Cached()) != 0 || d.Size() != 0 || d.Down() {
				t.Errorf("%s: Cached %v, Size %d, Down %v", name, d.Cached(), d.Size(), d.Down())
			}
			d.Arm(0)
			d.Crash(nil)
			d.Crash([]bool{true, false})
			d.Arm(-1)
		}
	}
}

// R4: two disks have nothing in common, and answer the same to the same.
func TestTwoDisks(t *testing.T) {
	a, b := made(t, 3), made(t, 3)
	write(t, a, 1, of(1))
	flush(t, a)
	write(t, a, 2, of(2))
	a.Spoil(0, 0, 9)
	a.Arm(0)
	a.Flush()
	if b.Down() {
		t.Error("the other disk is down")
	}
	cached(t, b)
	for i := range 3 {
		reads(t, b, i, of(0))
	}
	flush(t, b)
	write(t, b, 1, of(5))
	b.Crash([]bool{true})
	cached(t, a, 2)
	refused(t, a)
	a.Crash(nil)
	reads(t, a, 1, of(1))
	reads(t, b, 1, of(5))
}

// R4: the same steps answer the same, time for time.
func TestSameAnswers(t *testing.T) {
	run := func() []byte {
		d, c := made(t, 6), chance(3)
		var out []byte
		for k := range 400 {
			e := d.Write(c.below(7), mixed(uint32(k)))
			if c.below(5) == 0 {
				d.Arm(c.below(9))
			}
			if d.Down() {
				d.Crash(bits(c.below(64), 6))
			}
			out = append(out, byte(e), byte(len(d.Cached())))
			for i := range d.Size() {
				b, e := d.Read(i)
				out = append(append(out, byte(e)), b...)
			}
		}
		return out
	}
	if first := run(); !bytes.Equal(first, run()) {
		t.Error("the same steps answer otherwise")
	}
}

// R2: what was refused has changed nothing: beside the steps of a plain disk calls are refused at every turn.
func TestRefusedChangesNothing(t *testing.T) {
	d, p, c := made(t, 4), plainly(4), chance(11)
	for k := range 2000 {
		if !c.any(4)(d, p) {
			t.Fatalf("another answer behind step %d", k)
		}
		d.Write(4, mixed(uint32(k)))
		d.Write(c.below(4), make([]byte, 63))
		d.Write(c.below(4), make([]byte, 65))
		d.Spoil(-1, 0, 255)
		d.Spoil(c.below(4), 64, 255)
		d.Read(-1)
		if !alike(d, p) {
			t.Fatalf("another disk behind step %d, and refused calls", k)
		}
	}
}
