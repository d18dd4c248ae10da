package disk_test

import (
	"bytes"
	"slices"
	"testing"

	"cooperage/api"
	"cooperage/disk"
)

// plain is a disk by the chapter's words, in another way: of each sector the medium's bytes, and the writes since the last flush, in order.
type plain struct {
	medium [][]byte
	writes []written
	number int // that it is armed with; below 0: not armed
	down   bool
}

// written is a write.
type written struct {
	i int
	b []byte
}

// plainly is a new one.
func plainly(sectors int) *plain {
	p := &plain{number: -1}
	for range sectors {
		p.medium = append(p.medium, of(0))
	}
	return p
}

// operation is whether an operation is done.
func (p *plain) operation() bool {
	if p.number == 0 {
		p.number, p.down = -1, true
		return false
	}
	if p.number > 0 {
		p.number--
	}
	return true
}

func (p *plain) write(i int, b []byte) api.Errno {
	switch {
	case p.down:
		return api.ErrDown
	case i < 0 || i >= len(p.medium):
		return api.ErrSector
	case len(b) != 64:
		return api.ErrArg
	case !p.operation():
		return api.ErrDown
	}
	p.writes = append(p.writes, written{i, bytes.Clone(b)})
	return api.OK
}

func (p *plain) read(i int) ([]byte, api.Errno) {
	switch {
	case p.down:
		return nil, api.ErrDown
	case i < 0 || i >= len(p.medium):
		return nil, api.ErrSector
	}
	b := p.medium[i]
	for _, w := range p.writes {
		if w.i == i {
			b = w.b
		}
	}
	return b, api.OK
}

func (p *plain) flush() api.Errno {
	if p.down || !p.operation() {
		return api.ErrDown
	}
	p.bring(func(int) bool { return true })
	return api.OK
}

// bring takes those writes to the medium whose sectors are picked, and forgets all.
func (p *plain) bring(picked func(i int) bool) {
	for _, w := range p.writes {
		if picked(w.i) {
			p.medium[w.i] = w.b
		}
	}
	p.writes = nil
}

func (p *plain) cached() []int {
	var out []int
	for i := range p.medium {
		if slices.ContainsFunc(p.writes, func(w written) bool { return w.i == i }) {
			out = append(out, i)
		}
	}
	return out
}

func (p *plain) crash(keeps []bool) {
	all := p.cached()
	p.bring(func(i int) bool {
		place := slices.Index(all, i)
		return place < len(keeps) && keeps[place]
	})
	p.number, p.down = -1, false
}

func (p *plain) spoil(i, at int, turn byte) api.Errno {
	switch {
	case i < 0 || i >= len(p.medium):
		return api.ErrSector
	case at < 0 || at >= 64:
		return api.ErrArg
	}
	p.medium[i] = bytes.Clone(p.medium[i])
	p.medium[i][at] ^= turn
	return api.OK
}

func (p *plain) arm(n int) {
	if !p.down {
		p.number = max(n, 0)
	}
}

// step is something that is done to a disk, and to a plain one; it tells whether both answer the same.
type step func(d *disk.Disk, p *plain) bool

func writes(i int, b []byte) step {
	return func(d *disk.Disk, p *plain) bool { return d.Write(i, b) == p.write(i, b) }
}

func flushes(d *disk.Disk, p *plain) bool { return d.Flush() == p.flush() }

func spoils(i, at int, turn byte) step {
	return func(d *disk.Disk, p *plain) bool { return d.Spoil(i, at, turn) == p.spoil(i, at, turn) }
}

func arms(n int) step {
	return func(d *disk.Disk, p *plain) bool { d.Arm(n); p.arm(n); return true }
}

func crashes(keeps ...bool) step {
	return func(d *disk.Disk, p *plain) bool { d.Crash(keeps); p.crash(keeps); return true }
}

// alike tells whether a disk answers all that can be asked as the plain one does.
func alike(d *disk.Disk, p *plain) bool {
	if d.Down() != p.down || d.Size() != len(p.medium) || !slices.Equal(d.Cached(), p.cached()) {
		return false
	}
	for i := -1; i <= len(p.medium); i++ {
		got, e := d.Read(i)
		want, other := p.read(i)
		if e != other || !bytes.Equal(got, want) {
			return false
		}
	}
	return true
}

// P5.1 to P5.3: all ways of a few steps with a disk of two sectors, held against the plain one.
func TestAllShortWays(t *testing.T) {
	steps := []step{writes(0, of(1)), writes(1, of(2)), writes(0, of(3)), flushes, spoils(0, 7, 255), arms(0), arms(1), crashes(), crashes(true, true), crashes(true), crashes(false, true)}
	const long = 5
	ways := 1
	for range long {
		ways *= len(steps)
	}
	for way := range ways {
		d, p := made(t, 2), plainly(2)
		for k, rest := 0, way; k < long; k, rest = k+1, rest/len(steps) {
			if !steps[rest%len(steps)](d, p) {
				t.Fatalf("way %d: another answer of step %d", way, k)
			}
		}
		if !alike(d, p) {
			t.Fatalf("way %d: another disk", way)
		}
	}
}

// chance is numbers by a rule from a seed.
type chance uint32

// below is the next one, from 0 on and below n.
func (c *chance) below(n int) int {
	*c = *c*1664525 + 1013904223
	return int(*c>>8) % n
}

// any is some step with a disk of so many sectors.
func (c *chance) any(sectors int) step {
	i := c.below(sectors+2) - 1
	switch kind := c.below(20); {
	case kind < 10:
		return writes(i, mixed(uint32(c.below(1<<20))))
	case kind < 11:
		return writes(i, make([]byte, c.below(130)))
	case kind < 13:
		return flushes
	case kind < 16:
		return spoils(i, c.below(70)-3, byte(c.below(256)))
	case kind < 18:
		return arms(c.below(12) - 2)
	}
	return crashes(bits(c.below(1<<16), c.below(16))...)
}

// P5.1 to P5.3: long ways with disks of some sectors, held against the plain one behind each step.
func TestLongWays(t *testing.T) {
	for seed := range 60 {
		c, sectors := chance(seed), 1+seed%13
		d, p := made(t, sectors), plainly(sectors)
		for k := range 1500 {
			if !c.any(sectors)(d, p) || !alike(d, p) {
				t.Fatalf("seed %d: another answer behind step %d", seed, k)
			}
		}
	}
}

// P5.4: the power fails at each operation of a way, and each choice is kept: a sector has what was flushed last, or what was written last, whole; and if it was not written since, the first of these.
func TestStandsBehindCrash(t *testing.T) {
	const sectors, operations = 3, 24
	for n := range operations + 1 {
		for choice := range 1 << sectors {
			d, c := made(t, sectors), chance(7)
			d.Arm(n)
			flushed, last := [sectors][]byte{of(0), of(0), of(0)}, [sectors][]byte{of(0), of(0), of(0)}
			done := 0
			for k := range uint32(operations) {
				i := c.below(sectors)
				if c.below(4) == 0 {
					if d.Flush() == api.OK {
						flushed, done = last, done+1
					}
				} else if d.Write(i, mixed(k)) == api.OK {
					last[i], done = mixed(k), done+1
				}
			}
			if done != n || d.Down() != (n < operations) {
				t.Fatalf("armed with %d: %d operations done, Down %v", n, done, d.Down())
			}
			places := d.Cached()
			d.Crash(bits(choice, sectors))
			for i := range sectors {
				want := flushed[i]
				if place := slices.Index(places, i); place >= 0 && choice>>place&1 == 1 {
					want = last[i]
				}
				reads(t, d, i, want)
			}
		}
	}
}

// P5.4: what was flushed, and not written since, is there behind many crashes, whatever is kept.
func TestFlushedStays(t *testing.T) {
	d := made(t, 5)
	for i := range 4 {
		write(t, d, i, mixed(uint32(i)))
	}
	flush(t, d)
	for n := range 64 {
		d.Arm(n % 4)
		for range n % 5 {
			d.Write(4, mixed(uint32(n)))
		}
		d.Crash(bits(n, 6))
		for i := range 4 {
			reads(t, d, i, mixed(uint32(i)))
		}
	}
}
