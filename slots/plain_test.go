package slots_test

import (
	"bytes"
	"cmp"
	"encoding/binary"
	"math"
	"slices"
	"testing"

	"cooperage/api"
	own "cooperage/bytes"
	"cooperage/disk"
	"cooperage/slots"
)

// crc is the table that sums are made by.
func crc() *api.Table {
	t := own.Table()
	return &t
}

// sum is the sum of bytes, by the words of chapter 1.
func sum(t *api.Table, b []byte) uint32 {
	s := uint32(math.MaxUint32)
	for _, c := range b {
		s = s>>8 ^ t[byte(s)^c]
	}
	return math.MaxUint32 - s
}

// sealed is bytes, filled up, and their sum behind them.
func sealed(t *api.Table, b []byte) []byte {
	filled := append(bytes.Clone(b), make([]byte, 60-len(b))...)
	return binary.BigEndian.AppendUint32(filled, sum(t, filled))
}

// numbered is numbers as they are sent, sealed.
func numbered(t *api.Table, numbers ...uint64) []byte {
	var b []byte
	for _, n := range numbers {
		b = binary.AppendUvarint(b, n)
	}
	return sealed(t, b)
}

// head is a slot's header.
func head(t *api.Table, x api.Slot) []byte {
	return numbered(t, uint64(x.State), uint64(x.Stripe), uint64(x.Index), uint64(x.Version), uint64(len(x.Bytes)), uint64(sum(t, x.Bytes)))
}

// of is so many bytes that come by a rule from a seed.
func of(seed, many int) []byte {
	s := uint32(seed)
	out := make([]byte, many)
	for i := range out {
		s = s*1664525 + 1013904223
		out[i] = byte(s >> 24)
	}
	return out
}

// prepared is a slot.
func prepared(stripe, index, version int, b []byte) api.Slot {
	return api.Slot{Stripe: stripe, Index: index, Version: version, State: api.Prepared, Bytes: b}
}

// committed is one, committed.
func committed(stripe, index, version int, b []byte) api.Slot {
	return api.Slot{Stripe: stripe, Index: index, Version: version, State: api.Committed, Bytes: b}
}

// same tells whether two slots are the same.
func same(x, y api.Slot) bool {
	return x.Stripe == y.Stripe && x.Index == y.Index && x.Version == y.Version && x.State == y.State && bytes.Equal(x.Bytes, y.Bytes)
}

// numbers tells whether a slot is of these.
func numbers(x api.Slot, stripe, index, version int) bool {
	return x.Stripe == stripe && x.Index == index && x.Version == version
}

// made is a disk that has to be.
func made(t *testing.T, sectors int) *disk.Disk {
	t.Helper()
	d, e := disk.New(sectors)
	if e != api.OK {
		t.Fatalf("New(%d): %d", sectors, e)
	}
	return d
}

// opened is slots that have to be.
func opened(t *testing.T, d *disk.Disk, table *api.Table, size int) *slots.Slots {
	t.Helper()
	s, e := slots.Open(d, table, size)
	if s == nil || e != api.OK {
		t.Fatalf("Open: %v, %d", s, e)
	}
	return s
}

// put writes a sector, which has to be done.
func put(t *testing.T, d *disk.Disk, i int, b []byte) {
	t.Helper()
	if e := d.Write(i, append(bytes.Clone(b), make([]byte, 64-len(b))...)); e != api.OK {
		t.Fatalf("Write(%d): %d", i, e)
	}
	if e := d.Flush(); e != api.OK {
		t.Fatalf("Flush: %d", e)
	}
}

// lay writes a slot from a sector on.
func lay(t *testing.T, d *disk.Disk, table *api.Table, first int, x api.Slot) {
	t.Helper()
	put(t, d, first, head(table, x))
	for piece := range slices.Chunk(x.Bytes, 64) {
		first++
		put(t, d, first, piece)
	}
}

// sector is one's bytes.
func sector(t *testing.T, d *disk.Disk, i int) []byte {
	t.Helper()
	b, e := d.Read(i)
	if e != api.OK {
		t.Fatalf("Read(%d): %d", i, e)
	}
	return b
}

// lists asks for all that counts.
func lists(t *testing.T, s *slots.Slots, want ...api.Slot) {
	t.Helper()
	if got := s.All(); !slices.EqualFunc(got, want, same) {
		t.Errorf("All: %v, want %v", got, want)
	}
}

// rooms asks how many places are free.
func rooms(t *testing.T, s *slots.Slots, want int) {
	t.Helper()
	if got := s.Room(); got != want {
		t.Errorf("Room: %d, want %d", got, want)
	}
}

// is asks whether an error is the one that is wanted.
func is(t *testing.T, what string, got, want api.Errno) {
	t.Helper()
	if got != want {
		t.Errorf("%s: %d, want %d", what, got, want)
	}
}

// plain is slots by the chapter's words, in another way: a list of places, on a disk of their own to which the same is done.
type plain struct {
	d      *disk.Disk
	table  *api.Table
	size   int
	places []api.Slot // of those that are free the State is Free
	bad    int
	over   bool
}

// wide is how many sectors a place has.
func (p *plain) wide() int { return 1 + (p.size+63)/64 }

// parsed is what a header tells.
func parsed(t *api.Table, b []byte) (x api.Slot, many int, s uint32, ok bool) {
	var n [6]uint64
	at := 0
	for i := range n {
		v, long := binary.Uvarint(b[at:])
		if long < 1 || len(binary.AppendUvarint(nil, v)) != long {
			return
		}
		n[i] = v
		at += long
	}
	if !bytes.Equal(numbered(t, n[:]...), b) || n[0] < 1 || n[0] > 2 || n[1] > 1<<40 || n[2] > 254 || n[3] < 1 || n[3] > 1<<40 || n[4] > 65536 || n[5] > math.MaxUint32 {
		return
	}
	return api.Slot{Stripe: int(n[1]), Index: int(n[2]), Version: int(n[3]), State: api.State(n[0])}, int(n[4]), uint32(n[5]), true
}

// kept is what is kept in a place, and whether its header is all noughts.
func (p *plain) kept(place int) (x api.Slot, is, blank bool) {
	b, _ := p.d.Read(place * p.wide())
	if bytes.Count(b, []byte{0}) == 64 {
		return x, false, true
	}
	y, many, s, ok := parsed(p.table, b)
	if !ok || many > p.size {
		return x, false, false
	}
	var all []byte
	for i := 1; i < p.wide(); i++ {
		piece, _ := p.d.Read(place*p.wide() + i)
		all = append(all, piece...)
	}
	y.Bytes = all[:many]
	if sum(p.table, y.Bytes) != s {
		return x, false, false
	}
	return y, true, false
}

// open looks at all places, and strikes out those that do not count.
func (p *plain) open() api.Errno {
	p.places, p.bad, p.over = nil, 0, false
	var kept []api.Slot
	var others []int
	for place := range p.d.Size() / p.wide() {
		x, ok, blank := p.kept(place)
		if !ok && !blank {
			p.bad++
			others = append(others, place)
		}
		kept = append(kept, x)
	}
	p.places = slices.Clone(kept)
	for place, x := range kept {
		for other, y := range kept {
			if x.State == api.Free || y.State == api.Free || place == other || x.Stripe != y.Stripe || x.Index != y.Index {
				continue
			}
			greater := y.State == api.Committed && (y.Version > x.Version || y.Version == x.Version && x.State == api.Prepared)
			ahead := y.State == x.State && y.Version == x.Version && other < place
			if greater || ahead {
				p.places[place] = api.Slot{}
				others = append(others, place)
				break
			}
		}
	}
	slices.Sort(others)
	return p.strike(others...)
}

// strike strikes out places, and flushes, if there are any.
func (p *plain) strike(places ...int) (e api.Errno) {
	if len(places) == 0 {
		return api.OK
	}
	defer func() { p.over = p.over || e != api.OK }()
	for _, place := range places {
		if e = p.d.Write(place*p.wide(), make([]byte, 64)); e != api.OK {
			return e
		}
	}
	return p.d.Flush()
}

// write writes a slot's header, and ahead of it its bytes, if they are wanted.
func (p *plain) write(place int, x api.Slot, whole bool) (e api.Errno) {
	defer func() { p.over = p.over || e != api.OK }()
	first := place * p.wide()
	for i := 0; whole && i*64 < len(x.Bytes); i++ {
		b := make([]byte, 64)
		copy(b, x.Bytes[i*64:])
		if e = p.d.Write(first+1+i, b); e != api.OK {
			return e
		}
	}
	if whole && len(x.Bytes) > 0 {
		if e = p.d.Flush(); e != api.OK {
			return e
		}
	}
	if e = p.d.Write(first, head(p.table, x)); e != api.OK {
		return e
	}
	return p.d.Flush()
}

// find is the place of what counts, or -1.
func (p *plain) find(stripe, index, version int) int {
	return slices.IndexFunc(p.places, func(x api.Slot) bool { return x.State != api.Free && numbers(x, stripe, index, version) })
}

// now is the place of the committed one, or -1.
func (p *plain) now(stripe, index int) int {
	return slices.IndexFunc(p.places, func(x api.Slot) bool {
		return x.State == api.Committed && x.Stripe == stripe && x.Index == index
	})
}

// above tells whether a committed one of a greater version counts.
func (p *plain) above(stripe, index, version int) bool {
	at := p.now(stripe, index)
	return at >= 0 && p.places[at].Version > version
}

func (p *plain) prepare(stripe, index, version int, b []byte) api.Errno {
	at := p.find(stripe, index, version)
	free := slices.IndexFunc(p.places, func(x api.Slot) bool { return x.State == api.Free })
	switch {
	case p.over:
		return api.ErrEnded
	case stripe < 0 || stripe > 1<<40 || index < 0 || index > 254 || version < 1 || version > 1<<40 || len(b) > p.size:
		return api.ErrArg
	case at >= 0 && bytes.Equal(p.places[at].Bytes, b):
		return api.OK
	case at >= 0:
		return api.ErrSlot
	case p.above(stripe, index, version):
		return api.ErrStale
	case free < 0:
		return api.ErrSpace
	}
	x := prepared(stripe, index, version, bytes.Clone(b))
	if e := p.write(free, x, true); e != api.OK {
		return e
	}
	p.places[free] = x
	return api.OK
}

// those is the places of what counts of a shard, of versions up to one, rising.
func (p *plain) those(stripe, index, version int) []int {
	var all []int
	for place, x := range p.places {
		if x.State != api.Free && x.Stripe == stripe && x.Index == index && x.Version <= version {
			all = append(all, place)
		}
	}
	slices.SortFunc(all, func(a, b int) int { return cmp.Compare(p.places[a].Version, p.places[b].Version) })
	return all
}

func (p *plain) commit(stripe, index, version int) api.Errno {
	at := p.find(stripe, index, version)
	switch {
	case p.over:
		return api.ErrEnded
	case at >= 0 && p.places[at].State == api.Committed:
		return api.OK
	case p.above(stripe, index, version):
		return api.ErrStale
	case at < 0:
		return api.ErrSlot
	}
	x := p.places[at]
	x.State = api.Committed
	if e := p.write(at, x, false); e != api.OK {
		return e
	}
	p.places[at] = x
	lesser := p.those(stripe, index, version-1)
	for _, place := range lesser {
		p.places[place] = api.Slot{}
	}
	return p.strike(lesser...)
}

func (p *plain) abort(stripe, index, version int) api.Errno {
	at := p.find(stripe, index, version)
	switch {
	case p.over:
		return api.ErrEnded
	case at >= 0 && p.places[at].State == api.Committed || p.above(stripe, index, version):
		return api.ErrStale
	case at < 0:
		return api.OK
	}
	if e := p.strike(at); e != api.OK {
		return e
	}
	p.places[at] = api.Slot{}
	return api.OK
}

func (p *plain) drop(stripe, index, version int) api.Errno {
	if p.over {
		return api.ErrEnded
	}
	all := p.those(stripe, index, version)
	slices.Reverse(all)
	for _, place := range all {
		if e := p.strike(place); e != api.OK {
			return e
		}
		p.places[place] = api.Slot{}
	}
	return api.OK
}

func (p *plain) all() []api.Slot {
	var all []api.Slot
	for _, x := range p.places {
		if x.State != api.Free {
			all = append(all, x)
		}
	}
	slices.SortFunc(all, func(a, b api.Slot) int {
		return cmp.Or(cmp.Compare(a.Stripe, b.Stripe), cmp.Compare(a.Index, b.Index), cmp.Compare(a.Version, b.Version))
	})
	return all
}

func (p *plain) get(at int) (api.Slot, bool) {
	if at < 0 {
		return api.Slot{}, false
	}
	return p.places[at], true
}

func (p *plain) sound(stripe, index, version int) bool {
	at := p.find(stripe, index, version)
	if at < 0 || p.d.Down() {
		return false
	}
	x, ok, _ := p.kept(at)
	return ok && same(x, p.places[at])
}
