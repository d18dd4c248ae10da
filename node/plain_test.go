package node_test

import (
	"bytes"
	"encoding/binary"
	"fmt"
	"slices"
	"strings"
	"testing"

	"cooperage/api"
	own "cooperage/bytes"
	"cooperage/disk"
	"cooperage/node"
	"cooperage/wire"
)

// table is the table that sums are made by.
var table = own.Table()

// far is the greatest Life, Seq, Stripe and Version.
const far = 1 << 40

// is holds an error against the one that has to be.
func is(t *testing.T, what string, e, want api.Errno) {
	t.Helper()
	if e != want {
		t.Fatalf("%s: %d, want %d", what, e, want)
	}
}

// words is anything in words, not all of a long thing.
func words(x any) string {
	return fmt.Sprintf("%.400s", fmt.Sprintf("%+v", x))
}

// made is a disk that has to be.
func made(t *testing.T, sectors int) *disk.Disk {
	t.Helper()
	d, e := disk.New(sectors)
	is(t, "disk.New", e, api.OK)
	return d
}

// opened is a node that has to be.
func opened(t *testing.T, d *disk.Disk, size int) *node.Node {
	t.Helper()
	n, e := node.Open(d, &table, size)
	if n == nil || e != api.OK {
		t.Fatalf("Open: %v, %d", n, e)
	}
	return n
}

// medium is all bytes of a disk.
func medium(t *testing.T, d *disk.Disk) string {
	t.Helper()
	var b strings.Builder
	for i := range d.Size() {
		s, e := d.Read(i)
		is(t, "Read", e, api.OK)
		b.Write(s)
	}
	return b.String()
}

// diskOf is one of these bytes.
func diskOf(t *testing.T, medium string) *disk.Disk {
	t.Helper()
	d := made(t, len(medium)/64)
	for i := range d.Size() {
		is(t, "Write", d.Write(i, []byte(medium[64*i:64*i+64])), api.OK)
	}
	is(t, "Flush", d.Flush(), api.OK)
	return d
}

// fail lets a disk's power fail.
func fail(d *disk.Disk) {
	d.Arm(0)
	d.Flush()
}

// of is so many bytes that come by a rule from a seed.
func of(seed, many int) []byte {
	s := uint32(seed)
	var out []byte
	for range many {
		s = s*1664525 + 1013904223
		out = append(out, byte(s>>24))
	}
	return out
}

// ask is an ask, of the number 1.
func ask(life int, op api.NodeOp, stripe, index, version int, b ...byte) api.Ask {
	return api.Ask{Life: life, Seq: 1, Op: op, Stripe: stripe, Index: index, Version: version, Bytes: b}
}

// prepared is a slot.
func prepared(stripe, index, version int, b ...byte) api.Slot {
	return api.Slot{Stripe: stripe, Index: index, Version: version, State: api.Prepared, Bytes: b}
}

// committed is one, committed.
func committed(stripe, index, version int, b ...byte) api.Slot {
	return api.Slot{Stripe: stripe, Index: index, Version: version, State: api.Committed, Bytes: b}
}

// same tells whether two slots are the same.
func same(x, y api.Slot) bool {
	return x.Stripe == y.Stripe && x.Index == y.Index && x.Version == y.Version && x.State == y.State && bytes.Equal(x.Bytes, y.Bytes)
}

// sameTell tells whether two tells are the same.
func sameTell(x, y api.Tell) bool {
	return x.Life == y.Life && x.Seq == y.Seq && x.Op == y.Op && x.Err == y.Err && x.Room == y.Room && slices.Equal(x.Infos, y.Infos) && bytes.Equal(x.Bytes, y.Bytes)
}

// plain is a node by the chapter's words, in another way: what counts is one list, in no order, and what is told is picked out of it.
type plain struct {
	life, places, size int
	all                []api.Slot
	lost               func(api.Slot) bool // which of them their places keep no more
}

// name is a slot's numbers as a text that is in order as they are.
func name(stripe, index, version int) string {
	var b []byte
	for _, n := range []int{stripe, index, version} {
		b = binary.BigEndian.AppendUint64(b, uint64(n))
	}
	return string(b)
}

// nameOf is that of a slot.
func nameOf(x api.Slot) string {
	return name(x.Stripe, x.Index, x.Version)
}

// sorted is what counts, in order.
func (p *plain) sorted() []api.Slot {
	out := slices.Clone(p.all)
	slices.SortFunc(out, func(x, y api.Slot) int { return strings.Compare(nameOf(x), nameOf(y)) })
	return out
}

// take takes all out that are meant.
func (p *plain) take(meant func(api.Slot) bool) {
	var left []api.Slot
	for _, x := range p.all {
		if !meant(x) {
			left = append(left, x)
		}
	}
	p.all = left
}

// look is the slot that an ask names, or nothing; and the version that is committed of its stripe and index, 0 for none.
func (p *plain) look(a api.Ask) (x *api.Slot, top int) {
	for i := range p.all {
		y := &p.all[i]
		if y.Stripe != a.Stripe || y.Index != a.Index {
			continue
		}
		if y.Version == a.Version {
			x = y
		}
		if y.State == api.Committed {
			top = y.Version
		}
	}
	return x, top
}

// change does an ask that changes something, and answers its Err.
func (p *plain) change(a api.Ask) api.Errno {
	x, top := p.look(a)
	below := func(version int) func(api.Slot) bool {
		return func(y api.Slot) bool { return y.Stripe == a.Stripe && y.Index == a.Index && y.Version <= version }
	}
	switch {
	case a.Op == api.AskDrop:
		p.take(below(a.Version))
	case a.Op == api.AskPrepare && len(a.Bytes) > p.size:
		return api.ErrArg
	case a.Op == api.AskPrepare && x != nil && !bytes.Equal(x.Bytes, a.Bytes):
		return api.ErrSlot
	case a.Op == api.AskPrepare && x != nil:
	case a.Op == api.AskCommit && top == a.Version:
	case top > a.Version || a.Op == api.AskAbort && top == a.Version:
		return api.ErrStale
	case a.Op == api.AskPrepare && len(p.all) == p.places:
		return api.ErrSpace
	case a.Op == api.AskPrepare:
		p.all = append(p.all, prepared(a.Stripe, a.Index, a.Version, bytes.Clone(a.Bytes)...))
	case a.Op == api.AskCommit && x == nil:
		return api.ErrSlot
	case a.Op == api.AskCommit:
		x.State = api.Committed
		p.take(below(a.Version - 1))
	case a.Op == api.AskAbort:
		p.take(func(y api.Slot) bool { return nameOf(y) == name(a.Stripe, a.Index, a.Version) })
	}
	return api.OK
}

// infos is the first fifty of those that are meant.
func (p *plain) infos(meant func(api.Slot) bool) []api.Info {
	var out []api.Info
	for _, x := range p.sorted() {
		if meant(x) && len(out) < 50 {
			out = append(out, api.Info{Stripe: x.Stripe, Index: x.Index, Version: x.Version, State: x.State})
		}
	}
	return out
}

// do does a right ask.
func (p *plain) do(a api.Ask) api.Tell {
	x := api.Tell{Life: a.Life, Seq: a.Seq, Op: a.Op}
	switch {
	case a.Life < p.life:
		x.Err = api.ErrOld
		x.Room = p.places - len(p.all)
		return x
	case a.Op == api.AskList:
		x.Infos = p.infos(func(y api.Slot) bool { return nameOf(y) > name(a.Stripe, a.Index, a.Version) })
	case a.Op == api.AskRead && a.Version == 0:
		x.Infos = p.infos(func(y api.Slot) bool { return y.Stripe == a.Stripe && y.Index == a.Index })
	case a.Op == api.AskRead:
		s, _ := p.look(a)
		if s == nil {
			x.Err = api.ErrSlot
		} else if p.lost != nil && p.lost(*s) {
			x.Err = api.ErrSum
		} else {
			x.Bytes = s.Bytes
			x.Infos = p.infos(func(y api.Slot) bool { return nameOf(y) == nameOf(*s) })
		}
	default:
		x.Err = p.change(a)
	}
	p.life = a.Life
	x.Room = p.places - len(p.all)
	return x
}

// shows holds what a node shows against the plain one's.
func shows(t *testing.T, n *node.Node, p *plain) {
	t.Helper()
	if !slices.EqualFunc(n.All(), p.sorted(), same) || n.Room() != p.places-len(p.all) || n.Life() != p.life || n.Over() {
		t.Fatalf("All %s, Room %d, Life %d, Over %v, want %s, %d, %d", words(n.All()), n.Room(), n.Life(), n.Over(), words(p.sorted()), p.places-len(p.all), p.life)
	}
}

// does holds what Do answers of a right ask against the plain one's; either does it.
func does(t *testing.T, n *node.Node, p *plain, a api.Ask) api.Tell {
	t.Helper()
	x, e := n.Do(a)
	if want := p.do(a); e != api.OK || !sameTell(x, want) {
		t.Fatalf("Do(%s): %s, %d, want %s", words(a), words(x), e, words(want))
	}
	shows(t, n, p)
	return x
}

// bothNew is a node on a new disk, and the plain one.
func bothNew(t *testing.T, places, size int) (*node.Node, *plain, *disk.Disk) {
	t.Helper()
	d := made(t, places*(1+(size+63)/64))
	return opened(t, d, size), &plain{places: places, size: size}, d
}

// nothing asks whether a call was refused so, and told nothing.
func nothing(t *testing.T, what string, x api.Tell, e, want api.Errno) {
	t.Helper()
	if e != want || !sameTell(x, api.Tell{}) {
		t.Fatalf("%s: %s, %d, want %d and nothing", what, words(x), e, want)
	}
}

// sent is the bytes of a right ask.
func sent(t *testing.T, a api.Ask) []byte {
	t.Helper()
	b, e := wire.PutAsk(&table, a)
	is(t, "PutAsk of "+words(a), e, api.OK)
	return b
}

// told is the tell whose bytes Handle answers.
func told(t *testing.T, n *node.Node, b []byte) api.Tell {
	t.Helper()
	out, e := n.Handle(b)
	is(t, "Handle", e, api.OK)
	x, e := wire.GetTell(&table, out)
	is(t, "GetTell of what Handle answers", e, api.OK)
	return x
}

// chance is numbers that look like chance, and are the same ones each time.
type chance uint64

// below is one from 0 on and below most.
func (c *chance) below(most int) int {
	*c = *c*6364136223846793005 + 1442695040888963407
	return int(uint64(*c)>>33) % most
}

// ask is a right ask of few slots, such that many meet; of a life near the one of a node.
func (c *chance) ask(life, size int) api.Ask {
	a := ask(max(1, life+c.below(12)/11-c.below(12)/11), api.NodeOp(1+c.below(6)), 7+c.below(2), c.below(2), 1+c.below(5))
	a.Seq = 1 + c.below(300)
	switch a.Op {
	case api.AskPrepare:
		a.Bytes = of(a.Version+c.below(6)/5, min(size+c.below(20)/19, 37*a.Version))
	case api.AskDrop:
		a.Version = max(1, a.Version-c.below(4))
	case api.AskRead, api.AskList:
		a.Version *= c.below(2)
	}
	return a
}
