package node_test

import (
	"bytes"
	"math"
	"slices"
	"testing"

	"cooperage/api"
	own "cooperage/bytes"
	"cooperage/node"
)

// The chapter's example; each ask by its bytes, too, which changes nothing more.
func TestExample(t *testing.T) {
	n, p, _ := bothNew(t, 2, 100)
	for _, c := range []struct {
		a    api.Ask
		want api.Tell
	}{
		{ask(1, api.AskPrepare, 7, 0, 1, []byte("ab")...), api.Tell{Room: 1}},
		{ask(1, api.AskCommit, 7, 0, 1), api.Tell{Room: 1}},
		{ask(1, api.AskRead, 7, 0, 1), api.Tell{Room: 1, Infos: []api.Info{{Stripe: 7, Version: 1, State: api.Committed}}, Bytes: []byte("ab")}},
		{ask(1, api.AskRead, 7, 0, 0), api.Tell{Room: 1, Infos: []api.Info{{Stripe: 7, Version: 1, State: api.Committed}}}},
		{ask(1, api.AskRead, 7, 0, 2), api.Tell{Room: 1, Err: api.ErrSlot}},
		{ask(2, api.AskDrop, 7, 0, 1), api.Tell{Room: 2}},
		{ask(1, api.AskRead, 7, 0, 0), api.Tell{Room: 2, Err: api.ErrOld}},
	} {
		c.want.Life, c.want.Seq, c.want.Op = c.a.Life, 1, c.a.Op
		if x := does(t, n, p, c.a); !sameTell(x, c.want) {
			t.Errorf("Do(%s): %s, want %s", words(c.a), words(x), words(c.want))
		}
		if x := told(t, n, sent(t, c.a)); !sameTell(x, c.want) {
			t.Errorf("Handle of %s: %s, want %s", words(c.a), words(x), words(c.want))
		}
	}
}

// R1: any numbers, and bytes, are answered, of a right node.
func TestAnything(t *testing.T) {
	n, p, d := bothNew(t, 2, 10)
	d.Arm(0)
	odd := []int{0, -1, -255, 255, 256, far + 1, math.MinInt, math.MaxInt, 1 << 41, 1 << 62}
	for i, v := range odd {
		for _, w := range odd[i:] {
			for op := range 256 {
				a := ask(v, api.NodeOp(op), w, v, w, of(op, op%3)...)
				a.Seq = w
				x, e := n.Do(a)
				nothing(t, "Do of "+words(a), x, e, api.ErrWire)
			}
		}
	}
	c := chance(8)
	for range 5000 {
		still(t, n, p, d, of(c.below(1<<30), c.below(40)))
	}
	still(t, n, p, d, make([]byte, 1<<20))
}

// R3: bytes of an ask, and of a message, are neither changed nor kept, nor their spare room; nor is the table changed.
func TestHandedIn(t *testing.T) {
	n, p, _ := bothNew(t, 3, 100)
	was := table
	memory := append(of(1, 70), 201, 202, 203)
	a := ask(1, api.AskPrepare, 7, 0, 1)
	a.Bytes = memory[:70]
	does(t, n, p, a)
	if !bytes.Equal(memory, append(of(1, 70), 201, 202, 203)) {
		t.Error("an ask's bytes have changed")
	}
	clear(memory)
	shows(t, n, p)
	does(t, n, p, ask(1, api.AskRead, 7, 0, 1))
	message := sent(t, ask(1, api.AskPrepare, 7, 0, 2, of(2, 90)...))
	spare := append(bytes.Clone(message), 201, 202, 203)
	x := told(t, n, spare[:len(message)])
	if !sameTell(x, p.do(ask(1, api.AskPrepare, 7, 0, 2, of(2, 90)...))) || !bytes.Equal(spare, append(bytes.Clone(message), 201, 202, 203)) {
		t.Errorf("a message has changed, or: %s", words(x))
	}
	clear(spare)
	shows(t, n, p)
	does(t, n, p, ask(1, api.AskRead, 7, 0, 2))
	if table != was {
		t.Error("the table has changed")
	}
}

// R3: what is told is in memory of its own, each time, with its spare room.
func TestHandedOut(t *testing.T) {
	n, p, _ := bothNew(t, 3, 100)
	does(t, n, p, ask(1, api.AskPrepare, 7, 0, 1, of(1, 70)...))
	does(t, n, p, ask(1, api.AskCommit, 7, 0, 1))
	does(t, n, p, ask(1, api.AskPrepare, 7, 0, 2, of(2, 9)...))
	for _, a := range []api.Ask{ask(1, api.AskRead, 7, 0, 1), ask(1, api.AskRead, 7, 0, 0), ask(1, api.AskList, 0, 0, 0)} {
		first, kept := does(t, n, p, a), does(t, n, p, a)
		clear(first.Bytes[:cap(first.Bytes)])
		clear(first.Infos[:cap(first.Infos)])
		if want := p.do(a); !sameTell(kept, want) {
			t.Errorf("two tells share memory: %s", words(kept))
		}
		does(t, n, p, a)
		one, _ := n.Handle(sent(t, a))
		other, _ := n.Handle(sent(t, a))
		was := bytes.Clone(one)
		clear(other[:cap(other)])
		if !bytes.Equal(one, was) {
			t.Errorf("two answers share memory: %v", one)
		}
		does(t, n, p, a)
	}
	all := n.All()
	for _, s := range all {
		clear(s.Bytes[:cap(s.Bytes)])
	}
	clear(all[:cap(all)])
	shows(t, n, p)
	kept := does(t, n, p, ask(1, api.AskRead, 7, 0, 1))
	does(t, n, p, ask(1, api.AskDrop, 7, 0, 9))
	does(t, n, p, ask(1, api.AskPrepare, 7, 0, 1, of(5, 100)...))
	if !bytes.Equal(kept.Bytes, of(1, 70)) || len(kept.Infos) != 1 || kept.Infos[0].State != api.Committed {
		t.Errorf("a tell has changed: %s", words(kept))
	}
}

// The disk and the table are shared: a node goes by what they have become.
func TestShared(t *testing.T) {
	d, sums := made(t, 6), own.Table()
	n, e := node.Open(d, &sums, 100)
	is(t, "Open", e, api.OK)
	x, e := n.Do(ask(1, api.AskPrepare, 7, 0, 1, 1))
	if e != api.OK || x.Err != api.OK {
		t.Fatalf("Do: %s, %d", words(x), e)
	}
	right := sent(t, ask(1, api.AskRead, 7, 0, 1))
	sums = api.Table{}
	if _, e := n.Handle(right); e != api.ErrSum {
		t.Errorf("Handle by another table: %d", e)
	}
	sums = table
	is(t, "Spoil", d.Spoil(1, 0, 4), api.OK)
	if x := told(t, n, right); x.Err != api.ErrSum {
		t.Errorf("of a byte that was spoilt: %s", words(x))
	}
}

// R4: nodes of two disks have nothing in common, and answer the same to the same.
func TestTwoNodes(t *testing.T) {
	c := chance(9)
	one, p, _ := bothNew(t, 4, 100)
	other, q, _ := bothNew(t, 4, 100)
	for range 1000 {
		a := c.ask(one.Life(), 100)
		x := does(t, one, p, a)
		shows(t, other, q)
		if y := does(t, other, q, a); !sameTell(x, y) {
			t.Fatalf("Do(%s): %s, of the other %s", words(a), words(x), words(y))
		}
	}
}

// R5: no node, and such as Open did not make: ErrNil, ahead of all else, or zeros; a copy by value was not made by Open either, and does not meet what it was copied from.
func TestNoNode(t *testing.T) {
	one, p, d := bothNew(t, 2, 100)
	does(t, one, p, ask(1, api.AskPrepare, 7, 0, 1, 1))
	twin := *one
	d.Arm(0)
	for name, n := range map[string]*node.Node{"nil": nil, "not made": {}, "a copy": &twin} {
		for op := range 8 {
			for _, a := range []api.Ask{ask(2, api.NodeOp(op), 7, 0, 1), ask(0, api.NodeOp(op), -1, 0, 1)} {
				x, e := n.Do(a)
				nothing(t, name+": Do", x, e, api.ErrNil)
			}
		}
		for _, b := range [][]byte{nil, {1}, sent(t, ask(2, api.AskDrop, 7, 0, 1)), sealed("x")} {
			if out, e := n.Handle(b); e != api.ErrNil || len(out) != 0 {
				t.Errorf("%s: Handle: %v, %d", name, out, e)
			}
		}
		if n.Life() != 0 || len(n.All()) != 0 || n.Room() != 0 || n.Over() {
			t.Errorf("%s: Life %d, All %v, Room %d, Over %v", name, n.Life(), n.All(), n.Room(), n.Over())
		}
	}
	if d.Down() {
		t.Error("something was done to the disk")
	}
	shows(t, one, p)
}

// R6: an empty list and none are the same, handed in.
func TestEmpty(t *testing.T) {
	n, p, d := bothNew(t, 2, 100)
	does(t, n, p, ask(1, api.AskPrepare, 7, 0, 1))
	d.Arm(0)
	for _, op := range []api.NodeOp{api.AskPrepare, api.AskRead, api.AskList} {
		a := ask(1, op, 7, 0, 1)
		x := does(t, n, p, a)
		a.Bytes = []byte{}
		if y := does(t, n, p, a); !sameTell(x, y) {
			t.Errorf("%s, and %s", words(x), words(y))
		}
	}
	if d.Down() {
		t.Error("something was done to the disk")
	}
}

// Limits: a node of as many slots as a disk may have is listed to its end.
func TestManySlots(t *testing.T) {
	n, _, _ := bothNew(t, 6000, 0)
	for k := range 6000 {
		if x, e := n.Do(ask(1, api.AskPrepare, k/5, k%5, 1)); e != api.OK || x.Err != api.OK || x.Room != 5999-k {
			t.Fatalf("Do: %s, %d", words(x), e)
		}
	}
	a, many := ask(1, api.AskList, 0, 0, 0), 0
	for {
		x, e := n.Do(a)
		if e != api.OK || x.Room != 0 {
			t.Fatalf("Do: %s, %d", words(x), e)
		}
		if len(x.Infos) == 0 {
			break
		}
		for _, i := range x.Infos {
			if i.Stripe != many/5 || i.Index != many%5 {
				t.Fatalf("the info %d is %+v", many, i)
			}
			a.Stripe, a.Index, a.Version = i.Stripe, i.Index, i.Version
			many++
		}
	}
	if many != 6000 || !slices.IsSortedFunc(n.All(), func(x, y api.Slot) int { return bytes.Compare([]byte(nameOf(x)), []byte(nameOf(y))) }) {
		t.Errorf("%d slots were listed", many)
	}
}
