package node_test

import (
	"bytes"
	"fmt"
	"slices"
	"testing"

	"cooperage/api"
	"cooperage/disk"
	"cooperage/node"
	"cooperage/wire"
)

// P11.4: an ask that is done twice, with nothing between, is told the same, and nothing is done to the disk the second time.
func TestTwice(t *testing.T) {
	c := chance(4)
	for range 200 {
		n, p, d := bothNew(t, 1+c.below(5), 60*c.below(4))
		for range 60 {
			a := c.ask(n.Life(), p.size)
			first := does(t, n, p, a)
			was := medium(t, d)
			d.Arm(0)
			second, e := n.Do(a)
			if e != api.OK || !sameTell(first, second) || d.Down() {
				t.Fatalf("Do(%s): %s, then %s, %d", words(a), words(first), words(second), e)
			}
			b := told(t, n, sent(t, a))
			if !sameTell(first, b) || d.Down() || medium(t, d) != was {
				t.Fatalf("Handle of %s: %s, then %s", words(a), words(first), words(b))
			}
			d.Crash(nil)
			shows(t, n, p)
		}
	}
}

// crashes is each way in which a disk's cache can be kept behind a crash.
func crashes(d *disk.Disk) [][]bool {
	many := len(d.Cached())
	var all [][]bool
	for choice := range 1 << many {
		var keeps []bool
		for i := range many {
			keeps = append(keeps, choice>>i&1 == 1)
		}
		all = append(all, keeps)
	}
	return all
}

// goingOn is what may count behind a crash while an ask was going on: what counted ahead of it, or behind it; of a drop behind some of its steps.
func goingOn(p *plain, a api.Ask) [][]api.Slot {
	behind := &plain{places: p.places, size: p.size, all: slices.Clone(p.all)}
	behind.do(a)
	may := [][]api.Slot{p.sorted(), behind.sorted()}
	if a.Op != api.AskDrop {
		return may
	}
	left := p.sorted()
	for i := len(left) - 1; i >= 0; i-- {
		if x := left[i]; x.Stripe == a.Stripe && x.Index == a.Index && x.Version <= a.Version {
			left = slices.Delete(slices.Clone(left), i, i+1)
			may = append(may, left)
		}
	}
	return may
}

// hurt does an ask whose power fails behind so many operations, in each way of what is kept; it tells whether it failed.
func hurt(t *testing.T, was string, p *plain, a api.Ask, operations int) bool {
	t.Helper()
	failed := false
	again := func() *disk.Disk {
		d := diskOf(t, was)
		n := opened(t, d, p.size)
		d.Arm(operations)
		x, e := n.Do(a)
		if failed = e != api.OK; failed {
			nothing(t, "Do of "+words(a), x, e, api.ErrDown)
		}
		return d
	}
	may := goingOn(p, a)
	for _, keeps := range crashes(again()) {
		d := again()
		d.Crash(keeps)
		got := opened(t, d, p.size).All()
		if !failed {
			may = may[1:2]
		}
		if !slices.ContainsFunc(may, func(all []api.Slot) bool { return slices.EqualFunc(all, got, same) }) {
			t.Fatalf("behind %d operations of %s: %s counts", operations, words(a), words(got))
		}
		if !failed {
			return false
		}
	}
	return failed
}

// P11.4: what was told of with OK stands behind any crash; what was going on then is done, or not.
func TestCrash(t *testing.T) {
	c := chance(5)
	hurts := 0
	for range 40 {
		n, p, d := bothNew(t, 2+c.below(4), 100)
		for range 15 {
			a := c.ask(1, p.size)
			a.Life = 1
			was := medium(t, d)
			for operations := 0; hurt(t, was, p, a, operations); operations++ {
				hurts++
			}
			does(t, n, p, a)
			d.Crash(nil)
			shows(t, opened(t, diskOf(t, medium(t, d)), p.size), &plain{places: p.places, size: p.size, all: p.all})
		}
	}
	if hurts < 500 {
		t.Errorf("the power failed %d times alone", hurts)
	}
}

// P11.4: no ask of an elder life does anything, whichever it is; a node that was opened anew knows no life, and does it.
func TestElder(t *testing.T) {
	c := chance(6)
	done := 0
	for range 300 {
		n, p, d := bothNew(t, 4, 100)
		for range 10 {
			does(t, n, p, c.ask(5, p.size))
		}
		was, a := medium(t, d), c.ask(3, p.size)
		a.Life = 1 + c.below(n.Life()-1)
		d.Arm(0)
		x := does(t, n, p, a)
		if x.Err != api.ErrOld || d.Down() || medium(t, d) != was {
			t.Fatalf("Do(%s): %s", words(a), words(x))
		}
		d.Crash(nil)
		anew := &plain{places: p.places, size: p.size, all: p.all}
		if does(t, opened(t, d, p.size), anew, a); medium(t, d) != was {
			done++
		}
	}
	if done < 30 {
		t.Errorf("%d of them alone would have done something", done)
	}
}

// still asks whether bytes that are no right ask do nothing, and are answered by nothing.
func still(t *testing.T, n *node.Node, p *plain, d *disk.Disk, b []byte) {
	t.Helper()
	d.Arm(0)
	out, e := n.Handle(b)
	if e != api.ErrShort && e != api.ErrSum && e != api.ErrWire || len(out) != 0 || d.Down() {
		t.Fatalf("Handle(%s): %v, %d, Down %v", words(b), out, e, d.Down())
	}
	shows(t, n, p)
}

// P11.4: no message but a right ask does anything: all that are one turned bit away from one, its ends, two in one, all of two bytes that are sealed, tells.
func TestMessages(t *testing.T) {
	n, p, d := bothNew(t, 3, 10)
	does(t, n, p, ask(1, api.AskPrepare, 7, 0, 1, 1))
	for _, a := range []api.Ask{ask(2, api.AskPrepare, 7, 0, 2, of(1, 10)...), ask(2, api.AskCommit, 7, 0, 1), ask(2, api.AskAbort, 7, 0, 1), ask(2, api.AskDrop, 7, 0, 1)} {
		b := sent(t, a)
		for i := range 8 * len(b) {
			spoilt := bytes.Clone(b)
			spoilt[i/8] ^= 1 << (i % 8)
			still(t, n, p, d, spoilt)
		}
		for i := range b {
			still(t, n, p, d, b[:i])
			if i > 0 {
				still(t, n, p, d, b[i:])
			}
		}
		still(t, n, p, d, append(bytes.Clone(b), b...))
		still(t, n, p, d, append(bytes.Clone(b), 0))
	}
	for i := range 1 << 16 {
		still(t, n, p, d, sealed(string([]byte{byte(i >> 8), byte(i)})))
	}
	x, e := wire.PutTell(&table, api.Tell{Life: 2, Seq: 1, Op: api.AskDrop})
	is(t, "PutTell", e, api.OK)
	still(t, n, p, d, x)
}

// P11.4: of sealed bytes that are by chance near an ask, each is one right ask, and does that alone, or nothing.
func TestMessagesOfChance(t *testing.T) {
	c := chance(7)
	seen := map[string]int{}
	for range 200 {
		n, p, d := bothNew(t, 4, 10)
		for range 100 {
			b := sent(t, c.ask(n.Life(), p.size))
			b = b[:len(b)-4]
			if c.below(3) > 0 {
				b[c.below(len(b))] = byte(c.below(12))
			}
			b = sealed(string(b))
			a, e := wire.GetAsk(&table, b)
			seen[fmt.Sprint(e)]++
			if e != api.OK {
				still(t, n, p, d, b)
				d.Crash(nil)
				continue
			}
			if x := told(t, n, b); !sameTell(x, p.do(a)) {
				t.Fatalf("Handle of %s: %s", words(a), words(x))
			}
			shows(t, n, p)
		}
	}
	if seen["0"] < 1000 || seen["110"] < 1000 {
		t.Errorf("so many of each error: %v", seen)
	}
}
