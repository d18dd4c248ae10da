package node_test

import (
	"fmt"
	"math"
	"slices"
	"testing"

	"cooperage/api"
	"cooperage/node"
	"cooperage/wire"
)

// P11.2: of any right asks, one behind the other, is told what the chapter's words tell.
func TestDo(t *testing.T) {
	c := chance(2)
	seen := map[string]int{}
	for range 300 {
		n, p, _ := bothNew(t, 1+c.below(6), 60*c.below(4))
		for range 100 {
			a := c.ask(n.Life(), p.size)
			x := does(t, n, p, a)
			seen[fmt.Sprint(a.Op, a.Version == 0, x.Err)]++
		}
	}
	for _, errs := range []string{
		"1 false 0", "1 false 2", "1 false 60", "1 false 61", "1 false 62", "1 false 120",
		"2 false 0", "2 false 60", "2 false 61", "2 false 120",
		"3 false 0", "3 false 61", "3 false 120",
		"4 false 0", "4 false 60", "4 false 120", "4 true 0", "4 true 120",
		"5 false 0", "5 false 120", "5 true 0", "5 true 120",
		"6 false 0", "6 false 120",
	} {
		if seen[errs] < 20 {
			t.Errorf("Op, whether no version, and Err %s: %d times", errs, seen[errs])
		}
	}
}

// P11.2: the least and the greatest numbers that are right.
func TestDoEdges(t *testing.T) {
	n, p, _ := bothNew(t, 63, api.MaxShard)
	for _, stripe := range []int{0, 1, far - 1, far} {
		for _, index := range []int{0, 254} {
			for _, version := range []int{1, far} {
				for op := api.AskPrepare; op <= api.AskList; op++ {
					a := ask(1, op, stripe, index, version)
					a.Seq = far
					if op == api.AskPrepare && index == 254 {
						a.Bytes = of(version, api.MaxShard)
					}
					does(t, n, p, a)
				}
				does(t, n, p, ask(1, api.AskRead, stripe, index, 0))
				does(t, n, p, ask(1, api.AskList, stripe, index, version-1))
			}
		}
	}
	does(t, n, p, ask(1, api.AskList, 0, 0, 0))
	does(t, n, p, ask(far, api.AskDrop, 0, 254, far))
}

// P11.2: what is no right ask is refused ahead of all that it could do: also of an elder life; the life stays.
func TestDoWrong(t *testing.T) {
	n, p, d := bothNew(t, 3, 10)
	does(t, n, p, ask(5, api.AskPrepare, 7, 0, 1, 1))
	does(t, n, p, ask(5, api.AskCommit, 7, 0, 1))
	does(t, n, p, ask(5, api.AskPrepare, 7, 0, 2, 2))
	d.Arm(0)
	refused := 0
	for op := range 256 {
		for _, v := range []int{-1, 0, 1, 2, 254, 255, 256, far, far + 1, math.MinInt, math.MaxInt, 1 << 41, 1<<56 + 1} {
			right := ask(6, api.NodeOp(op), 7, 0, 2)
			all := []api.Ask{right, right, right, right, right, right}
			all[0].Life, all[1].Seq, all[2].Stripe, all[3].Index, all[4].Version, all[5].Bytes = v, v, v, v, v, []byte{1}
			for _, a := range all {
				if wire.RightAsk(a) {
					continue
				}
				x, e := n.Do(a)
				nothing(t, "Do of "+words(a), x, e, api.ErrWire)
				refused++
			}
		}
	}
	long := ask(6, api.AskPrepare, 7, 0, 3, of(1, api.MaxShard+1)...)
	x, e := n.Do(long)
	nothing(t, "Do of long bytes", x, e, api.ErrWire)
	if d.Down() || refused < 10000 {
		t.Errorf("something was done to the disk; %d asks were refused", refused)
	}
	shows(t, n, p)
}

// P11.2: bytes that a shard may have, but none of this node's, are told as what slots tells of them.
func TestDoLongerThanSize(t *testing.T) {
	for _, size := range []int{0, 1, 63, 64, 65, 100} {
		n, p, _ := bothNew(t, 2, size)
		if x := does(t, n, p, ask(1, api.AskPrepare, 7, 0, 1, of(1, size+1)...)); x.Err != api.ErrArg {
			t.Errorf("size %d: %s", size, words(x))
		}
		if x := does(t, n, p, ask(1, api.AskPrepare, 7, 0, 1, of(1, size)...)); x.Err != api.OK {
			t.Errorf("size %d: %s", size, words(x))
		}
		does(t, n, p, ask(1, api.AskRead, 7, 0, 1))
	}
}

// P11.2: what is spoilt, in the header or in the bytes, is told as ErrSum, when it is read by its version; it counts still, and other ones are read; turned back, it is read again.
func TestReadSpoilt(t *testing.T) {
	for _, commit := range []bool{false, true} {
		n, p, d := bothNew(t, 3, 100)
		does(t, n, p, ask(1, api.AskPrepare, 7, 0, 1, of(1, 70)...))
		if commit {
			does(t, n, p, ask(1, api.AskCommit, 7, 0, 1))
		}
		does(t, n, p, ask(1, api.AskPrepare, 7, 0, 2, of(2, 100)...))
		for at := range 3 * 64 {
			if at >= 64+70 {
				// Behind the bytes nothing is of account.
				p.lost = nil
			} else {
				p.lost = func(s api.Slot) bool { return s.Version == 1 }
			}
			is(t, "Spoil", d.Spoil(at/64, at%64, 1<<(at%8)), api.OK)
			for _, a := range []api.Ask{ask(1, api.AskRead, 7, 0, 1), ask(1, api.AskRead, 7, 0, 2), ask(1, api.AskRead, 7, 0, 0), ask(1, api.AskList, 0, 0, 0), ask(1, api.AskRead, 7, 0, 3)} {
				does(t, n, p, a)
			}
			is(t, "Spoil", d.Spoil(at/64, at%64, 1<<(at%8)), api.OK)
			p.lost = nil
			does(t, n, p, ask(1, api.AskRead, 7, 0, 1))
		}
	}
}

// P11.2: of more than fifty versions the first fifty are told, by rising versions; of just fifty all.
func TestManyVersions(t *testing.T) {
	n, p, _ := bothNew(t, 70, 1)
	for k := range 66 {
		does(t, n, p, ask(1, api.AskPrepare, 7, 3, 1+k*37%67, byte(k)))
		x := does(t, n, p, ask(1, api.AskRead, 7, 3, 0))
		if len(x.Infos) != min(k+1, 50) || len(x.Bytes) != 0 {
			t.Fatalf("of %d: %d infos, %d bytes", k+1, len(x.Infos), len(x.Bytes))
		}
		does(t, n, p, ask(1, api.AskRead, 7, 2, 0))
		does(t, n, p, ask(1, api.AskRead, 6, 3, 0))
	}
	does(t, n, p, ask(1, api.AskCommit, 7, 3, 30))
	does(t, n, p, ask(1, api.AskRead, 7, 3, 0))
}

// P11.2: a list, piece by piece, tells all that counts, once, in order; behind any numbers, also such as there are none of.
func TestList(t *testing.T) {
	n, p, _ := bothNew(t, 160, 1)
	for k := range 160 {
		at := k * 89 % 160
		does(t, n, p, ask(1, api.AskPrepare, 5+at%4, at/4%5, 2+at/20, byte(k)))
	}
	does(t, n, p, ask(1, api.AskCommit, 6, 2, 5))
	does(t, n, p, ask(1, api.AskCommit, 8, 4, 9))
	for stripe := 4; stripe <= 9; stripe++ {
		for index := range 6 {
			for _, version := range []int{0, 1, 2, 4, 5, 6, 9, 10, far} {
				does(t, n, p, ask(1, api.AskList, stripe, index, version))
			}
		}
	}
	var all []api.Info
	a := ask(1, api.AskList, 0, 0, 0)
	for piece := does(t, n, p, a).Infos; len(piece) > 0; piece = does(t, n, p, a).Infos {
		all = append(all, piece...)
		last := piece[len(piece)-1]
		a.Stripe, a.Index, a.Version = last.Stripe, last.Index, last.Version
	}
	var want []api.Info
	for _, s := range n.All() {
		want = append(want, api.Info{Stripe: s.Stripe, Index: s.Index, Version: s.Version, State: s.State})
	}
	if !slices.Equal(all, want) || len(all) < 140 {
		t.Errorf("%d of %d were listed", len(all), len(want))
	}
}

// P11.2: of an ask of an elder life ErrOld is told, and the room; whatever its Op, nothing is done.
func TestOld(t *testing.T) {
	n, p, d := bothNew(t, 4, 10)
	does(t, n, p, ask(3, api.AskPrepare, 7, 0, 1, 1))
	does(t, n, p, ask(3, api.AskCommit, 7, 0, 1))
	does(t, n, p, ask(3, api.AskPrepare, 7, 0, 2, 2))
	d.Arm(0)
	for op := api.AskPrepare; op <= api.AskDrop; op++ {
		for _, life := range []int{1, 2} {
			for version := 1; version <= 3; version++ {
				a := ask(life, op, 7, 0, version)
				a.Seq = 40 + version
				if op == api.AskPrepare {
					a.Bytes = []byte{3}
				}
				want := api.Tell{Life: life, Seq: 40 + version, Op: op, Err: api.ErrOld, Room: 2}
				if x := does(t, n, p, a); !sameTell(x, want) {
					t.Errorf("Do(%s): %s", words(a), words(x))
				}
			}
		}
	}
	if d.Down() {
		t.Error("something was done to the disk")
	}
}

// P11.2: while the disk is down, ErrDown, ahead of a wrong ask; what is shown stays; behind the crash it goes on, as no call of its slots was hurt.
func TestDown(t *testing.T) {
	n, p, d := bothNew(t, 3, 10)
	does(t, n, p, ask(2, api.AskPrepare, 7, 0, 1, 1))
	fail(d)
	for op := range 8 {
		for _, a := range []api.Ask{ask(3, api.NodeOp(op), 7, 0, 1), ask(1, api.NodeOp(op), 7, 0, 1), ask(0, api.NodeOp(op), -1, 0, 1)} {
			x, e := n.Do(a)
			nothing(t, "Do of "+words(a), x, e, api.ErrDown)
		}
	}
	shows(t, n, p)
	d.Crash(nil)
	does(t, n, p, ask(2, api.AskCommit, 7, 0, 1))
	does(t, n, p, ask(3, api.AskRead, 7, 0, 1))
}

// ended asks whether nothing can be asked of a node any more, whatever becomes of its disk.
func ended(t *testing.T, n *node.Node, crash func()) {
	t.Helper()
	all, room, life := n.All(), n.Room(), n.Life()
	for range 2 {
		for op := range 8 {
			for _, a := range []api.Ask{ask(9, api.NodeOp(op), 7, 0, 1), ask(1, api.NodeOp(op), 7, 0, 1), ask(0, api.NodeOp(op), -1, 0, 1)} {
				x, e := n.Do(a)
				nothing(t, "Do of "+words(a), x, e, api.ErrEnded)
			}
		}
		if !n.Over() || !slices.EqualFunc(n.All(), all, same) || n.Room() != room || n.Life() != life {
			t.Fatalf("Over %v, All %s, Room %d, Life %d", n.Over(), words(n.All()), n.Room(), n.Life())
		}
		crash()
	}
}

// P11.2: if the power fails at any operation of an ask, the disk's error, and nothing is told; the life is the ask's; ErrEnded ahead of all else from then on.
func TestEnded(t *testing.T) {
	for _, a := range []api.Ask{ask(4, api.AskPrepare, 7, 0, 4, of(1, 100)...), ask(4, api.AskCommit, 7, 0, 3), ask(4, api.AskAbort, 7, 0, 3), ask(4, api.AskDrop, 7, 0, 3)} {
		operations, done := 0, false
		for ; !done; operations++ {
			n, p, d := bothNew(t, 5, 100)
			for version := 1; version <= 3; version++ {
				does(t, n, p, ask(2, api.AskPrepare, 7, 0, version, byte(version)))
			}
			does(t, n, p, ask(2, api.AskCommit, 7, 0, 1))
			d.Arm(operations)
			x, e := n.Do(a)
			if done = e == api.OK; done {
				if want := p.do(a); !sameTell(x, want) {
					t.Fatalf("Do(%s): %s", words(a), words(x))
				}
				shows(t, n, p)
				continue
			}
			nothing(t, "Do of "+words(a), x, e, api.ErrDown)
			if n.Life() != 4 {
				t.Fatalf("Life: %d", n.Life())
			}
			ended(t, n, func() { d.Crash(nil) })
		}
		if operations < 3 {
			t.Errorf("%s: %d operations", words(a), operations)
		}
	}
}

// P11.2: asks that do nothing to the disk are told, whatever it is armed with.
func TestArmed(t *testing.T) {
	n, p, d := bothNew(t, 3, 10)
	does(t, n, p, ask(2, api.AskPrepare, 7, 0, 1, 1))
	does(t, n, p, ask(2, api.AskCommit, 7, 0, 1))
	d.Arm(0)
	for _, a := range []api.Ask{ask(2, api.AskPrepare, 7, 0, 1, 1), ask(2, api.AskCommit, 7, 0, 1), ask(2, api.AskCommit, 7, 0, 2), ask(2, api.AskAbort, 7, 0, 1), ask(2, api.AskAbort, 7, 0, 2), ask(2, api.AskDrop, 7, 1, 1), ask(2, api.AskRead, 7, 0, 1), ask(2, api.AskRead, 7, 0, 0), ask(3, api.AskList, 0, 0, 0)} {
		does(t, n, p, a)
	}
	if d.Down() {
		t.Error("something was done to the disk")
	}
}
