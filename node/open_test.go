package node_test

import (
	"math"
	"slices"
	"testing"

	"cooperage/api"
	"cooperage/disk"
	"cooperage/node"
	"cooperage/slots"
)

// refusedOpen asks whether Open answers an error, and no node.
func refusedOpen(t *testing.T, what string, d *disk.Disk, table *api.Table, size int, want api.Errno) {
	t.Helper()
	if n, e := node.Open(d, table, size); n != nil || e != want {
		t.Errorf("Open of %s, size %d: %v, %d, want %d", what, size, n, e, want)
	}
}

// P11.1: Open's errors are those of slots, in their order; beside them there is no node, and the disk stays as it is.
func TestOpenWrong(t *testing.T) {
	up, down := made(t, 6), made(t, 6)
	fail(down)
	up.Arm(0)
	for _, size := range []int{100, 0, -1, api.MaxShard, api.MaxShard + 1, math.MinInt, math.MaxInt} {
		refusedOpen(t, "no disk", nil, &table, size, api.ErrNil)
		refusedOpen(t, "no disk, and no table", nil, nil, size, api.ErrNil)
		refusedOpen(t, "a disk that was not made", &disk.Disk{}, &table, size, api.ErrNil)
		refusedOpen(t, "no table", up, nil, size, api.ErrNil)
		refusedOpen(t, "no table, and a disk that is down", down, nil, size, api.ErrNil)
	}
	for _, size := range []int{-1, math.MinInt, 321, api.MaxShard, api.MaxShard + 1, math.MaxInt} {
		refusedOpen(t, "six sectors", up, &table, size, api.ErrArg)
		refusedOpen(t, "six sectors that are down", down, &table, size, api.ErrArg)
	}
	for _, size := range []int{0, 100, 320} {
		refusedOpen(t, "six sectors that are down", down, &table, size, api.ErrDown)
	}
	if up.Down() {
		t.Error("something was done to the disk")
	}
}

// P11.1: the disk's error, if the power fails while it is opened; behind the crash it is opened as if nothing had been.
func TestOpenFails(t *testing.T) {
	_, _, d := bothNew(t, 2, 100)
	is(t, "Write", d.Write(0, slices.Repeat([]byte{9}, 64)), api.OK)
	is(t, "Flush", d.Flush(), api.OK)
	was := medium(t, d)
	for operations := range 2 {
		d := diskOf(t, was)
		d.Arm(operations)
		refusedOpen(t, "a disk whose power fails", d, &table, 100, api.ErrDown)
		d.Crash(nil)
		shows(t, opened(t, d, 100), &plain{places: 2, size: 100})
	}
	done := diskOf(t, was)
	done.Arm(2)
	shows(t, opened(t, done, 100), &plain{places: 2, size: 100})
}

// P11.1: a new node has the life 0, and shows what slots of the disk show, at its begin and behind each ask; a node that is opened anew likewise, with the life 0 again.
func TestOpen(t *testing.T) {
	c := chance(1)
	for range 30 {
		n, p, d := bothNew(t, 1+c.below(5), 70*c.below(3))
		shows(t, n, p)
		for range 40 {
			does(t, n, p, c.ask(n.Life(), p.size))
			again := diskOf(t, medium(t, d))
			s, e := slots.Open(again, &table, p.size)
			is(t, "slots.Open", e, api.OK)
			if !slices.EqualFunc(s.All(), n.All(), same) || s.Room() != n.Room() {
				t.Fatalf("All %s, Room %d, those of slots %s, %d", words(n.All()), n.Room(), words(s.All()), s.Room())
			}
			shows(t, opened(t, again, p.size), &plain{places: p.places, size: p.size, all: p.all})
		}
	}
}

// P11.1: Life is the greatest of an ask that was done, whatever its tell; those that are refused, and those of elder lives, are of no account.
func TestLife(t *testing.T) {
	n, p, _ := bothNew(t, 1, 10)
	for _, a := range []api.Ask{
		ask(3, api.AskRead, 7, 0, 1),
		ask(2, api.AskList, 0, 0, 0),
		ask(4, api.AskCommit, 7, 0, 1),
		ask(5, api.AskPrepare, 7, 0, 1, of(1, 11)...),
		ask(6, api.AskPrepare, 7, 0, 1, 1),
		ask(7, api.AskPrepare, 7, 0, 2, 1),
		ask(8, api.AskPrepare, 7, 0, 1, 2),
		ask(9, api.AskAbort, 8, 0, 1),
		ask(10, api.AskDrop, 8, 0, 1),
		ask(9, api.AskDrop, 7, 0, 1),
		ask(1, api.AskCommit, 7, 0, 1),
		ask(11, api.AskCommit, 7, 0, 1),
		ask(12, api.AskAbort, 7, 0, 1),
		ask(13, api.AskRead, 7, 0, 0),
		ask(far, api.AskList, 7, 0, 0),
		ask(far-1, api.AskList, 7, 0, 0),
	} {
		does(t, n, p, a)
	}
	for _, life := range []int{0, -1, far + 1, math.MaxInt, math.MinInt} {
		x, e := n.Do(ask(life, api.AskList, 0, 0, 0))
		nothing(t, "Do of no life", x, e, api.ErrWire)
	}
	shows(t, n, p)
}
