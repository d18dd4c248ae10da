package wire_test

import (
	"math"
	"slices"
	"testing"

	"cooperage/api"
	own "cooperage/bytes"
	"cooperage/wire"
)

// roomy is a list with spare room behind it, which has marks in it.
func roomy[T any](l []T, mark T) []T {
	out := append(make([]T, 0, len(l)+5), l...)
	for i := len(out); i < cap(out); i++ {
		out[:cap(out)][i] = mark
	}
	return out
}

// untouched tells whether a list, and its spare room, are as roomy made them.
func untouched[T comparable](l, was []T, mark T) bool {
	spare := l[len(l):cap(l)]
	return slices.Equal(l, was) && !slices.ContainsFunc(spare, func(x T) bool { return x != mark })
}

// spoil changes a list to the end of its spare room.
func spoil[T any](l []T, mark T) {
	for i := range l[:cap(l)] {
		l[:cap(l)][i] = mark
	}
}

// R3: what is handed in is never changed, nor is its spare room; nor the table.
func TestHandedIn(t *testing.T) {
	c := chance(3)
	mark := info(-5, -5, -5, 99)
	for range 300 {
		a, x := c.ask(), c.tell()
		in, told := a, x
		in.Bytes, told.Bytes, told.Infos = roomy(a.Bytes, 77), roomy(x.Bytes, 77), roomy(x.Infos, mark)
		b, e := wire.PutAsk(&table, in)
		is(t, "PutAsk", e, api.OK)
		d, e := wire.PutTell(&table, told)
		is(t, "PutTell", e, api.OK)
		wire.RightAsk(in)
		wire.RightTell(told)
		if !untouched(in.Bytes, a.Bytes, 77) || !untouched(told.Bytes, x.Bytes, 77) || !untouched(told.Infos, x.Infos, mark) {
			t.Fatal("what was put has changed")
		}
		for _, m := range [][]byte{b, d, b[:len(b)-1], d[1:]} {
			came := roomy(m, 66)
			wire.GetAsk(&table, came)
			wire.GetTell(&table, came)
			if !untouched(came, m, 66) {
				t.Fatal("what came has changed")
			}
		}
		other := ask(1, 1, 7, 0, 0, 0)
		other.Bytes = in.Bytes
		wire.PutAsk(&table, other)
		if !untouched(in.Bytes, a.Bytes, 77) {
			t.Fatal("what was refused has changed")
		}
	}
	if table != own.Table() {
		t.Fatal("the table has changed")
	}
}

// R3, P10.2: what is handed out is in memory of its own: it may be changed to the end of its spare room, and nothing else changes.
func TestHandedOut(t *testing.T) {
	c := chance(4)
	mark := info(-5, -5, -5, 99)
	for range 300 {
		a, x := c.ask(), c.tell()
		was, had := a, x
		was.Bytes, had.Bytes, had.Infos = slices.Clone(a.Bytes), slices.Clone(x.Bytes), slices.Clone(x.Infos)
		b, _ := wire.PutAsk(&table, a)
		d, _ := wire.PutTell(&table, x)
		other, _ := wire.PutAsk(&table, a)
		spoil(other, 99)
		other, _ = wire.PutTell(&table, x)
		spoil(other, 99)
		if !sameAsk(a, was) || !sameTell(x, had) || !slices.Equal(b, sealed(laidAsk(was))) || !slices.Equal(d, sealed(laidTell(had))) {
			t.Fatal("bytes that were put share memory")
		}
		g, e := wire.GetAsk(&table, b)
		is(t, "GetAsk", e, api.OK)
		h, e := wire.GetTell(&table, d)
		is(t, "GetTell", e, api.OK)
		g2, _ := wire.GetAsk(&table, b)
		h2, _ := wire.GetTell(&table, d)
		spoil(g2.Bytes, 99)
		spoil(h2.Bytes, 99)
		if !slices.Equal(h2.Infos, had.Infos) {
			t.Fatal("infos share memory with bytes")
		}
		spoil(h2.Infos, mark)
		if !slices.Equal(b, sealed(laidAsk(was))) || !slices.Equal(d, sealed(laidTell(had))) {
			t.Fatal("what was got shares memory with what came")
		}
		spoil(b, 99)
		spoil(d, 99)
		if !sameAsk(g, was) || !sameTell(h, had) {
			t.Fatal("what was got has changed")
		}
	}
}

// R4: the same call answers the same, whatever was called ahead of it.
func TestSameAgain(t *testing.T) {
	a, x := ask(1, 2, api.AskPrepare, 3, 4, 5, 6, 7), api.Tell{Life: 1, Seq: 2, Op: api.AskList, Room: 3, Infos: infos(4), Bytes: []byte{5}}
	b, d := sealed(laidAsk(a)), sealed(laidTell(x))
	c := chance(5)
	for i := range 200 {
		asks(t, a)
		tells(t, x)
		wire.GetAsk(&table, b[:i%len(b)])
		wire.GetTell(&table, d[:i%len(d)])
		wire.PutAsk(nil, c.ask())
		wire.PutTell(nil, c.tell())
		wire.GetTell(&table, sealed(c.bytes(i)))
	}
}

// R6: an empty list is as none.
func TestEmptyAsNone(t *testing.T) {
	for op := api.AskPrepare; op <= api.AskDrop; op++ {
		for _, s := range [][]byte{nil, {}, make([]byte, 0, 9)} {
			a := ask(1, 2, op, 3, 4, 5)
			a.Bytes = s
			asks(t, a)
			for _, l := range [][]api.Info{nil, {}, make([]api.Info, 0, 9)} {
				for _, e := range []api.Errno{0, 1, 1000} {
					x := api.Tell{Life: 1, Seq: 2, Op: op, Err: e, Infos: l, Bytes: s}
					if !wire.RightAsk(a) || !wire.RightTell(x) {
						t.Fatalf("%+v: %v, %+v: %v", a, wire.RightAsk(a), x, wire.RightTell(x))
					}
					tells(t, x)
				}
			}
		}
	}
}

// R1: at any numbers each call ends, and none panics.
func TestAnyNumbers(t *testing.T) {
	for _, x := range odd {
		for _, y := range odd {
			for op := range 9 {
				asks(t, ask(x, y, api.NodeOp(op), x, y, x, 1))
				asks(t, ask(1, 1, api.NodeOp(op), x, y, x))
				tells(t, api.Tell{Life: x, Seq: y, Op: api.NodeOp(op), Err: api.Errno(y), Room: x, Infos: []api.Info{info(x, y, x, 200)}, Bytes: make([]byte, 3)})
				tells(t, api.Tell{Life: 1, Seq: 1, Op: api.NodeOp(op), Infos: []api.Info{info(0, 0, 1, 1), info(x, y, x, 1)}})
			}
		}
	}
	asks(t, api.Ask{})
	tells(t, api.Tell{})
	asks(t, ask(math.MinInt, math.MinInt, 255, math.MinInt, math.MinInt, math.MinInt))
	wire.GetAsk(nil, nil)
	wire.GetTell(nil, nil)
	tells(t, api.Tell{Life: 1, Seq: 1, Op: 1, Infos: make([]api.Info, 1<<16), Bytes: make([]byte, 1<<20)})
}

// The chapter's examples.
func TestExample(t *testing.T) {
	a := ask(1, 2, api.AskCommit, 3, 0, 4)
	b, e := wire.PutAsk(&table, a)
	is(t, "PutAsk", e, api.OK)
	if !slices.Equal(b, own.Seal(&table, []byte{1, 1, 2, 2, 3, 0, 4, 0})) {
		t.Errorf("PutAsk: %v", b)
	}
	x := api.Tell{Life: 1, Seq: 2, Op: api.AskCommit, Room: 5}
	c, e := wire.PutTell(&table, x)
	is(t, "PutTell", e, api.OK)
	if !slices.Equal(c, own.Seal(&table, []byte{2, 1, 2, 2, 0, 5, 0, 0})) {
		t.Errorf("PutTell: %v", c)
	}
	if y, e := wire.GetTell(&table, b); e != api.ErrWire || !sameTell(y, api.Tell{}) {
		t.Errorf("GetTell of an ask: %v, %d", y, e)
	}
	refuses(t, b[:len(b)-1], api.ErrSum)
	refuses(t, c[:len(c)-1], api.ErrSum)
}
