package place_test

import (
	"math"
	"slices"
	"testing"

	"cooperage/api"
	"cooperage/place"
)

// roomy is placements with spare room behind each list, which has a mark in it.
func roomy(l []api.Place) []api.Place {
	out := make([]api.Place, 0, len(l)+3)
	for _, p := range l {
		nodes := append(make([]int, 0, len(p.Nodes)+3), p.Nodes...)
		for i := len(nodes); i < cap(nodes); i++ {
			nodes[:cap(nodes)][i] = -55
		}
		out = append(out, at(p.Epoch, nodes...))
	}
	for i := len(out); i < cap(out); i++ {
		out[:cap(out)][i] = at(-66, -67)
	}
	return out
}

// untouched holds placements with spare room against what they were.
func untouched(t *testing.T, l, was []api.Place) {
	t.Helper()
	has(t, "what was handed in", l, was...)
	for _, p := range l {
		for _, x := range p.Nodes[len(p.Nodes):cap(p.Nodes)] {
			if x != -55 {
				t.Fatal("the spare room of some nodes has changed")
			}
		}
	}
	for _, p := range l[len(l):cap(l)] {
		if p.Epoch != -66 || !slices.Equal(p.Nodes, []int{-67}) {
			t.Fatal("the spare room of placements has changed")
		}
	}
}

// spoil changes placements to the end of their spare room.
func spoil(l []api.Place) {
	for i := range l[:cap(l)] {
		p := &l[:cap(l)][i]
		spoilNodes(p.Nodes)
		p.Epoch = -77
	}
}

// spoilNodes changes nodes to the end of their spare room.
func spoilNodes(l []int) {
	for i := range l[:cap(l)] {
		l[:cap(l)][i] = -78
	}
}

// R3: what is handed in is never changed, nor is its spare room.
func TestHandedIn(t *testing.T) {
	c := chance(6)
	for range 40 {
		was := c.places(1+c.below(9), 5, 7)
		l := roomy(was)
		for from := -1; from <= 7; from++ {
			for to := -1; to <= 7; to++ {
				place.Move(l, from, to)
			}
			place.Of(l, from)
			place.Index(l[0], from)
			place.Right(l[0], from)
		}
		b := put(t, l)
		untouched(t, l, was)
		long := append(append(make([]byte, 0, len(b)+9), b...), 5, 6, 7)
		if m, e := place.Read(long[:len(b)]); e != api.OK || !same(m, was) {
			t.Fatalf("Read: %d", e)
		}
		if !slices.Equal(long, append(slices.Clone(b), 5, 6, 7)) {
			t.Fatal("Read has changed the bytes")
		}
	}
}

// R3: what is handed out shares no memory with what was handed in, nor with another answer: it may be changed to the end of its spare room.
func TestHandedOut(t *testing.T) {
	c := chance(7)
	for range 40 {
		was := c.places(1+c.below(9), 5, 9)
		l := deep(was)
		for i := range l {
			l[i].Epoch = 4
			was[i].Epoch = 4
		}
		for to := range 12 {
			for from := range 9 {
				m, groups, e := place.Move(l, from, to)
				if e == api.OK {
					spoil(m)
					spoilNodes(groups)
				}
				has(t, "placements behind a Move", l, was...)
			}
		}
		for stripe := range 2 * len(l) {
			p, _ := place.Of(l, stripe)
			spoilNodes(p.Nodes)
			has(t, "placements behind Of", l, was...)
		}
		b := put(t, l)
		kept, other := slices.Clone(b), put(t, l)
		for i := range other[:cap(other)] {
			other[:cap(other)][i] = 99
		}
		m, e := place.Read(b)
		is(t, "Read", e, api.OK)
		n, e := place.Read(b)
		is(t, "Read", e, api.OK)
		spoil(m)
		if !slices.Equal(b, kept) {
			t.Fatal("bytes have changed")
		}
		for i := range b {
			b[i] = 99
		}
		has(t, "what was read", n, was...)
	}
}

// R3: no two placements of one answer share memory.
func TestNoneShared(t *testing.T) {
	l := []api.Place{at(1, 1, 2, 3), at(1, 4, 5), at(1, 2, 9, 8)}
	b := put(t, l)
	for i := range l {
		m, _, e := place.Move(l, 2, 7)
		is(t, "Move", e, api.OK)
		n, e := place.Read(b)
		is(t, "Read", e, api.OK)
		for _, x := range []struct{ l, want []api.Place }{
			{m, []api.Place{at(2, 1, 7, 3), at(1, 4, 5), at(2, 7, 9, 8)}}, {n, deep(l)}, {first(t, 5, 3, 3), turned(5, 3, 3)},
		} {
			spoilNodes(x.l[i].Nodes)
			for j, p := range x.l {
				if j != i && !slices.Equal(p.Nodes, x.want[j].Nodes) {
					t.Fatalf("%d and %d share memory", i, j)
				}
			}
		}
	}
}

// R3: of placements that share memory with one another each is changed alone.
func TestSharedIn(t *testing.T) {
	nodes := []int{1, 2, 3, 4}
	l := []api.Place{at(1, nodes[:2]...), at(5, nodes[1:]...), at(9, nodes...), at(1, nodes[:2]...)}
	m, groups, e := place.Move(l, 2, 8)
	is(t, "Move", e, api.OK)
	has(t, "Move", m, at(2, 1, 8), at(6, 8, 3, 4), at(10, 1, 8, 3, 4), at(2, 1, 8))
	if !slices.Equal(groups, []int{0, 1, 2, 3}) || !slices.Equal(nodes, []int{1, 2, 3, 4}) {
		t.Errorf("the groups %v, the nodes %v", groups, nodes)
	}
}

// R4: the same call answers the same, whatever was called ahead of it.
func TestSameAgain(t *testing.T) {
	l := first(t, 4, 3, 4)
	b := put(t, l)
	for i := range 50 {
		moves(t, l, i%6, i%7)
		place.Read(b[:i%len(b)])
		place.First(i, i, i)
		has(t, "First", first(t, 4, 3, 4), l...)
		if !slices.Equal(put(t, l), b) {
			t.Fatal("Bytes")
		}
		m, e := place.Read(b)
		is(t, "Read", e, api.OK)
		has(t, "Read", m, l...)
	}
}

// R6: an empty list is as none.
func TestEmptyAsNone(t *testing.T) {
	for _, l := range [][]api.Place{nil, {}, make([]api.Place, 0, 5)} {
		refuses(t, l, 1, 2, api.ErrArg)
		if b, e := place.Bytes(l); e != api.ErrPlace || len(b) != 0 {
			t.Errorf("Bytes of none: %v, %d", b, e)
		}
		ofs(t, l, 0, api.Place{}, false)
	}
	for _, nodes := range [][]int{nil, {}, make([]int, 0, 5)} {
		p := api.Place{Epoch: 1, Nodes: nodes}
		if place.Right(p, 1) || place.Index(p, 0) != -1 {
			t.Errorf("%v", p)
		}
		ofs(t, []api.Place{p}, 5, at(1), true)
	}
}

// R1: at any numbers each call ends, and none panics.
func TestAnyNumbers(t *testing.T) {
	l := [][]api.Place{nil, {{}}, {at(math.MinInt, math.MinInt, math.MaxInt)}, {at(math.MaxInt, 0)}, {at(1, 0, 255)}}
	for _, x := range odd {
		for _, y := range odd {
			for _, m := range l {
				place.Move(m, x, y)
				place.Of(m, x)
				place.Bytes(m)
				for _, p := range m {
					place.Right(p, x)
					place.Index(p, x)
				}
			}
			place.First(x, y, x)
			place.First(x, x, y)
			place.First(y, x, x)
		}
	}
}

// The chapter's example.
func TestExample(t *testing.T) {
	l := first(t, 4, 3, 4)
	has(t, "First", l, at(1, 0, 1, 2), at(1, 1, 2, 3), at(1, 2, 3, 0), at(1, 3, 0, 1))
	ofs(t, l, 6, at(1, 2, 3, 0), true)
	p, _ := place.Of(l, 6)
	if i := place.Index(p, 3); i != 1 {
		t.Errorf("Index: %d", i)
	}
	m, groups, e := place.Move(l, 0, 5)
	is(t, "Move", e, api.OK)
	has(t, "Move", m, at(2, 5, 1, 2), at(1, 1, 2, 3), at(2, 2, 3, 5), at(2, 3, 5, 1))
	if !slices.Equal(groups, []int{0, 2, 3}) {
		t.Errorf("Move: the groups %v", groups)
	}
	refuses(t, l, 1, 2, api.ErrPlace)
}
