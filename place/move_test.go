package place_test

import (
	"fmt"
	"math"
	"slices"
	"testing"

	"cooperage/api"
	"cooperage/place"
)

// refuses holds a Move against an error that has to be.
func refuses(t *testing.T, l []api.Place, from, to int, want api.Errno) {
	t.Helper()
	m, groups, e := place.Move(l, from, to)
	if e != want || len(m) != 0 || len(groups) != 0 {
		t.Errorf("Move(%d, %d) of %s: %s, %v, %d, want %d", from, to, tell(l), tell(m), groups, e, want)
	}
}

// P9.2: each one that has the node has the other one in its stead, and an Epoch one more; the groups of these, rising.
func TestMove(t *testing.T) {
	l := []api.Place{at(5, 1, 2), at(far-1, 3, 1), at(far, 0, 2), at(1, 1), at(7, 4, 5, 6)}
	m, groups, e := place.Move(l, 1, 9)
	is(t, "Move", e, api.OK)
	has(t, "Move", m, at(6, 9, 2), at(far, 3, 9), at(far, 0, 2), at(2, 9), at(7, 4, 5, 6))
	if !slices.Equal(groups, []int{0, 1, 3}) {
		t.Errorf("Move: the groups %v", groups)
	}
	m, groups, e = place.Move(l, 6, 1) // where 1 is already, 6 is not
	is(t, "Move", e, api.OK)
	has(t, "Move", m, at(5, 1, 2), at(far-1, 3, 1), at(far, 0, 2), at(1, 1), at(8, 4, 5, 1))
	if !slices.Equal(groups, []int{4}) {
		t.Errorf("Move: the groups %v", groups)
	}
}

// P9.2: a node that none has: all stays, and there are no groups, be the other one there or not.
func TestMoveNone(t *testing.T) {
	l := []api.Place{at(far, 1, 2), at(1, 255)}
	for _, to := range []int{0, 1, 2, 4, 255} {
		m, groups, e := place.Move(l, 3, to)
		is(t, "Move", e, api.OK)
		has(t, "Move", m, l...)
		if len(groups) != 0 {
			t.Errorf("Move: the groups %v", groups)
		}
	}
}

// P9.2: both are from 0 and below 256, and are not the same.
func TestMoveNodes(t *testing.T) {
	l := []api.Place{at(1, 0, 255), at(1, 7)}
	for _, x := range [][2]int{{0, 254}, {255, 254}, {255, 1}, {7, 0}, {7, 255}, {9, 255}, {254, 0}} {
		moves(t, l, x[0], x[1])
		if _, _, e := place.Move(l, x[0], x[1]); e != api.OK {
			t.Errorf("Move(%d, %d): %d", x[0], x[1], e)
		}
	}
	for _, node := range odd {
		refuses(t, l, node, 3, api.ErrPlace)
		refuses(t, l, 3, node, api.ErrPlace)
		refuses(t, l, 7, node, api.ErrPlace)
		refuses(t, l, node, node, api.ErrPlace)
	}
	for node := range 256 {
		refuses(t, l, node, node, api.ErrPlace)
	}
}

// P9.2: one that has both hinders, wherever it is, and whatever the others have; so does one whose Epoch is the greatest.
func TestMoveHindered(t *testing.T) {
	for _, groups := range []int{1, 2, 3, 10, 1000} {
		for _, which := range []int{0, groups / 2, groups - 1} {
			l := make([]api.Place, groups)
			for i := range l {
				l[i] = at(3, 20, 21, 1)
			}
			for _, nodes := range [][]int{{1, 2}, {2, 1}, {5, 2, 6, 1}, {1, 5, 2}} {
				l[which] = at(3, nodes...)
				refuses(t, l, 1, 2, api.ErrPlace)
				refuses(t, l, 2, 1, api.ErrPlace)
				moves(t, l, 1, 3)
				moves(t, l, 5, 2*groups%7)
			}
			for _, nodes := range [][]int{{1}, {5, 1}, {1, 5}} {
				l[which] = at(far, nodes...)
				refuses(t, l, 1, 2, api.ErrPlace)
				moves(t, l, 20, 2)
				l[which].Epoch--
				if _, _, e := place.Move(l, 1, 2); e != api.OK {
					t.Errorf("of %d groups, the Epoch one less: %d", groups, e)
				}
			}
		}
	}
}

// wrong are placements that are not right, each in one way.
func wrong() map[string][]api.Place {
	good := at(1, 1, 2)
	out := map[string][]api.Place{
		"none":               nil,
		"none, but a list":   {},
		"an Epoch 0":         {good, at(0, 1), good},
		"an Epoch below":     {good, at(-1, 1)},
		"an Epoch above":     {at(far+1, 1), good},
		"no nodes":           {good, at(1)},
		"a node below":       {good, at(1, 4, -1)},
		"a node above":       {at(1, 256)},
		"a node far above":   {at(1, 5), at(1, math.MaxInt)},
		"a node twice":       {good, good, at(1, 6, 7, 6)},
		"256 nodes":          {at(1, rise(0, 256)...)},
		"1001 of them":       slices.Repeat([]api.Place{good}, 1001),
		"a last one without": append(slices.Repeat([]api.Place{good}, 999), api.Place{}),
	}
	for i := range 3 {
		l := []api.Place{good, good, good}
		l[i] = at(0, 3)
		out[fmt.Sprintf("the one at %d of three", i)] = l
	}
	return out
}

// P9.2: of placements that are not right ErrArg, ahead of all else.
func TestMoveNotRight(t *testing.T) {
	for name, l := range wrong() {
		if rightAll(l) {
			t.Fatalf("%s: right", name)
		}
		for _, x := range [][2]int{{1, 9}, {9, 1}, {1, 2}, {1, 1}, {-1, 2}, {2, 256}, {77, 78}} {
			refuses(t, l, x[0], x[1], api.ErrArg)
		}
	}
}

// P9.2: all moves of three placements of few nodes, held against plain ones.
func TestMoveAllSmall(t *testing.T) {
	kinds := []api.Place{at(1, 0), at(2, 1), at(far, 0), at(far, 2), at(3, 0, 1), at(3, 1, 0), at(4, 2, 0), at(1, 0, 1, 2), at(0, 0), at(1, 3, 3), at(far-1, 2, 1)}
	for _, p := range kinds {
		for _, q := range kinds {
			for _, r := range kinds {
				for from := -1; from <= 3; from++ {
					for to := -1; to <= 3; to++ {
						moves(t, []api.Place{p, q, r}, from, to)
					}
				}
			}
		}
	}
}
