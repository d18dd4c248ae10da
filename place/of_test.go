package place_test

import (
	"math"
	"slices"
	"testing"

	"cooperage/api"
	"cooperage/place"
)

// ofs holds Of against the placement that has to be; of no node: nothing.
func ofs(t *testing.T, l []api.Place, stripe int, want api.Place, there bool) {
	t.Helper()
	p, ok := place.Of(l, stripe)
	if ok != there || p.Epoch != want.Epoch || !slices.Equal(p.Nodes, want.Nodes) {
		t.Fatalf("Of(%d) of %d: %v, %v, want %v", stripe, len(l), p, ok, want)
	}
}

// P9.2: stripes go round the placements, group by group.
func TestOf(t *testing.T) {
	c := chance(1)
	for _, groups := range []int{1, 2, 3, 7, 255, 256, 999, 1000} {
		l := c.places(groups, 9, 256)
		group := 0
		for stripe := range 2*groups + 5 {
			ofs(t, l, stripe, l[group], true)
			if group++; group == groups {
				group = 0
			}
		}
	}
}

// P9.2: of stripes far off the rest counts.
func TestOfFar(t *testing.T) {
	l := []api.Place{at(1, 5), at(2, 6, 7), at(3, 8)}
	ofs(t, l, far, l[1], true) // 2^40 is 4 times over one more than a threefold
	ofs(t, l, far-1, l[0], true)
	ofs(t, l, far+1, l[2], true)
	ofs(t, l, 1<<32, l[1], true)
	ofs(t, l, 1<<31, l[2], true)
	ofs(t, l, math.MaxInt, l[1], true) // 2^63 is 2 more than a threefold
	ofs(t, l, math.MaxInt-1, l[0], true)
	ofs(t, l[:1], math.MaxInt, l[0], true)
}

// P9.2: nothing, if there are no placements, or the stripe is below 0.
func TestOfNothing(t *testing.T) {
	for _, stripe := range []int{0, 1, -1, far, math.MaxInt, math.MinInt} {
		ofs(t, nil, stripe, api.Place{}, false)
		ofs(t, []api.Place{}, stripe, api.Place{}, false)
	}
	l := []api.Place{at(1, 5), at(2, 6, 7), at(3, 8)}
	for _, stripe := range []int{-1, -2, -3, -4, -far, math.MinInt, math.MinInt + 1} {
		ofs(t, l, stripe, api.Place{}, false)
		ofs(t, l[:1], stripe, api.Place{}, false)
	}
}

// P9.2: Of tells what there is, right or not.
func TestOfNotRight(t *testing.T) {
	l := []api.Place{{}, at(-3, 2, 2, -7), at(0, 900)}
	for stripe := range 9 {
		ofs(t, l, stripe, l[stripe%3], true)
	}
	many := make([]api.Place, 2000)
	many[1999] = at(4, 4)
	ofs(t, many, 1999, at(4, 4), true)
	ofs(t, many, 2000, api.Place{}, true)
}

// P9.2: the index of each node, and -1 of all others.
func TestIndex(t *testing.T) {
	c := chance(2)
	for _, many := range []int{1, 2, 5, 100, 255} {
		p := at(1, c.nodes(many, 256)...)
		for node := -2; node <= 258; node++ {
			want := -1
			for i, x := range p.Nodes {
				if x == node {
					want = i
				}
			}
			if i := place.Index(p, node); i != want {
				t.Fatalf("Index(%d) of %d nodes: %d, want %d", node, many, i, want)
			}
		}
		for _, node := range odd {
			if i := place.Index(p, node); i != -1 {
				t.Errorf("Index(%d): %d", node, i)
			}
		}
	}
	for _, node := range append([]int{0, 1}, odd...) {
		if place.Index(api.Place{}, node) != -1 || place.Index(at(1, []int{}...), node) != -1 {
			t.Errorf("Index(%d) of none", node)
		}
	}
}

// P9.2: of a placement that is not right, too, Index is the first one that has the node.
func TestIndexFirst(t *testing.T) {
	p := at(0, 4, -1, 7, 4, 7, math.MaxInt, -1, 300, math.MinInt, 300)
	for node, want := range map[int]int{4: 0, -1: 1, 7: 2, math.MaxInt: 5, 300: 7, math.MinInt: 8, 0: -1, 5: -1, -2: -1} {
		if i := place.Index(p, node); i != want {
			t.Errorf("Index(%d): %d, want %d", node, i, want)
		}
	}
}
