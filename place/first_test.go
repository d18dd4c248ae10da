package place_test

import (
	"math"
	"testing"

	"cooperage/api"
	"cooperage/place"
)

// turned is First by the chapter's words, in another way: the nodes go round, and each group begins one later.
func turned(nodes, n, groups int) []api.Place {
	var out []api.Place
	for begin := 0; len(out) < groups; begin++ {
		if begin == nodes {
			begin = 0
		}
		p := at(1)
		for node := begin; len(p.Nodes) < n; node++ {
			if node == nodes {
				node = 0
			}
			p.Nodes = append(p.Nodes, node)
		}
		out = append(out, p)
	}
	return out
}

// P9.1: First of all numbers up to some: what it refuses, and what it lays.
func TestFirstSmall(t *testing.T) {
	for nodes := -1; nodes <= 9; nodes++ {
		for n := -1; n <= 10; n++ {
			for groups := -1; groups <= 20; groups++ {
				l, e := place.First(nodes, n, groups)
				if nodes < 1 || n < 1 || n > nodes || groups < 1 {
					if e != api.ErrArg || len(l) != 0 {
						t.Fatalf("First(%d, %d, %d): %s, %d", nodes, n, groups, tell(l), e)
					}
					continue
				}
				is(t, "First", e, api.OK)
				has(t, "First", l, turned(nodes, n, groups)...)
			}
		}
	}
}

// P9.1: First of each number of nodes, with one of each, and as many as there may be.
func TestFirstOfAllNodes(t *testing.T) {
	for nodes := 1; nodes <= 256; nodes++ {
		for _, n := range []int{1, (nodes + 1) / 2, min(nodes, 255)} {
			groups := 1 + nodes*37%300
			has(t, "First", first(t, nodes, n, groups), turned(nodes, n, groups)...)
		}
		for _, n := range []int{0, nodes + 1, 256} {
			if l, e := place.First(nodes, n, 1); e != api.ErrArg || len(l) != 0 {
				t.Fatalf("First(%d, %d, 1): %s, %d", nodes, n, tell(l), e)
			}
		}
	}
}

// P9.1: the edges that the chapter names: 256 nodes, 255 of each placement, 1000 groups; all of these at once.
func TestFirstEdges(t *testing.T) {
	has(t, "First", first(t, 256, 255, 1000), turned(256, 255, 1000)...)
	has(t, "First", first(t, 255, 255, 1000), turned(255, 255, 1000)...)
	has(t, "First", first(t, 1, 1, 1000), turned(1, 1, 1000)...)
	has(t, "First", first(t, 1, 1, 1), at(1, 0))
	for _, x := range [][3]int{
		{257, 1, 1}, {257, 255, 1000}, {256, 256, 1}, {257, 257, 1}, {256, 255, 1001}, {1, 1, 1001}, {0, 0, 1}, {0, 1, 1}, {1, 0, 1}, {1, 1, 0},
		{255, 256, 1}, {1, 2, 1}, {-1, -1, -1}, {-3, -3, 1}, {math.MaxInt, 1, 1}, {math.MinInt, 1, 1}, {1, math.MaxInt, 1}, {1, math.MinInt, 1},
		{1, 1, math.MaxInt}, {1, 1, math.MinInt}, {math.MaxInt, math.MaxInt, math.MaxInt}, {math.MinInt, math.MinInt, math.MinInt},
		{1<<32 + 4, 3, 4}, {4, 1<<32 + 3, 4}, {4, 3, 1<<32 + 4},
	} {
		if l, e := place.First(x[0], x[1], x[2]); e != api.ErrArg || len(l) != 0 {
			t.Errorf("First%v: %s, %d", x, tell(l), e)
		}
	}
}

// P9.1: what First lays is right, of just as many nodes as there are.
func TestFirstIsRight(t *testing.T) {
	for _, nodes := range []int{1, 2, 3, 7, 100, 254, 255, 256} {
		for _, n := range []int{1, (nodes + 2) / 3, min(nodes, 255)} {
			for group, p := range first(t, nodes, n, 2*nodes) {
				if !place.Right(p, nodes) || nodes == n && place.Right(p, nodes-1) {
					t.Fatalf("First(%d, %d): the group %d is not right", nodes, n, group)
				}
			}
		}
	}
}
