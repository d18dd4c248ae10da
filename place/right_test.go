package place_test

import (
	"math"
	"slices"
	"testing"

	"cooperage/api"
	"cooperage/place"
)

// P9.1: Right of all placements of up to three nodes, and some Epochs, with some numbers of nodes.
func TestRightOfAllShort(t *testing.T) {
	var lay func(nodes []int)
	lay = func(nodes []int) {
		for _, epoch := range []int{-1, 0, 1, 2} {
			for many := -1; many <= 5; many++ {
				p := at(epoch, nodes...)
				if place.Right(p, many) != right(p, many) {
					t.Fatalf("Right(%v, %d): %v", p, many, !right(p, many))
				}
			}
		}
		for node := -1; node <= 4 && len(nodes) < 3; node++ {
			lay(append(slices.Clone(nodes), node))
		}
	}
	lay(nil)
}

// P9.1: the edges of the Epoch: from 1 to 2^40.
func TestRightEpoch(t *testing.T) {
	for _, epoch := range []int{1, 2, 255, 256, 1 << 32, far - 1, far} {
		if !place.Right(at(epoch, 0), 1) {
			t.Errorf("the Epoch %d is not right", epoch)
		}
	}
	for _, epoch := range []int{0, -1, far + 1, 1 << 41, 1<<41 + 1, -far, math.MinInt, math.MaxInt} {
		if place.Right(at(epoch, 0), 1) {
			t.Errorf("the Epoch %d is right", epoch)
		}
	}
}

// P9.1: the edges of the number of nodes there are: from 1 to 256; each node is below it.
func TestRightOfSoMany(t *testing.T) {
	for many := 1; many <= 256; many++ {
		if !place.Right(at(1, many-1), many) || !place.Right(at(1, 0), many) {
			t.Errorf("the nodes 0 and %d are not right of %d", many-1, many)
		}
		if place.Right(at(1, many), many) || place.Right(at(1, 0, many), many) {
			t.Errorf("the node %d is right of %d", many, many)
		}
	}
	for _, many := range append([]int{0}, odd...) {
		if many != 256 && place.Right(at(1, 0), many) {
			t.Errorf("a placement is right of %d", many)
		}
	}
	for _, node := range odd {
		if place.Right(at(1, node), 256) || place.Right(at(1, 3, node, 5), 256) {
			t.Errorf("the node %d is right", node)
		}
	}
}

// P9.1: the edges of how many Nodes a placement has: from 1 to 255.
func TestRightNodes(t *testing.T) {
	for many := range 256 {
		if place.Right(at(1, rise(0, many)...), 256) != (many > 0) {
			t.Errorf("of %d nodes: %v", many, many == 0)
		}
	}
	for _, nodes := range [][]int{rise(0, 256), rise(0, 257), rise(0, 1000), make([]int, 300)} {
		if place.Right(at(1, nodes...), 256) {
			t.Errorf("of %d nodes: right", len(nodes))
		}
	}
	if place.Right(api.Place{}, 256) || place.Right(api.Place{Epoch: 1, Nodes: []int{}}, 256) {
		t.Error("of none: right")
	}
	if !place.Right(at(1, rise(0, 255)...), 255) || !place.Right(at(1, rise(1, 255)...), 256) || place.Right(at(1, rise(1, 255)...), 255) {
		t.Error("of 255")
	}
}

// P9.1: a node that is there twice is not right, wherever it is.
func TestRightTwice(t *testing.T) {
	for i := range 255 {
		nodes := rise(0, 255)
		j := (i*7 + 1) % 255
		if i == j {
			continue
		}
		nodes[i] = nodes[j]
		if place.Right(at(1, nodes...), 256) {
			t.Errorf("%d is there twice, at %d and %d", nodes[i], i, j)
		}
	}
	for node := range 256 {
		if place.Right(at(1, node, node), 256) || place.Right(at(1, node, (node+1)%256, node), 256) {
			t.Errorf("%d is there twice", node)
		}
	}
}
