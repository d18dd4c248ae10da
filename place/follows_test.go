package place_test

import (
	"slices"
	"testing"

	"cooperage/api"
	"cooperage/place"
)

// P9.4: where groups goes by nodes First gives each node as many shards as any other one, at each index.
func TestFirstGivesAllAsMany(t *testing.T) {
	for nodes := 1; nodes <= 256; nodes++ {
		for _, times := range []int{1, 2, 1000 / nodes} {
			n := []int{1, min(nodes, 2), min(nodes, 255)}[(nodes+times)%3]
			if times*nodes > 1000 {
				continue
			}
			l := first(t, nodes, n, times*nodes)
			for i := range n {
				many := make([]int, nodes)
				for _, p := range l {
					many[p.Nodes[i]]++
				}
				if slices.Min(many) != times || slices.Max(many) != times {
					t.Fatalf("First(%d, %d, %d): at the index %d from %d to %d", nodes, n, times*nodes, i, slices.Min(many), slices.Max(many))
				}
			}
		}
	}
}

// where is of each node where it is: groups and indexes.
func where(l []api.Place) map[int][][2]int {
	out := map[int][][2]int{}
	for group, p := range l {
		for i, node := range p.Nodes {
			out[node] = append(out[node], [2]int{group, i})
		}
	}
	return out
}

// P9.4: behind a move nothing is at the elder node, every other one has what it had, and the new one what both had; placements are right, and just those of the groups told are changed.
func TestBehindMove(t *testing.T) {
	done := 0
	for seed := range 60 {
		c := chance(seed)
		below := []int{3, 8, 30, 256}[seed%4]
		l := c.places(1+c.below(12), min(below-1, 4), below)
		for range 100 {
			from, to := c.below(below), c.below(below)
			m, groups, e := place.Move(l, from, to)
			if e != api.OK {
				continue
			}
			done++
			held, holds := where(l), where(m)
			for node := range 256 {
				had := held[node]
				switch node {
				case from:
					had = nil
				case to:
					had = append(slices.Clone(held[to]), held[from]...)
					slices.SortFunc(had, func(x, y [2]int) int { return slices.Compare(x[:], y[:]) })
				}
				if !slices.Equal(holds[node], had) {
					t.Fatalf("seed %d: Move(%d, %d): %d has %v, want %v", seed, from, to, node, holds[node], had)
				}
			}
			for group, p := range m {
				more := 0
				if slices.Contains(groups, group) {
					more = 1
				}
				if !place.Right(p, 256) || p.Epoch != l[group].Epoch+more || slices.Equal(p.Nodes, l[group].Nodes) != (more == 0) {
					t.Fatalf("seed %d: Move(%d, %d): the group %d: %v, was %v", seed, from, to, group, p, l[group])
				}
			}
			l = m
		}
	}
	if done < 1000 {
		t.Errorf("only %d moves", done)
	}
}

// P9.2, P9.4: a move and the one back: what was, but for the Epochs.
func TestThereAndBack(t *testing.T) {
	for _, nodes := range []int{1, 4, 100, 255} {
		l := first(t, nodes, (nodes+1)/2, 2*nodes)
		for from := range nodes {
			m, groups, e := place.Move(l, from, 255)
			is(t, "Move", e, api.OK)
			back, others, e := place.Move(m, 255, from)
			is(t, "Move back", e, api.OK)
			if !slices.Equal(groups, others) || len(groups) != 2*((nodes+1)/2) {
				t.Fatalf("the groups %v and %v", groups, others)
			}
			for group, p := range back {
				if !slices.Equal(p.Nodes, l[group].Nodes) || p.Epoch != epochs(groups, group) {
					t.Fatalf("there and back: the group %d: %v", group, p)
				}
			}
		}
	}
}

// epochs is the Epoch of a group that was at 1, behind two moves of some groups.
func epochs(groups []int, group int) int {
	if slices.Contains(groups, group) {
		return 3
	}
	return 1
}

// P9.1 to P9.4: long ways with placements, held against plain ones behind each move, through bytes now and then.
func TestLongWays(t *testing.T) {
	for seed := range 36 {
		c := chance(seed + 100)
		below := []int{2, 3, 5, 10, 40, 256}[seed%6]
		l := first(t, below, 1+c.below(min(below, 255)), 1+c.below(30))
		if seed%3 == 0 {
			l = c.places(1+c.below(30), below-1, below)
		}
		for range 200 {
			from, to := c.below(below), c.below(256)
			if c.below(20) == 0 {
				from = odd[c.below(len(odd))]
			}
			if c.below(3) > 0 {
				to = c.below(below)
			}
			moves(t, l, from, to)
			if m, _, e := place.Move(l, from, to); e == api.OK {
				l = m
			}
			if c.below(9) == 0 {
				m, e := place.Read(put(t, l))
				is(t, "Read", e, api.OK)
				has(t, "Read", m, l...)
				l = m
			}
			stripe := c.below(1 << 20)
			ofs(t, l, stripe, l[stripe%len(l)], true)
		}
	}
}
