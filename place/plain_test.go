package place_test

import (
	"fmt"
	"math"
	"slices"
	"testing"

	"cooperage/api"
	"cooperage/place"
)

// far is the greatest Epoch.
const far = 1 << 40

// at is a placement.
func at(epoch int, nodes ...int) api.Place {
	return api.Place{Epoch: epoch, Nodes: nodes}
}

// rise is so many nodes from one on, each one more.
func rise(from, many int) []int {
	var out []int
	for i := range many {
		out = append(out, from+i)
	}
	return out
}

// is holds an error against the one that has to be.
func is(t *testing.T, what string, e, want api.Errno) {
	t.Helper()
	if e != want {
		t.Fatalf("%s: %d, want %d", what, e, want)
	}
}

// same tells whether two lists have the same placements.
func same(l, m []api.Place) bool {
	return slices.EqualFunc(l, m, func(p, q api.Place) bool {
		return p.Epoch == q.Epoch && slices.Equal(p.Nodes, q.Nodes)
	})
}

// tell is some of a list in words, not all of a long one.
func tell(l []api.Place) string {
	return fmt.Sprintf("%d: %.300s", len(l), fmt.Sprint(l[:min(len(l), 5)]))
}

// has holds placements against those that have to be.
func has(t *testing.T, what string, l []api.Place, want ...api.Place) {
	t.Helper()
	if !same(l, want) {
		t.Fatalf("%s: %s, want %s", what, tell(l), tell(want))
	}
}

// first is First's placements, which have to be.
func first(t *testing.T, nodes, n, groups int) []api.Place {
	t.Helper()
	l, e := place.First(nodes, n, groups)
	if e != api.OK || len(l) != groups {
		t.Fatalf("First(%d, %d, %d): %d, %d", nodes, n, groups, len(l), e)
	}
	return l
}

// put is the bytes of placements, which have to be.
func put(t *testing.T, l []api.Place) []byte {
	t.Helper()
	b, e := place.Bytes(l)
	is(t, "Bytes of "+tell(l), e, api.OK)
	return b
}

// deep is a list in memory of its own.
func deep(l []api.Place) []api.Place {
	var out []api.Place
	for _, p := range l {
		out = append(out, at(p.Epoch, append([]int(nil), p.Nodes...)...))
	}
	return out
}

// right is Right by the chapter's words, in another way: how often each node is there is counted.
func right(p api.Place, nodes int) bool {
	if nodes < 1 || nodes > 256 || p.Epoch < 1 || p.Epoch > far || len(p.Nodes) < 1 || len(p.Nodes) > 255 {
		return false
	}
	known := 0
	for node := range nodes {
		many := 0
		for _, x := range p.Nodes {
			if x == node {
				many++
			}
		}
		if many > 1 {
			return false
		}
		known += many
	}
	return known == len(p.Nodes)
}

// rightAll tells whether placements are right.
func rightAll(l []api.Place) bool {
	wrong := slices.ContainsFunc(l, func(p api.Place) bool { return !right(p, 256) })
	return len(l) > 0 && len(l) <= 1000 && !wrong
}

// moved is Move by the chapter's words, in another way: what hinders is looked for ahead of all.
func moved(l []api.Place, from, to int) ([]api.Place, []int, api.Errno) {
	if !rightAll(l) {
		return nil, nil, api.ErrArg
	}
	if min(from, to) < 0 || max(from, to) > 255 || from == to {
		return nil, nil, api.ErrPlace
	}
	for _, p := range l {
		if slices.Contains(p.Nodes, from) && (slices.Contains(p.Nodes, to) || p.Epoch == far) {
			return nil, nil, api.ErrPlace
		}
	}
	out := deep(l)
	var groups []int
	for group, p := range out {
		for i, node := range p.Nodes {
			if node == from {
				p.Nodes[i] = to
				out[group].Epoch++
				groups = append(groups, group)
			}
		}
	}
	return out, groups, api.OK
}

// digits is a number as bytes of seven bits each, the lowest ones first; but for the last one each has the eighth bit.
func digits(n uint64) []byte {
	if n < 128 {
		return []byte{byte(n)}
	}
	return append([]byte{byte(n&127 | 128)}, digits(n>>7)...)
}

// numbers is numbers as bytes, one behind the other.
func numbers(l ...uint64) []byte {
	var b []byte
	for _, n := range l {
		b = append(b, digits(n)...)
	}
	return b
}

// told is the numbers that a placement is told by.
func told(p api.Place) []uint64 {
	out := []uint64{uint64(p.Epoch), uint64(len(p.Nodes))}
	for _, node := range p.Nodes {
		out = append(out, uint64(node))
	}
	return out
}

// laid is the bytes of placements, right or not.
func laid(l []api.Place) []byte {
	b := numbers(uint64(len(l)))
	for _, p := range l {
		b = append(b, numbers(told(p)...)...)
	}
	return b
}

// cut is all numbers that bytes are put together from; false, if they are not.
func cut(b []byte) ([]uint64, bool) {
	var out []uint64
	for from := 0; from < len(b); {
		end := from
		for end < len(b) && b[end] >= 128 {
			end++
		}
		if end == len(b) || end-from > 8 {
			return nil, false // unfinished, or far above 2^40
		}
		var n uint64
		for i := end; i >= from; i-- {
			n = n<<7 | uint64(b[i]&127)
		}
		if !slices.Equal(digits(n), b[from:end+1]) {
			return nil, false
		}
		out, from = append(out, n), end+1
	}
	return out, true
}

// read is Read by the chapter's words, in another way: all numbers first, then what they stand for.
func read(b []byte) ([]api.Place, api.Errno) {
	l, ok := cut(b)
	if !ok || len(l) == 0 {
		return nil, api.ErrPlace
	}
	groups, l := l[0], l[1:]
	var out []api.Place
	for len(l) >= 2 && l[1] <= uint64(len(l)-2) && l[0] <= far {
		p := api.Place{Epoch: int(l[0])}
		end := 2 + int(l[1])
		for _, n := range l[2:end] {
			p.Nodes = append(p.Nodes, int(min(n, 1<<40)))
		}
		out, l = append(out, p), l[end:]
	}
	if len(l) > 0 || uint64(len(out)) != groups || !rightAll(out) {
		return nil, api.ErrPlace
	}
	return out, api.OK
}

// reads holds Read of bytes against the plain one; and what it tells has these bytes, and no other ones.
func reads(t *testing.T, b []byte) {
	t.Helper()
	want, refused := read(b)
	l, e := place.Read(b)
	if e != refused || !same(l, want) {
		t.Fatalf("Read(%.60v), %d bytes: %s, %d, want %s, %d", b[:min(len(b), 20)], len(b), tell(l), e, tell(want), refused)
	}
	if e == api.OK && !slices.Equal(put(t, l), b) {
		t.Fatalf("Read(%.60v): %s, which has other bytes", b[:min(len(b), 20)], tell(l))
	}
}

// moves holds a Move against the plain one.
func moves(t *testing.T, l []api.Place, from, to int) {
	t.Helper()
	want, changed, refused := moved(l, from, to)
	m, groups, e := place.Move(l, from, to)
	if e != refused || !same(m, want) || !slices.Equal(groups, changed) {
		t.Fatalf("Move(%d, %d) of %s: %s, %.300v, %d, want %s, %.300v, %d", from, to, tell(l), tell(m), groups, e, tell(want), changed, refused)
	}
}

// odd are numbers that are no node, and far from each.
var odd = []int{-1, -2, -256, -1 << 32, math.MinInt, math.MaxInt, 256, 257, 512, 1 << 8, 1 << 16, 1 << 32, 1<<32 + 1, 1 << 40}

// chance is numbers by a rule from a seed.
type chance uint32

// below is the next one, from 0 on and below n.
func (c *chance) below(n int) int {
	*c = *c*1664525 + 1013904223
	return int(*c>>8) % n
}

// nodes is so many of the nodes below some number, none twice, in an order by chance.
func (c *chance) nodes(many, below int) []int {
	l := rise(0, below)
	for i := range many {
		j := i + c.below(below-i)
		l[i], l[j] = l[j], l[i]
	}
	return l[:many:many]
}

// places is right placements: so many groups, of up to so many of the nodes below some number.
func (c *chance) places(groups, most, below int) []api.Place {
	var out []api.Place
	for range groups {
		epoch := []int{1, 2, 127, 128, 16383, 16384, far - 1, far}[c.below(8)]
		out = append(out, at(epoch, c.nodes(1+c.below(most), below)...))
	}
	return out
}
