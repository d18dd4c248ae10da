package mend_test

import (
	"bytes"
	"slices"
	"strconv"
	"strings"
	"testing"

	"cooperage/api"
	own "cooperage/bytes"
	"cooperage/code"
	"cooperage/disk"
	"cooperage/mend"
	"cooperage/node"
	"cooperage/slots"
)

// behind is all mendings that one step of some kinds makes of m, but for m itself.
func behind(t *testing.T, m api.Mend) []api.Mend {
	t.Helper()
	var out []api.Mend
	add := func(n api.Mend, e api.Errno) {
		if e != api.OK {
			t.Fatalf("of %s: %d", words(m), e)
		}
		if !same(n, m) {
			out = append(out, n)
		}
	}
	for _, w := range mend.Wants(m) {
		for _, e := range named[:4] {
			add(mend.Told(m, w, api.Tell{Err: e, Bytes: []byte{byte('a' + w.Index)}, Infos: infos(w.Index, "5c")}))
		}
		for _, list := range []string{"", "5", "5 6 7", "6"} {
			add(mend.Told(m, w, api.Tell{Bytes: []byte("long"), Infos: infos(w.Index, list)}))
		}
	}
	for index := range m.Marks {
		add(mend.Lose(m, index))
	}
	return out
}

// safe holds what is wanted of m: nothing lets go of the version, unless it no longer holds there, and as many shards as needed are at hand; nor of anything below.
func safe(t *testing.T, m api.Mend) {
	t.Helper()
	last := -1
	for _, w := range mend.Wants(m) {
		k := m.Marks[w.Index]
		if w.Index <= last {
			t.Fatalf("of %s is wanted %v", words(m), mend.Wants(m))
		}
		last = w.Index
		letsGo := w.Op == api.AskAbort || w.Op == api.AskDrop
		if letsGo && w.Version <= m.Version && (w.Version != m.Version || k.Mark != api.MendBad || len(m.Shards) < m.Need) {
			t.Fatalf("of %s is wanted %v", words(m), w)
		}
		// A drop takes all below with it.
		if w.Op == api.AskDrop && w.Version > m.Version && m.Version > 0 {
			t.Fatalf("of %s is wanted %v", words(m), w)
		}
	}
}

// P14.5: whatever comes to a mending, step by step from its begin, it is right, and safe; nothing but its Phase, Marks, Which and Shards changes; what was read stays in front; and what is done, or lost, stays as it is.
func TestWays(t *testing.T) {
	for _, x := range []struct{ version, n, need int }{{5, 1, 1}, {5, 2, 1}, {5, 2, 2}, {0, 1, 1}, {0, 2, 2}, {0, 3, 1}} {
		first, _ := mend.Begin(7, x.version, x.n, x.need)
		seen := map[string]bool{words(first): true}
		came := map[int]bool{}
		for work := []api.Mend{first}; len(work) > 0; {
			m := work[len(work)-1]
			work = work[:len(work)-1]
			came[m.Phase] = true
			safe(t, m)
			for _, o := range behind(t, m) {
				if !mend.Right(o) || o.Stripe != 7 || o.Version != x.version || o.Need != x.need || len(o.Marks) != x.n || m.Phase != api.MendGoing {
					t.Fatalf("of %s came %s", words(m), words(o))
				}
				if len(o.Which) < len(m.Which) || !slices.Equal(o.Which[:len(m.Which)], m.Which) || !sameShards(o.Shards[:len(m.Which)], m.Shards) {
					t.Fatalf("of %s came %s", words(m), words(o))
				}
				if !seen[words(o)] {
					seen[words(o)] = true
					work = append(work, o)
				}
			}
		}
		if !came[api.MendGoing] || !came[api.MendDone] || x.version > 0 && !came[api.MendLost] {
			t.Errorf("%v: only %v", x, came)
		}
	}
}

// P14.5: what is wanted is safe, and any right mending stays right, whatever comes: of all of up to two indexes.
func TestStaysRight(t *testing.T) {
	each := func(m api.Mend) {
		safe(t, m)
		for _, o := range behind(t, m) {
			if !mend.Right(o) {
				t.Fatalf("of %s came %s", words(m), words(o))
			}
		}
	}
	smallRight(2, 5, 1, strings.Fields(". T r R6 l b t6,7 l6 b6"), each)
	smallRight(2, 0, 1, noneWords, each)
}

// stripe and others are the stripe that is mended, and one that no one has to touch; size is how many bytes its shards have at most.
const theStripe, another, size = 7, 8, 6

// world is nodes, each of which has an index of the stripe, whose published version has those shards.
type world struct {
	t       *testing.T
	c       *chance
	table   api.Table
	code    *code.Code
	version int
	shards  [][]byte
	disks   []*disk.Disk
	nodes   []*node.Node
	seq     int
	told    map[string]int // how often each thing was told
}

// put lets a node stand at an index: an empty one.
func (x *world) put(index int) {
	d, _ := disk.New(14 * slots.Slot(size))
	x.disks[index] = d
	x.open(index)
	x.do(api.Ask{Op: api.AskPrepare, Stripe: another, Index: index, Version: 3, Bytes: []byte("other")})
	x.do(api.Ask{Op: api.AskCommit, Stripe: another, Index: index, Version: 3})
	x.do(api.Ask{Op: api.AskPrepare, Stripe: another, Index: index, Version: 9, Bytes: []byte("later")})
}

// open opens the node at an index.
func (x *world) open(index int) {
	n, e := node.Open(x.disks[index], &x.table, size)
	if e != api.OK {
		x.t.Fatalf("a node: %d", e)
	}
	x.nodes[index] = n
}

// do asks the node of an index.
func (x *world) do(a api.Ask) (api.Tell, bool) {
	x.t.Helper()
	x.seq++
	a.Life, a.Seq = 1, x.seq
	tell, e := x.nodes[a.Index].Do(a)
	if e != api.OK && !x.disks[a.Index].Down() {
		x.t.Fatalf("%v: %d", a, e)
	}
	return tell, e == api.OK
}

// holds tells whether an index's node has the version, and it holds.
func (x *world) holds(index int) bool {
	tell, _ := x.do(api.Ask{Op: api.AskRead, Stripe: theStripe, Index: index, Version: x.version})
	return tell.Err == api.OK && bytes.Equal(tell.Bytes, x.shards[index])
}

// spoil turns a byte of a version at an index, if the node there has it.
func (x *world) spoil(index, version int) {
	for sector := range x.disks[index].Size() {
		tell, _ := x.do(api.Ask{Op: api.AskRead, Stripe: theStripe, Index: index, Version: version})
		if tell.Err != api.OK {
			return
		}
		at := x.c.below(len(tell.Bytes))
		_ = x.disks[index].Spoil(sector, at, 1)
		if tell, _ = x.do(api.Ask{Op: api.AskRead, Stripe: theStripe, Index: index, Version: version}); tell.Err == api.OK {
			_ = x.disks[index].Spoil(sector, at, 1)
		}
	}
}

// fill lets the node of an index have some versions by chance, and if it has to, the published one whole.
func (x *world) fill(index int, whole bool) {
	for version := 1; version <= x.version+4; version++ {
		has, commits, b := x.c.below(3) == 0, x.c.below(2) == 0, x.c.bytes(size)
		switch {
		case version == x.version:
			has, b = whole || x.c.below(2) == 0, x.shards[index]
		case version > x.version && x.version > 0:
			commits = false
		}
		if !has {
			continue
		}
		x.do(api.Ask{Op: api.AskPrepare, Stripe: theStripe, Index: index, Version: version, Bytes: b})
		if commits {
			x.do(api.Ask{Op: api.AskCommit, Stripe: theStripe, Index: index, Version: version})
		}
		if x.c.below(3) == 0 && !(whole && version == x.version) {
			x.spoil(index, version)
		}
	}
}

// newWorld is one of k and n, of which as many nodes as needed have the version whole.
func newWorld(t *testing.T, c *chance, k, n, version int) *world {
	x := &world{t: t, c: c, table: own.Table(), code: made(k, n), version: version, disks: make([]*disk.Disk, n), nodes: make([]*node.Node, n), told: map[string]int{}}
	x.shards, _ = x.code.Encode(c.stripe(k, 1+c.below(size)))
	whole := 0
	for index := range n {
		x.put(index)
		// Of those that are left so many have to be whole, whatever the others are.
		must := c.below(n-index) < k-whole
		if must {
			whole++
		}
		x.fill(index, must)
	}
	return x
}

// ask meets what is wanted, as a gateway would: an ask is lost, comes twice, meets a node whose power fails, or its answer is lost.
func (x *world) ask(m api.Mend, w api.Errand) api.Mend {
	x.t.Helper()
	a := api.Ask{Op: w.Op, Stripe: m.Stripe, Index: w.Index, Version: w.Version}
	if w.Op == api.AskPrepare {
		b, e := mend.Bytes(x.code, m, w.Index)
		if e != api.OK || !bytes.Equal(b, x.shards[w.Index]) {
			x.t.Fatalf("bytes %q, %d, want %q, of %s", b, e, x.shards[w.Index], words(m))
		}
		a.Bytes = b
	}
	held := x.version > 0 && x.holds(w.Index)
	d := x.disks[w.Index]
	way := x.c.below(8)
	switch way {
	case 0:
		return m
	case 1:
		x.do(a)
	case 2:
		d.Arm(x.c.below(6))
	}
	tell, came := x.do(a)
	if way == 2 {
		keeps := []bool{x.c.below(2) == 0, x.c.below(2) == 0, x.c.below(2) == 0}
		d.Crash(keeps)
		x.open(w.Index)
	}
	if held && !x.holds(w.Index) {
		x.t.Fatalf("%v took the version away, of %s", w, words(m))
	}
	if !came || way == 3 {
		return m
	}
	x.told[names[w.Op]+" "+strconv.Itoa(int(tell.Err))]++
	return tells(x.t, m, w, tell)
}

// replace lets an empty node stand at an index, if as many as needed are whole without it.
func (x *world) replace(m api.Mend) api.Mend {
	index, whole := x.c.below(len(m.Marks)), 0
	for i := range m.Marks {
		if i != index && x.holds(i) {
			whole++
		}
	}
	if whole < m.Need {
		return m
	}
	x.put(index)
	return loses(x.t, m, index)
}

// mended is the mending of x, gone through till nothing is wanted.
func (x *world) mended(replaces int) api.Mend {
	x.t.Helper()
	m, e := mend.Begin(theStripe, x.version, len(x.nodes), x.code.Need())
	for range 4000 {
		l := mend.Wants(m)
		if e != api.OK || len(l) == 0 {
			return m
		}
		safe(x.t, m)
		if replaces > 0 && x.c.below(6) == 0 {
			replaces--
			m = x.replace(m)
			continue
		}
		m = x.ask(m, l[x.c.below(len(l))])
	}
	x.t.Fatalf("%s goes on and on", words(m))
	return m
}

// wholly holds that each node has at its index the version, committed, the right shard, and nothing else of the stripe; of another one what was there.
func (x *world) wholly(m api.Mend) {
	x.t.Helper()
	if m.Phase != api.MendDone {
		x.t.Fatalf("it came to %s", words(m))
	}
	for index, n := range x.nodes {
		var want []api.Slot
		if x.version > 0 {
			want = append(want, api.Slot{Stripe: theStripe, Index: index, Version: x.version, State: api.Committed, Bytes: x.shards[index]})
		}
		want = append(want, api.Slot{Stripe: another, Index: index, Version: 3, State: api.Committed, Bytes: []byte("other")}, api.Slot{Stripe: another, Index: index, Version: 9, State: api.Prepared, Bytes: []byte("later")})
		got := n.All()
		if !slices.EqualFunc(got, want, func(s, z api.Slot) bool {
			return s.Stripe == z.Stripe && s.Index == z.Index && s.Version == z.Version && s.State == z.State && bytes.Equal(s.Bytes, z.Bytes)
		}) {
			x.t.Fatalf("the index %d of version %d has %v, want %v", index, x.version, got, want)
		}
		if x.version > 0 && !x.holds(index) {
			x.t.Fatalf("the index %d no longer holds", index)
		}
	}
}

// P14.5: where as many nodes as needed have it whole, and all answer, at last each index has it, committed, the right shard, and nothing else, whatever else there was, was spoilt, lost, doubled, crashed, or replaced; of a stripe without a version nothing is left.
func TestMended(t *testing.T) {
	c := chance(21)
	told := map[string]int{}
	for round := range 3000 {
		n := 1 + c.below(6)
		x := newWorld(t, &c, 1+c.below(n), n, c.below(4))
		x.wholly(x.mended(round % 3 * x.version))
		for what, many := range x.told {
			told[what] += many
		}
	}
	for _, what := range []string{"read 0", "read 60", "read 12", "abort 0", "drop 0", "prepare 0", "commit 0"} {
		if told[what] < 20 {
			t.Errorf("only so many of each: %v", told)
		}
	}
}

// P14.5: where as few as one too few are whole, and nothing is published later, it is not done, and nothing that holds was taken away.
func TestTooFew(t *testing.T) {
	c := chance(22)
	for range 600 {
		n := 2 + c.below(4)
		k := 2 + c.below(n-1)
		x := newWorld(t, &c, k, n, 2)
		left := k - 1
		for index := range n {
			if x.holds(index) {
				if left == 0 {
					x.spoil(index, 2)
				} else {
					left--
				}
			}
		}
		had := []bool{}
		for index := range n {
			had = append(had, x.holds(index))
		}
		if m := x.mended(0); m.Phase != api.MendLost {
			t.Fatalf("it came to %s", words(m))
		}
		for index := range n {
			if had[index] && !x.holds(index) {
				t.Fatalf("the index %d does not hold any more", index)
			}
		}
	}
}

// P14.3, P14.5: where a later version is committed, which was not published, it is lost, and that one stays.
func TestLaterCommitted(t *testing.T) {
	c := chance(23)
	for range 200 {
		x := newWorld(t, &c, 1, 3, 2)
		x.do(api.Ask{Op: api.AskPrepare, Stripe: theStripe, Index: 1, Version: 12, Bytes: []byte("x")})
		x.do(api.Ask{Op: api.AskCommit, Stripe: theStripe, Index: 1, Version: 12})
		m := x.mended(0)
		tell, _ := x.do(api.Ask{Op: api.AskRead, Stripe: theStripe, Index: 1, Version: 12})
		if m.Phase != api.MendLost || tell.Err != api.OK {
			t.Fatalf("it came to %s; the later one: %d", words(m), tell.Err)
		}
	}
}
