package net_test

import (
	"bytes"
	"slices"
	"testing"

	"cooperage/api"
	"cooperage/net"
)

// step is something that is done to a net, and to a plain one; it tells whether both answer the same.
type step func(n *net.Net, p *plain) bool

func sends(from, to int, b []byte) step {
	return func(n *net.Net, p *plain) bool { return n.Send(from, to, b) == p.send(from, to, b) }
}

func copies(i int) step {
	return func(n *net.Net, p *plain) bool { return n.Copy(i) == p.copy(i) }
}

func takes(i int) step {
	return func(n *net.Net, p *plain) bool {
		d, ok := n.Take(i)
		x, other := p.take(i)
		return ok == other && same(d, x)
	}
}

func drops(i int) step {
	return func(n *net.Net, p *plain) bool {
		_, there := p.take(i)
		return n.Drop(i) == there
	}
}

func forgets(to int) step {
	return func(n *net.Net, p *plain) bool { return n.Forget(to) == p.forget(to) }
}

// P7.1 to P7.3: all ways of a few steps with two stations, held against a plain net behind each way.
func TestAllShortWays(t *testing.T) {
	steps := []step{
		sends(0, 1, []byte("a")), sends(1, 0, []byte("b")), sends(1, 1, nil), sends(0, 2, nil),
		copies(0), copies(1), copies(2), takes(0), takes(1), takes(2), drops(0), drops(1), forgets(0), forgets(1),
	}
	const long = 5
	ways := 1
	for range long {
		ways *= len(steps)
	}
	for way := range ways {
		n, p := made(t, 2, 2), &plain{ends: 2, most: 2}
		for k, rest := 0, way; k < long; k, rest = k+1, rest/len(steps) {
			if !steps[rest%len(steps)](n, p) {
				t.Fatalf("way %d: another answer of step %d", way, k)
			}
		}
		if why := differs(n, p); why != "" {
			t.Fatalf("way %d: %s", way, why)
		}
	}
}

// any is some step with so many stations, as many datagrams lying about.
func (c *chance) any(ends, flying int) step {
	from, to, i := c.below(ends), c.below(ends), c.below(flying+1)
	if c.below(20) == 0 {
		none := append([]int{ends, ends + 1, flying + 1}, odd...)
		from, to, i = none[c.below(len(none))], none[c.below(len(none))], none[c.below(len(none))]
	}
	switch kind := c.below(100); {
	case kind < 45:
		return sends(from, to, of(c.below(9), c.below(5)))
	case kind < 60:
		return copies(i)
	case kind < 75:
		return takes(i)
	case kind < 80:
		return takes(0)
	case kind < 95:
		return drops(i)
	}
	return forgets(to)
}

// P7.1 to P7.3: long ways with some nets, held against plain ones behind each step.
func TestLongWays(t *testing.T) {
	for seed := range 60 {
		c := chance(seed)
		ends, most := []int{1, 2, 3, 16, 300}[seed%5], []int{1, 2, 5, 20}[seed%4]
		n, p := made(t, ends, most), &plain{ends: ends, most: most}
		for k := range 1000 {
			if !c.any(ends, p.flying())(n, p) {
				t.Fatalf("seed %d: another answer of step %d", seed, k)
			}
			if why := differs(n, p); why != "" {
				t.Fatalf("seed %d: behind step %d: %s", seed, k, why)
			}
		}
	}
}

// P7.4: what has gone and what lies about is what was sent and copied, between any two stations.
func TestNothingMadeUp(t *testing.T) {
	for seed := range 20 {
		c := chance(seed)
		n := made(t, 4, 1+seed)
		balance := map[string]int{} // of datagrams so short that the text tells them
		for range 2000 {
			i := c.below(n.Flying() + 1)
			ith, there := n.Look(i)
			switch c.below(8) {
			case 0, 1, 2:
				d := api.Datum{From: c.below(4), To: c.below(4), Bytes: of(c.below(3), 2)}
				if n.Send(d.From, d.To, d.Bytes) == api.OK {
					balance[short(d)]++
				}
			case 3, 4:
				if n.Copy(i) == api.OK {
					balance[short(ith)]++
				}
			case 5:
				if d, ok := n.Take(i); ok {
					balance[short(d)]--
				}
			case 6:
				if n.Drop(i) {
					balance[short(ith)]--
				} else if there {
					t.Fatal("Drop")
				}
			case 7:
				to := c.below(12)
				for _, d := range all(n) {
					if d.To == to {
						balance[short(d)]--
					}
				}
				n.Forget(to)
			}
			lie := map[string]int{}
			for _, d := range all(n) {
				lie[short(d)]++
			}
			for k, many := range balance {
				if lie[k] != many {
					t.Fatalf("seed %d: of %s there are %d, want %d", seed, k, lie[k], many)
				}
				delete(lie, k)
			}
			if len(lie) > 0 {
				t.Fatalf("seed %d: made up: %v", seed, lie)
			}
		}
	}
}

// P7.4: what goes from the front goes as it was sent, whatever comes between.
func TestFrontFirst(t *testing.T) {
	for seed := range 20 {
		c := chance(seed)
		n := made(t, 3, 50)
		sent, went := 0, 0
		for k := 0; sent < 3000 || went < sent; k++ {
			if k > 100000 {
				t.Fatalf("seed %d: %d of %d went, and no more", seed, went, sent)
			}
			if sent < 3000 && c.below(2) == 0 {
				d := api.Datum{From: sent % 3, To: sent / 3 % 3, Bytes: of(sent, 3)}
				if n.Send(d.From, d.To, d.Bytes) == api.OK {
					sent++
				}
				continue
			}
			d, ok := n.Take(0)
			if ok != (went < sent) {
				t.Fatalf("seed %d: %d of %d went: %v", seed, went, sent, ok)
			}
			if ok && !same(d, api.Datum{From: went % 3, To: went / 3 % 3, Bytes: of(went, 3)}) {
				t.Fatalf("seed %d: the %d-th went as %v", seed, went, d)
			}
			if ok {
				went++
			}
		}
	}
}

// forOne is what lies about for a station, in order, and where.
func forOne(n *net.Net, to int) ([]api.Datum, []int) {
	var out []api.Datum
	var where []int
	for i, d := range all(n) {
		if d.To == to {
			out, where = append(out, d), append(where, i)
		}
	}
	return out, where
}

// P7.4: what lies about for a station is as if the others were not: a net to which all is done, and one to which but that which is for the station.
func TestOthersChangeNothing(t *testing.T) {
	for seed := range 20 {
		c := chance(seed)
		n, quiet := made(t, 4, 10), made(t, 4, 10)
		for k := range 2000 {
			from, to := c.below(4), c.below(4)
			_, where := forOne(n, to)
			// Which of those for the station, so that the quiet net may be asked for the same one.
			which := c.below(len(where) + 1)
			kind := c.below(10)
			do := func(n *net.Net) (api.Datum, api.Errno) {
				_, where := forOne(n, to)
				if kind < 5 {
					return api.Datum{}, n.Send(from, to, of(k, 2))
				}
				if kind == 9 {
					return api.Datum{From: n.Forget(to)}, api.OK
				}
				if which == len(where) {
					return api.Datum{}, api.OK
				}
				if kind < 7 {
					return api.Datum{}, n.Copy(where[which])
				}
				d, _ := n.Take(where[which])
				return d, api.OK
			}
			d, e := do(n)
			if to == 2 {
				if x, other := do(quiet); e != other || !same(d, x) {
					t.Fatalf("seed %d: step %d: %v, %d, and %v, %d", seed, k, d, e, x, other)
				}
			}
			got, _ := forOne(n, 2)
			if want := all(quiet); !slices.EqualFunc(got, want, same) || n.Waiting(2) != len(want) {
				t.Fatalf("seed %d: behind step %d: %v, want %v", seed, k, got, want)
			}
		}
	}
}

// P7.4: bytes are kept to the last one, however long they lie about, and whatever goes beside them.
func TestBytesKept(t *testing.T) {
	n := made(t, 2, 10000)
	is(t, "Send", n.Send(0, 1, of(5, 131072)), api.OK)
	for k := range 5000 {
		is(t, "Send", n.Send(1, 0, of(k, k%100)), api.OK)
		if k%3 == 0 {
			n.Drop(1)
		}
	}
	is(t, "Copy", n.Copy(0), api.OK)
	n.Forget(0)
	for range 2 {
		if d, ok := n.Take(0); !ok || d.From != 0 || d.To != 1 || !bytes.Equal(d.Bytes, of(5, 131072)) {
			t.Error("other bytes")
		}
	}
	lies(t, n)
}
