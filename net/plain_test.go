package net_test

import (
	"bytes"
	"fmt"
	"strconv"
	"testing"

	"cooperage/api"
	"cooperage/net"
)

// of is so many bytes that come by a rule from a seed.
func of(seed, long int) []byte {
	out := make([]byte, long)
	c := chance(seed)
	for i := range out {
		out[i] = byte(c.below(256))
	}
	return out
}

// datum is a datagram of a text.
func datum(from, to int, text string) api.Datum {
	return api.Datum{From: from, To: to, Bytes: []byte(text)}
}

// same tells whether two datagrams are the same.
func same(a, b api.Datum) bool {
	return a.From == b.From && a.To == b.To && bytes.Equal(a.Bytes, b.Bytes)
}

// short is a datagram as a text, of its bytes the first ones.
func short(d api.Datum) string {
	return fmt.Sprintf("%d %d %d bytes %x", d.From, d.To, len(d.Bytes), d.Bytes[:min(len(d.Bytes), 20)])
}

// made is a net that has to be.
func made(t *testing.T, ends, most int) *net.Net {
	t.Helper()
	n, e := net.New(ends, most)
	if n == nil || e != api.OK {
		t.Fatalf("New(%d, %d): %d", ends, most, e)
	}
	return n
}

// is holds an error against the one that has to be.
func is(t *testing.T, what string, e, want api.Errno) {
	t.Helper()
	if e != want {
		t.Fatalf("%s: %d, want %d", what, e, want)
	}
}

// send is a Send that has to be done.
func send(t *testing.T, n *net.Net, from, to int, text string) {
	t.Helper()
	is(t, "Send", n.Send(from, to, []byte(text)), api.OK)
}

// lies asks for all that lies about, which has to be that, in this order, and be counted so.
func lies(t *testing.T, n *net.Net, want ...api.Datum) {
	t.Helper()
	if n.Flying() != len(want) {
		t.Fatalf("Flying: %d, want %d", n.Flying(), len(want))
	}
	waiting := map[int]int{}
	for i, x := range want {
		if d, ok := n.Look(i); !ok || !same(d, x) {
			t.Fatalf("Look(%d): %s, %v, want %s", i, short(d), ok, short(x))
		}
		waiting[x.To]++
	}
	for _, i := range []int{-1, len(want)} {
		if d, ok := n.Look(i); ok || !same(d, api.Datum{}) {
			t.Fatalf("Look(%d) of %d: %v, %v", i, len(want), d, ok)
		}
	}
	for to := -1; to <= api.MaxPeer; to++ {
		if n.Waiting(to) != waiting[to] {
			t.Fatalf("Waiting(%d): %d, want %d", to, n.Waiting(to), waiting[to])
		}
	}
}

// all is what lies about, in order.
func all(n *net.Net) []api.Datum {
	var out []api.Datum
	for i := range n.Flying() {
		d, _ := n.Look(i)
		out = append(out, d)
	}
	return out
}

// plain is a net by the chapter's words, in another way: links, of which each has a datagram, and the one behind it.
type plain struct {
	ends, most int
	front      *link
}

// link is one.
type link struct {
	d    api.Datum
	next *link
}

// at is where the i-th link hangs, or where one behind all others would.
func (p *plain) at(i int) **link {
	at := &p.front
	for k := 0; *at != nil && k != i; k++ {
		at = &(*at).next
	}
	return at
}

// count is how many links are picked.
func (p *plain) count(picked func(d api.Datum) bool) int {
	count := 0
	for x := p.front; x != nil; x = x.next {
		if picked(x.d) {
			count++
		}
	}
	return count
}

func (p *plain) flying() int {
	return p.count(func(api.Datum) bool { return true })
}

func (p *plain) waiting(to int) int {
	return p.count(func(d api.Datum) bool { return d.To == to })
}

// lay is a datagram laid behind all others, where there is room.
func (p *plain) lay(d api.Datum) api.Errno {
	if p.waiting(d.To) == p.most || p.flying() == 10000 {
		return api.ErrFull
	}
	*p.at(-1) = &link{d: d}
	return api.OK
}

func (p *plain) send(from, to int, b []byte) api.Errno {
	switch {
	case from < 0 || from >= p.ends || to < 0 || to >= p.ends:
		return api.ErrArg
	case len(b) > 131072:
		return api.ErrLong
	}
	return p.lay(api.Datum{From: from, To: to, Bytes: bytes.Clone(b)})
}

func (p *plain) look(i int) (api.Datum, bool) {
	if i < 0 || *p.at(i) == nil {
		return api.Datum{}, false
	}
	return (*p.at(i)).d, true
}

func (p *plain) take(i int) (api.Datum, bool) {
	d, there := p.look(i)
	if there {
		*p.at(i) = (*p.at(i)).next
	}
	return d, there
}

func (p *plain) copy(i int) api.Errno {
	d, there := p.look(i)
	if !there {
		return api.ErrArg
	}
	return p.lay(d)
}

func (p *plain) forget(to int) int {
	gone := 0
	for at := &p.front; *at != nil; {
		if (*at).d.To != to {
			at = &(*at).next
			continue
		}
		*at = (*at).next
		gone++
	}
	return gone
}

// differs tells by what a net differs from the plain one; nothing, if by nothing.
func differs(n *net.Net, p *plain) string {
	if n.Flying() != p.flying() {
		return "Flying: " + strconv.Itoa(n.Flying())
	}
	for to := -1; to <= p.ends; to++ {
		if n.Waiting(to) != p.waiting(to) {
			return "Waiting(" + strconv.Itoa(to) + "): " + strconv.Itoa(n.Waiting(to))
		}
	}
	x := p.front
	for i := range n.Flying() {
		if d, ok := n.Look(i); !ok || !same(d, x.d) {
			return "Look(" + strconv.Itoa(i) + ")"
		}
		x = x.next
	}
	for _, i := range []int{-1, n.Flying()} {
		if d, ok := n.Look(i); ok || !same(d, api.Datum{}) {
			return "Look(" + strconv.Itoa(i) + ")"
		}
	}
	return ""
}

// chance is numbers by a rule from a seed.
type chance uint32

// below is the next one, from 0 on and below n.
func (c *chance) below(n int) int {
	*c = *c*1664525 + 1013904223
	return int(*c>>8) % n
}
