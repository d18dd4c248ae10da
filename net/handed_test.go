package net_test

import (
	"bytes"
	"testing"

	"cooperage/api"
	"cooperage/net"
)

// R3: bytes that are sent are not kept, nor changed, nor their spare room.
func TestSendHandedIn(t *testing.T) {
	for _, long := range []int{0, 1, 7, 64, 131072} {
		memory := append(of(1, long), 201, 202, 203)
		was := bytes.Clone(memory)
		n := made(t, 2, 4)
		is(t, "Send", n.Send(0, 1, memory[:long]), api.OK)
		is(t, "Send", n.Send(1, 0, memory[:long]), api.OK)
		is(t, "Copy", n.Copy(0), api.OK)
		n.Take(0)
		if !bytes.Equal(memory, was) {
			t.Errorf("what was handed in is %v, was %v", memory, was)
		}
		clear(memory)
		lies(t, n, api.Datum{From: 1, Bytes: was[:long]}, api.Datum{To: 1, Bytes: was[:long]})
	}
}

// R3: what is told is in memory of its own, each time, with its spare room; of a copy, too.
func TestHandedOut(t *testing.T) {
	spoil := func(b []byte) {
		b = b[:cap(b)]
		for i := range b {
			b[i] ^= 255
		}
	}
	for _, long := range []int{0, 1, 5, 33, 1000} {
		want := api.Datum{From: 1, To: 0, Bytes: of(3, long)}
		n := made(t, 2, 4)
		is(t, "Send", n.Send(1, 0, want.Bytes), api.OK)
		is(t, "Copy", n.Copy(0), api.OK)
		is(t, "Copy", n.Copy(1), api.OK)
		kept, _ := n.Look(0)
		for i := range 3 {
			d, _ := n.Look(i)
			spoil(d.Bytes)
			lies(t, n, want, want, want)
		}
		d, _ := n.Take(1)
		spoil(d.Bytes)
		lies(t, n, want, want)
		n.Drop(0)
		if !same(kept, want) {
			t.Errorf("two answers share memory: %v", kept)
		}
		taken, _ := n.Take(0)
		is(t, "Send", n.Send(0, 1, of(9, long)), api.OK)
		is(t, "Copy", n.Copy(0), api.OK)
		if !same(taken, want) {
			t.Errorf("an answer has changed: %v", taken)
		}
	}
}

// R5: no net, and such as New did not make: ErrNil, ahead of all else, or zeros; a copy by value was not made by New either, and does not meet what it was copied from.
func TestNoNet(t *testing.T) {
	one := made(t, 2, 2)
	send(t, one, 0, 1, "a")
	twin := *one
	for name, n := range map[string]*net.Net{"nil": nil, "not made": {}, "a copy": &twin} {
		for _, i := range append([]int{0, 1}, odd...) {
			for _, b := range [][]byte{nil, []byte("a"), make([]byte, 131073)} {
				is(t, name+": Send", n.Send(i, i, b), api.ErrNil)
				is(t, name+": Send", n.Send(0, i, b), api.ErrNil)
				is(t, name+": Send", n.Send(i, 0, b), api.ErrNil)
			}
			is(t, name+": Copy", n.Copy(i), api.ErrNil)
			d, ok := n.Look(i)
			x, other := n.Take(i)
			if ok || other || !same(d, api.Datum{}) || !same(x, api.Datum{}) || n.Drop(i) {
				t.Errorf("%s: Look, Take, Drop of %d: %v, %v", name, i, d, x)
			}
			if n.Flying() != 0 || n.Waiting(i) != 0 || n.Forget(i) != 0 {
				t.Errorf("%s: Flying %d, Waiting %d, Forget %d", name, n.Flying(), n.Waiting(i), n.Forget(i))
			}
		}
	}
	lies(t, one, datum(0, 1, "a"))
}

// R4: two nets have nothing in common, and answer the same to the same.
func TestTwoNets(t *testing.T) {
	c := chance(5)
	one, other := made(t, 3, 9), made(t, 3, 9)
	for k := range 1000 {
		from, to, i := c.below(3), c.below(3), c.below(one.Flying()+1)
		calls := []func(n *net.Net) (api.Datum, int){
			func(n *net.Net) (api.Datum, int) { return api.Datum{}, int(n.Send(from, to, of(k, 2))) },
			func(n *net.Net) (api.Datum, int) { return api.Datum{}, int(n.Copy(i)) },
			func(n *net.Net) (api.Datum, int) { d, _ := n.Take(i); return d, 0 },
			func(n *net.Net) (api.Datum, int) { n.Drop(i); return api.Datum{}, 0 },
			func(n *net.Net) (api.Datum, int) { return api.Datum{}, n.Forget(to) },
		}
		call := calls[[]int{0, 0, 0, 1, 1, 2, 2, 3, 4}[c.below(9)]]
		before := all(other)
		d, e := call(one)
		lies(t, other, before...)
		if x, f := call(other); e != f || !same(d, x) {
			t.Fatalf("step %d: %v, %d, and %v, %d", k, d, e, x, f)
		}
		lies(t, one, all(other)...)
	}
}

// Limits: 10000 of the greatest datagrams, each of them copied from the one ahead.
func TestGreatestAll(t *testing.T) {
	n := made(t, 300, 10000)
	b := of(1, 131072)
	is(t, "Send", n.Send(299, 299, b), api.OK)
	for k := range 9999 {
		is(t, "Copy", n.Copy(k), api.OK)
	}
	is(t, "Copy, full", n.Copy(0), api.ErrFull)
	for _, i := range []int{9999, 5000, 0} {
		if d, ok := n.Take(i); !ok || d.From != 299 || d.To != 299 || !bytes.Equal(d.Bytes, b) {
			t.Errorf("Take(%d): %v", i, ok)
		}
	}
	if gone := n.Forget(299); gone != 9997 {
		t.Errorf("Forget: %d", gone)
	}
}

// The chapter's example.
func TestExample(t *testing.T) {
	n := made(t, 2, 2)
	send(t, n, 0, 1, "a")
	send(t, n, 1, 0, "b")
	is(t, "Copy", n.Copy(0), api.OK)
	lies(t, n, datum(0, 1, "a"), datum(1, 0, "b"), datum(0, 1, "a"))
	is(t, "Send, full", n.Send(0, 1, []byte("c")), api.ErrFull)
	if d, ok := n.Take(1); !ok || !same(d, datum(1, 0, "b")) {
		t.Errorf("Take: %v, %v", d, ok)
	}
	if ok, gone := n.Drop(0), n.Forget(1); !ok || gone != 1 {
		t.Errorf("Drop: %v, Forget: %d", ok, gone)
	}
	lies(t, n)
}
