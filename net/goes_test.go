package net_test

import (
	"slices"
	"testing"

	"cooperage/api"
	"cooperage/net"
)

// five is a net with five datagrams, and these.
func five(t *testing.T) (*net.Net, []api.Datum) {
	t.Helper()
	n := made(t, 3, 10)
	want := []api.Datum{datum(0, 1, "a"), datum(1, 0, "b"), datum(0, 1, "c"), datum(2, 2, ""), datum(1, 1, "d")}
	for _, d := range want {
		send(t, n, d.From, d.To, string(d.Bytes))
	}
	lies(t, n, want...)
	return n, want
}

// P7.2: the i-th goes, whichever that is; the others lie as before, closer together.
func TestTake(t *testing.T) {
	for i := range 5 {
		n, want := five(t)
		if d, ok := n.Take(i); !ok || !same(d, want[i]) {
			t.Errorf("Take(%d): %v, %v", i, d, ok)
		}
		want = slices.Delete(want, i, i+1)
		lies(t, n, want...)
		for j := range 4 {
			n, want := five(t)
			n.Take(i)
			want = slices.Delete(want, i, i+1)
			if d, ok := n.Take(j); !ok || !same(d, want[j]) {
				t.Errorf("Take(%d), Take(%d): %v, %v", i, j, d, ok)
			}
			lies(t, n, slices.Delete(want, j, j+1)...)
		}
	}
}

// P7.2: what is dropped goes likewise.
func TestDrop(t *testing.T) {
	for i := range 5 {
		n, want := five(t)
		if !n.Drop(i) {
			t.Errorf("Drop(%d)", i)
		}
		want = slices.Delete(want, i, i+1)
		lies(t, n, want...)
		for len(want) > 0 {
			last := len(want) - 1
			if n.Drop(last+1) || !n.Drop(last) {
				t.Errorf("Drop(%d), Drop(%d)", last+1, last)
			}
			want = want[:last]
			lies(t, n, want...)
		}
		if n.Drop(0) {
			t.Error("Drop of nothing")
		}
	}
}

// P7.2: no i-th: nothing goes.
func TestNoneGoes(t *testing.T) {
	n := made(t, 3, 3)
	none := func(i int) {
		if d, ok := n.Take(i); ok || !same(d, api.Datum{}) {
			t.Errorf("Take(%d): %v, %v", i, d, ok)
		}
		if n.Drop(i) {
			t.Errorf("Drop(%d)", i)
		}
	}
	var want []api.Datum
	for k := range 4 {
		for _, i := range append([]int{k, k + 1, k + 300}, odd...) {
			none(i)
		}
		lies(t, n, want...)
		if k < 3 {
			send(t, n, 1, 2, "a")
			want = append(want, datum(1, 2, "a"))
		}
	}
}

// P7.2: all for a station go, and none else; from whom, and whether copied, is all the same.
func TestForget(t *testing.T) {
	for to, many := range []int{1, 3, 1} {
		n, want := five(t)
		is(t, "Copy", n.Copy(4), api.OK)
		want = append(want, want[4])
		if to == 1 {
			many++
		}
		if gone := n.Forget(to); gone != many {
			t.Errorf("Forget(%d): %d, want %d", to, gone, many)
		}
		want = slices.DeleteFunc(want, func(d api.Datum) bool { return d.To == to })
		lies(t, n, want...)
		if gone := n.Forget(to); gone != 0 {
			t.Errorf("Forget(%d) again: %d", to, gone)
		}
		lies(t, n, want...)
		send(t, n, 0, to, "e")
		lies(t, n, append(want, datum(0, to, "e"))...)
	}
}

// P7.2: for a station for which there is nothing, and for none, nothing goes.
func TestForgetNothing(t *testing.T) {
	n := made(t, 300, 10)
	for _, to := range append([]int{0, 1, 299, 300}, odd...) {
		if gone := n.Forget(to); gone != 0 {
			t.Errorf("Forget(%d) of nothing: %d", to, gone)
		}
	}
	send(t, n, 1, 2, "a")
	send(t, n, 2, 3, "b")
	for _, to := range append([]int{0, 1, 4, 299, 300}, odd...) {
		if gone := n.Forget(to); gone != 0 {
			t.Errorf("Forget(%d): %d", to, gone)
		}
	}
	lies(t, n, datum(1, 2, "a"), datum(2, 3, "b"))
}

// P7.2, Limits: 10000 taken, dropped, forgotten, from the front, from behind, and from between.
func TestManyGo(t *testing.T) {
	filled := func() *net.Net {
		n := made(t, 2, 10000)
		for k := range 10000 {
			send(t, n, k%2, k/2%2, string(of(k, 3)))
		}
		return n
	}
	n := filled()
	want := all(n)
	for k := 10000; k > 0; k-- {
		i := k * 7919 % k
		if k%5 > 0 {
			i = (k % 3) * (k - 1) / 2
		}
		if d, ok := n.Take(i); !ok || !same(d, want[i]) {
			t.Fatalf("Take(%d) of %d: %v, %v", i, k, d, ok)
		}
		want = slices.Delete(want, i, i+1)
	}
	lies(t, n)
	n = filled()
	if gone := n.Forget(0); gone != 5000 || n.Flying() != 5000 {
		t.Errorf("Forget: %d, %d left", gone, n.Flying())
	}
	if gone := n.Forget(1); gone != 5000 {
		t.Errorf("Forget: %d", gone)
	}
	lies(t, n)
}
