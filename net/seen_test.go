package net_test

import (
	"testing"

	"cooperage/api"
)

// P7.3: the i-th is told, and lies about still, as often as it is looked at.
func TestLook(t *testing.T) {
	n, want := five(t)
	for range 3 {
		for i := 4; i >= 0; i-- {
			if d, ok := n.Look(i); !ok || !same(d, want[i]) {
				t.Errorf("Look(%d): %v, %v", i, d, ok)
			}
		}
	}
	lies(t, n, want...)
}

// P7.3: no i-th: nothing, and false.
func TestLookNone(t *testing.T) {
	n := made(t, 2, 3)
	for k := range 4 {
		for _, i := range append([]int{k, k + 1}, odd...) {
			if d, ok := n.Look(i); ok || !same(d, api.Datum{}) {
				t.Errorf("Look(%d) of %d: %v, %v", i, k, d, ok)
			}
		}
		n.Send(1, 1, []byte("a"))
	}
}

// P7.3: how many lie about, and for whom, behind each thing that is done; who sent it is all the same.
func TestCounted(t *testing.T) {
	n := made(t, 3, 2)
	counts := func(want ...int) {
		t.Helper()
		total := 0
		for to, many := range want {
			if n.Waiting(to) != many {
				t.Errorf("Waiting(%d): %d, want %d", to, n.Waiting(to), many)
			}
			total += many
		}
		if n.Flying() != total {
			t.Errorf("Flying: %d, want %d", n.Flying(), total)
		}
	}
	counts(0, 0, 0)
	send(t, n, 0, 1, "a")
	counts(0, 1, 0)
	send(t, n, 2, 1, "b")
	counts(0, 2, 0)
	n.Send(0, 1, []byte("c"))
	n.Copy(0)
	n.Copy(9)
	n.Send(0, 3, nil)
	n.Send(3, 0, nil)
	counts(0, 2, 0)
	send(t, n, 1, 2, "d")
	n.Copy(2)
	counts(0, 2, 2)
	n.Look(0)
	n.Take(9)
	n.Drop(-1)
	n.Forget(0)
	n.Forget(3)
	counts(0, 2, 2)
	n.Take(2)
	counts(0, 2, 1)
	n.Drop(0)
	counts(0, 1, 1)
	n.Forget(1)
	counts(0, 0, 1)
	n.Forget(2)
	counts(0, 0, 0)
}

// P7.3: for what is no station nothing lies about.
func TestWaitingNoStation(t *testing.T) {
	n := made(t, 2, 2)
	send(t, n, 0, 1, "a")
	for _, to := range append([]int{2, 3, 299, 300}, odd...) {
		if n.Waiting(to) != 0 {
			t.Errorf("Waiting(%d): %d", to, n.Waiting(to))
		}
	}
}
