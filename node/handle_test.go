package node_test

import (
	"bytes"
	"testing"

	"cooperage/api"
	own "cooperage/bytes"
	"cooperage/wire"
)

// P11.3: the bytes of any right ask are answered by the bytes of what Do tells of it; either does the same.
func TestHandle(t *testing.T) {
	c := chance(3)
	for range 100 {
		n, p, d := bothNew(t, 1+c.below(5), 60*c.below(4))
		twin := opened(t, diskOf(t, medium(t, d)), p.size)
		for range 60 {
			a := c.ask(n.Life(), p.size)
			b, e := n.Handle(sent(t, a))
			is(t, "Handle", e, api.OK)
			x, e := twin.Do(a)
			is(t, "Do", e, api.OK)
			want, e := wire.PutTell(&table, x)
			is(t, "PutTell", e, api.OK)
			if !bytes.Equal(b, want) || !sameTell(x, p.do(a)) {
				t.Fatalf("Handle of %s: %s, want %s", words(a), words(b), words(want))
			}
			shows(t, n, p)
			shows(t, twin, p)
		}
	}
}

// P11.3: the greatest answer there may be, of a shard, and of fifty infos.
func TestHandleGreatest(t *testing.T) {
	n, p, _ := bothNew(t, 63, api.MaxShard)
	for k := range 60 {
		a := ask(far, api.AskPrepare, far, 254, far-k, of(k, api.MaxShard)...)
		a.Seq = far
		if x := told(t, n, sent(t, a)); !sameTell(x, p.do(a)) {
			t.Fatalf("Handle: %s", words(x))
		}
	}
	for _, a := range []api.Ask{ask(far, api.AskRead, far, 254, far), ask(far, api.AskRead, far, 254, 0), ask(far, api.AskList, far, 254, far-40), ask(far, api.AskCommit, far, 254, far)} {
		if x := told(t, n, sent(t, a)); !sameTell(x, p.do(a)) {
			t.Fatalf("Handle of %s: %s", words(a), words(x))
		}
	}
	shows(t, n, p)
}

// wrong is bytes of no right ask, and the error of each.
func wrong(t *testing.T) map[string]api.Errno {
	tell, e := wire.PutTell(&table, api.Tell{Life: 1, Seq: 1, Op: api.AskDrop})
	is(t, "PutTell", e, api.OK)
	right := sent(t, ask(1, api.AskDrop, 7, 0, 1))
	open := right[:len(right)-4]
	all := map[string]api.Errno{
		"":                      api.ErrShort,
		"abc":                   api.ErrShort,
		string(right[:3]):       api.ErrShort,
		string(right[1:]):       api.ErrSum,
		string(open):            api.ErrSum,
		string(right) + "\x00":  api.ErrSum,
		"\x00\x00\x00\x00":      api.ErrWire,
		string(tell):            api.ErrWire,
		"\x00\x00\x00\x00\x01":  api.ErrSum,
		string(sealed("")):      api.ErrWire,
		string(sealed("hello")): api.ErrWire,
	}
	for _, b := range [][]byte{open[:len(open)-1], append(bytes.Clone(open), 0), {1, 1, 1, 6, 7, 0, 0, 0}, {1, 0, 1, 6, 7, 0, 1, 0}, {1, 1, 1, 7, 7, 0, 1, 0}, {1, 1, 1, 0, 7, 0, 1, 0}, {1, 1, 1, 6, 7, 0, 1, 1, 9}, {2, 1, 1, 6, 7, 0, 1, 0}, {0, 1, 1, 6, 7, 0, 1, 0}} {
		all[string(sealed(string(b)))] = api.ErrWire
	}
	return all
}

// sealed is a text with its sum behind it.
func sealed(s string) []byte {
	return own.Seal(&table, []byte(s))
}

// P11.3: of all other bytes wire.GetAsk's error, and nothing; nothing is done.
func TestHandleWrong(t *testing.T) {
	n, p, d := bothNew(t, 3, 10)
	does(t, n, p, ask(1, api.AskPrepare, 7, 0, 1, 1))
	d.Arm(0)
	for b, want := range wrong(t) {
		out, e := n.Handle([]byte(b))
		if _, same := wire.GetAsk(&table, []byte(b)); e != want || same != want || len(out) != 0 {
			t.Errorf("Handle(%v): %v, %d, want %d", []byte(b), out, e, want)
		}
		shows(t, n, p)
	}
	out, e := n.Handle(nil)
	if e != api.ErrShort || len(out) != 0 || d.Down() {
		t.Errorf("Handle of nothing: %v, %d; Down %v", out, e, d.Down())
	}
}

// P11.3: ErrEnded and ErrDown come ahead of what is wrong with the bytes; the disk's error behind it, with nothing told.
func TestHandleOrder(t *testing.T) {
	n, p, d := bothNew(t, 3, 10)
	does(t, n, p, ask(1, api.AskPrepare, 7, 0, 1, 1))
	all := wrong(t)
	right := sent(t, ask(1, api.AskDrop, 7, 0, 1))
	refuses := func(b []byte, want api.Errno) {
		t.Helper()
		if out, e := n.Handle(b); e != want || len(out) != 0 {
			t.Errorf("Handle(%v): %v, %d, want %d", b, out, e, want)
		}
	}
	fail(d)
	refuses(right, api.ErrDown)
	for b := range all {
		refuses([]byte(b), api.ErrDown)
	}
	d.Crash(nil)
	shows(t, n, p)
	for operations := range 2 {
		d := diskOf(t, medium(t, d))
		n = opened(t, d, 10)
		d.Arm(operations)
		refuses(right, api.ErrDown)
		for range 2 {
			refuses(right, api.ErrEnded)
			for b := range all {
				refuses([]byte(b), api.ErrEnded)
			}
			d.Crash(nil)
		}
	}
}
