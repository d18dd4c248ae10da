package wire_test

import (
	"fmt"
	"slices"
	"testing"

	"cooperage/api"
	"cooperage/wire"
)

// P10.3: what is put is got; an ask is no tell, and a tell no ask.
func TestPutIsGot(t *testing.T) {
	c := chance(1)
	for range 4000 {
		a, x := c.ask(), c.tell()
		asks(t, a)
		tells(t, x)
		b, e := wire.PutAsk(&table, a)
		is(t, "PutAsk", e, api.OK)
		if _, e := wire.GetTell(&table, b); e != api.ErrWire {
			t.Fatalf("GetTell of %s: %d", words(a), e)
		}
		b, e = wire.PutTell(&table, x)
		is(t, "PutTell", e, api.OK)
		if _, e := wire.GetAsk(&table, b); e != api.ErrWire {
			t.Fatalf("GetAsk of %s: %d", words(x), e)
		}
	}
}

// P10.3: the greatest messages that there may be are got, and go over a net.
func TestGreatest(t *testing.T) {
	a := ask(far, far, api.AskPrepare, far, 254, far, slices.Repeat([]byte{255}, shard)...)
	asks(t, a)
	x := api.Tell{Life: far, Seq: far, Op: api.AskDrop, Room: 65536, Bytes: slices.Repeat([]byte{200}, shard)}
	for range 50 {
		x.Infos = append(x.Infos, info(far, 254, far, api.Committed))
	}
	tells(t, x)
	b, e := wire.PutAsk(&table, a)
	is(t, "PutAsk", e, api.OK)
	c, e := wire.PutTell(&table, x)
	is(t, "PutTell", e, api.OK)
	if max(len(b), len(c)) > api.MaxDatum {
		t.Errorf("%d and %d bytes", len(b), len(c))
	}
}

// P10.3: of any two different messages the bytes are different, also by no table, and of one they are the same ones each time.
func TestToldApart(t *testing.T) {
	seen := map[string]string{}
	add := func(b []byte, e api.Errno, name string) {
		is(t, name, e, api.OK)
		if was, there := seen[string(b)]; there && was != name {
			t.Fatalf("%s and %s have the same bytes", name, was)
		}
		seen[string(b)] = name
	}
	small := []int{1, 2, 128, 129}
	for _, n := range small {
		for _, m := range small {
			for op := api.AskPrepare; op <= api.AskDrop; op++ {
				for _, s := range [][]byte{nil, {0}, {1}, {0, 0}, {1, 0}, {1, 1}} {
					for _, a := range []api.Ask{ask(n, m, op, 1, 1, 1, s...), ask(1, 1, op, n, m, 1, s...), ask(1, 1, op, 1, n, m, s...), ask(2, n, op, 1, 1, m, s...)} {
						if wire.RightAsk(a) {
							b, e := wire.PutAsk(nil, a)
							add(b, e, fmt.Sprintf("the ask %+v", a))
						}
					}
					for _, l := range [][]api.Info{nil, {info(n, m, 1, 1)}, {info(1, n, m, 2)}, {info(n, 1, m, 1), info(1, 1, 1, 1)}} {
						for _, x := range []api.Tell{{Life: n, Seq: m, Op: op}, {Life: 1, Seq: 1, Op: op, Room: n, Err: api.Errno(m)}, {Life: 1, Seq: n, Op: op, Room: m}} {
							x.Infos, x.Bytes = l, s
							if wire.RightTell(x) {
								b, e := wire.PutTell(nil, x)
								add(b, e, fmt.Sprintf("the tell %+v", x))
							}
						}
					}
				}
			}
		}
	}
	if len(seen) < 3000 {
		t.Errorf("only %d messages", len(seen))
	}
}

// P10.3: whatever bytes come, by chance or of messages that were cut and put together, they are told apart or refused; what is got has these bytes and no other ones.
func TestWhateverComes(t *testing.T) {
	c := chance(2)
	found := 0
	for range 20000 {
		var b []byte
		switch c.below(3) {
		case 0:
			b = c.bytes(c.below(30))
		case 1:
			b = append(laidAsk(c.ask()), laidTell(c.tell())...)
			b = b[c.below(3)*c.below(len(b))/3:]
			b = b[:c.below(len(b)+1)]
		case 2:
			b = laidAsk(c.ask())
			if c.below(2) == 0 {
				b = laidTell(c.tell())
			}
			for range c.below(3) {
				b[c.below(len(b))] = byte(c.below(256))
			}
		}
		s := sealed(b)
		if gets(t, b) {
			found++
		}
		if a, e := wire.GetAsk(&table, s); e == api.OK {
			again, e := wire.PutAsk(&table, a)
			is(t, "PutAsk", e, api.OK)
			if !slices.Equal(again, s) {
				t.Fatalf("%s has the bytes %s, and others", words(a), words(b))
			}
		}
		if x, e := wire.GetTell(&table, s); e == api.OK {
			again, e := wire.PutTell(&table, x)
			is(t, "PutTell", e, api.OK)
			if !slices.Equal(again, s) {
				t.Fatalf("%s has the bytes %s, and others", words(x), words(b))
			}
		}
		if len(b) > 0 {
			s[c.below(len(s))] ^= byte(1 << c.below(8))
			refuses(t, s, api.ErrSum)
		}
	}
	if found < 1000 {
		t.Errorf("only %d were messages", found)
	}
}
