package wire_test

import (
	"fmt"
	"math"
	"testing"

	"cooperage/api"
	"cooperage/wire"
)

// P10.1: all asks whose numbers are small: some below what they may be, none above, of all Ops and some that are none.
func TestAllSmallAsks(t *testing.T) {
	for op := range 9 {
		for n := range 4 * 4 * 3 * 3 * 4 * 2 {
			next := func(m int) int {
				r := n % m
				n /= m
				return r
			}
			a := ask(next(4)-1, next(4)-1, api.NodeOp(op), next(3)-1, next(3)-1, next(4)-1)
			a.Bytes = make([]byte, next(2))
			asks(t, a)
		}
	}
}

// P10.1: all tells whose numbers are small, with up to two infos, right or not.
func TestAllSmallTells(t *testing.T) {
	for op := range 9 {
		for n := range 3 * 3 * 4 * 3 * 2 * 6 {
			next := func(m int) int {
				r := n % m
				n /= m
				return r
			}
			x := api.Tell{Life: next(3) - 1, Seq: next(3) - 1, Op: api.NodeOp(op), Err: api.Errno(next(4) - 1), Room: next(3) - 1}
			x.Bytes = make([]byte, next(2))
			x.Infos = [][]api.Info{nil, {info(0, 0, 1, 1)}, {info(3, 1, 1, 2), info(0, 0, 1, 1)}, {info(0, 0, 0, 1)}, {info(0, 0, 1, 2), info(0, 0, 1, 0)}, {info(0, 0, 1, 3)}}[next(6)]
			tells(t, x)
		}
	}
}

// P10.1: all infos whose numbers are small.
func TestAllSmallInfos(t *testing.T) {
	for n := range 4 * 4 * 4 * 5 {
		i := info(n%4-1, n/4%4-1, n/16%4-1, api.State(n/64))
		x := api.Tell{Life: 1, Seq: 1, Op: api.AskList, Infos: []api.Info{i}}
		if wire.RightTell(x) != (i.Stripe >= 0 && i.Index >= 0 && i.Version >= 1 && (i.State == 1 || i.State == 2)) {
			t.Errorf("%+v: %v", i, wire.RightTell(x))
		}
		tells(t, x)
	}
}

// P10.1: the edges of each number of an ask, of each Op: Life and Seq from 1 to 2^40, Stripe from 0 to 2^40, Index from 0 to 254, Version from 0 or 1 to 2^40.
func TestAskEdges(t *testing.T) {
	for op := api.AskPrepare; op <= api.AskDrop; op++ {
		least := 1
		if op == api.AskRead || op == api.AskList {
			least = 0
		}
		for name, x := range map[string]struct {
			of          func(a *api.Ask) *int
			least, most int
		}{
			"Life":    {func(a *api.Ask) *int { return &a.Life }, 1, far},
			"Seq":     {func(a *api.Ask) *int { return &a.Seq }, 1, far},
			"Stripe":  {func(a *api.Ask) *int { return &a.Stripe }, 0, far},
			"Index":   {func(a *api.Ask) *int { return &a.Index }, 0, 254},
			"Version": {func(a *api.Ask) *int { return &a.Version }, least, far},
		} {
			for n, right := range edges(x.least, x.most) {
				a := ask(1, 1, op, 0, 0, 1)
				*x.of(&a) = n
				if wire.RightAsk(a) != right {
					t.Errorf("the Op %d, the %s %d: %v", op, name, n, !right)
				}
				asks(t, a)
			}
		}
	}
}

// edges is numbers at the edges of what is from least to most, and far from it, and whether they are in it.
func edges(least, most int) map[int]bool {
	out := map[int]bool{least: true, least + 1: true, most: true, most - 1: true, least - 1: false, most + 1: false}
	for _, n := range odd {
		if n < least || n > most {
			out[n] = false
		}
	}
	return out
}

// P10.1: the Op of an ask, and of a tell, from 1 to 6.
func TestOps(t *testing.T) {
	for op := range 256 {
		right := op >= 1 && op <= 6
		a := ask(1, 2, api.NodeOp(op), 3, 4, 5)
		x := api.Tell{Life: 1, Seq: 2, Op: api.NodeOp(op)}
		if wire.RightAsk(a) != right || wire.RightTell(x) != right {
			t.Errorf("the Op %d: %v, %v", op, wire.RightAsk(a), wire.RightTell(x))
		}
		asks(t, a)
		tells(t, x)
	}
}

// P10.1: AskPrepare has at most 2^16 Bytes, all others none.
func TestAskBytes(t *testing.T) {
	for op := range 8 {
		for _, many := range []int{0, 1, 127, 128, shard - 1, shard, shard + 1, 1 << 17} {
			a := ask(9, 8, api.NodeOp(op), 7, 6, 5, make([]byte, many)...)
			if wire.RightAsk(a) != (op == 1 && many <= shard || many == 0 && op >= 1 && op <= 6) {
				t.Errorf("the Op %d, of %d Bytes: %v", op, many, wire.RightAsk(a))
			}
			asks(t, a)
		}
	}
}

// P10.1: the edges of each number of a tell: Life and Seq from 1 to 2^40, Err from 0 to 1000, Room from 0 to 2^16.
func TestTellEdges(t *testing.T) {
	for name, x := range map[string]struct {
		set         func(x *api.Tell, n int)
		least, most int
	}{
		"Life": {func(x *api.Tell, n int) { x.Life = n }, 1, far},
		"Seq":  {func(x *api.Tell, n int) { x.Seq = n }, 1, far},
		"Err":  {func(x *api.Tell, n int) { x.Err = api.Errno(n) }, 0, 1000},
		"Room": {func(x *api.Tell, n int) { x.Room = n }, 0, 1 << 16},
	} {
		for n, right := range edges(x.least, x.most) {
			for op := api.AskPrepare; op <= api.AskDrop; op++ {
				y := api.Tell{Life: 1, Seq: 1, Op: op}
				x.set(&y, n)
				if wire.RightTell(y) != right {
					t.Errorf("the Op %d, the %s %d: %v", op, name, n, !right)
				}
				tells(t, y)
			}
		}
	}
}

// P10.1: the edges of each number of an info, wherever it is: Stripe from 0 to 2^40, Index from 0 to 254, Version from 1 to 2^40, State 1 or 2.
func TestInfoEdges(t *testing.T) {
	for name, x := range map[string]struct {
		set         func(i *api.Info, n int)
		least, most int
	}{
		"Stripe":  {func(i *api.Info, n int) { i.Stripe = n }, 0, far},
		"Index":   {func(i *api.Info, n int) { i.Index = n }, 0, 254},
		"Version": {func(i *api.Info, n int) { i.Version = n }, 1, far},
	} {
		for n, right := range edges(x.least, x.most) {
			for _, at := range []int{0, 1, 25, 49} {
				y := api.Tell{Life: 1, Seq: 1, Op: api.AskList, Infos: infos(50)}
				x.set(&y.Infos[at], n)
				if wire.RightTell(y) != right {
					t.Errorf("the %s %d at %d: %v", name, n, at, !right)
				}
				tells(t, y)
			}
		}
	}
	for state := range 256 {
		y := api.Tell{Life: 1, Seq: 1, Op: api.AskRead, Infos: infos(3)}
		y.Infos[state%3].State = api.State(state)
		if wire.RightTell(y) != (state == 1 || state == 2) {
			t.Errorf("the State %d: %v", state, wire.RightTell(y))
		}
		tells(t, y)
	}
}

// P10.1: a tell has at most 50 Infos, and at most 2^16 Bytes, also both.
func TestTellMany(t *testing.T) {
	for _, many := range []int{0, 1, 2, 49, 50, 51, 127, 128, 1000} {
		for _, bytes := range []int{0, 1, shard - 1, shard, shard + 1, 1 << 17} {
			for op := api.AskPrepare; op <= api.AskDrop; op++ {
				x := api.Tell{Life: far, Seq: far, Op: op, Room: 5, Infos: infos(many), Bytes: make([]byte, bytes)}
				if wire.RightTell(x) != (many <= 50 && bytes <= shard) {
					t.Errorf("the Op %d, %d Infos, %d Bytes: %v", op, many, bytes, wire.RightTell(x))
				}
				tells(t, x)
			}
		}
	}
}

// P10.1: beside an Err there are neither Infos nor Bytes; Room there may be.
func TestBesideErr(t *testing.T) {
	for err := range 1002 {
		x := api.Tell{Life: 1, Seq: 2, Op: api.AskRead, Err: api.Errno(err), Room: 65536}
		for name, y := range map[string]api.Tell{
			"nothing": x,
			"an info": {Life: 1, Seq: 2, Op: api.AskRead, Err: x.Err, Infos: infos(1)},
			"a byte":  {Life: 1, Seq: 2, Op: api.AskRead, Err: x.Err, Bytes: []byte{0}},
			"both":    {Life: 1, Seq: 2, Op: api.AskRead, Err: x.Err, Infos: infos(50), Bytes: make([]byte, 9)},
		} {
			if wire.RightTell(y) != (err == 0 || err <= 1000 && name == "nothing") {
				t.Errorf("beside %d %s: %v", err, name, wire.RightTell(y))
			}
			tells(t, y)
		}
	}
}

// P10.1: the bytes of some messages, one by one.
func TestBytes(t *testing.T) {
	for i, x := range []struct {
		a api.Ask
		b []byte
	}{
		{ask(1, 2, 2, 3, 0, 4), []byte{1, 1, 2, 2, 3, 0, 4, 0}},
		{ask(127, 128, 1, 300, 254, 16384, 9, 200, 0), []byte{1, 127, 128, 1, 1, 172, 2, 254, 1, 128, 128, 1, 3, 9, 200, 0}},
		{ask(far, 5, 5, 0, 0, 0), []byte{1, 128, 128, 128, 128, 128, 32, 5, 5, 0, 0, 0, 0}},
		{ask(1, 1, 4, far, 7, far), []byte{1, 1, 1, 4, 128, 128, 128, 128, 128, 32, 7, 128, 128, 128, 128, 128, 32, 0}},
	} {
		if b, e := wire.PutAsk(&table, x.a); e != api.OK || string(b) != string(sealed(x.b)) {
			t.Errorf("the %d-th ask: %v, %d, want %v", i, b, e, x.b)
		}
	}
	for i, x := range []struct {
		x api.Tell
		b []byte
	}{
		{api.Tell{Life: 1, Seq: 2, Op: 2, Room: 5}, []byte{2, 1, 2, 2, 0, 5, 0, 0}},
		{api.Tell{Life: 200, Seq: 3, Op: 4, Err: 60, Room: 65536}, []byte{2, 200, 1, 3, 4, 60, 128, 128, 4, 0, 0}},
		{api.Tell{Life: 1, Seq: 1, Op: 6, Err: 1000}, []byte{2, 1, 1, 6, 232, 7, 0, 0, 0}},
		{api.Tell{Life: 1, Seq: 2, Op: 4, Room: 1, Infos: []api.Info{info(7, 0, 1, 2)}, Bytes: []byte("ab")}, []byte{2, 1, 2, 4, 0, 1, 1, 7, 0, 1, 2, 2, 97, 98}},
		{api.Tell{Life: 1, Seq: 2, Op: 5, Infos: []api.Info{info(300, 254, 5, 1), info(0, 3, 128, 2)}}, []byte{2, 1, 2, 5, 0, 0, 2, 172, 2, 254, 1, 5, 1, 0, 3, 128, 1, 2, 0}},
	} {
		if b, e := wire.PutTell(&table, x.x); e != api.OK || string(b) != string(sealed(x.b)) {
			t.Errorf("the %d-th tell: %v, %d, want %v", i, b, e, x.b)
		}
	}
}

// P10.1: a message is sealed by the table that is handed in; without one the sum is 0.
func TestSealedByTable(t *testing.T) {
	var other api.Table
	for i := range other {
		other[i] = uint32(i) * 2654435761
	}
	body := []byte{1, 1, 2, 2, 3, 0, 4, 0}
	for name, x := range map[string]struct {
		t    *api.Table
		want string
	}{
		"the table":     {&table, string(sealed(body))},
		"another table": {&other, fmt.Sprintf("%s%s", body, bySum(&other, body))},
		"no table":      {nil, string(body) + "\x00\x00\x00\x00"},
	} {
		b, e := wire.PutAsk(x.t, ask(1, 2, 2, 3, 0, 4))
		if e != api.OK || string(b) != x.want {
			t.Errorf("PutAsk by %s: %v, %d", name, b, e)
		}
		if a, e := wire.GetAsk(x.t, b); e != api.OK || a.Stripe != 3 {
			t.Errorf("GetAsk by %s: %v, %d", name, a, e)
		}
		tell := api.Tell{Life: 1, Seq: 2, Op: 2, Room: 5}
		c, e := wire.PutTell(x.t, tell)
		is(t, "PutTell by "+name, e, api.OK)
		if y, e := wire.GetTell(x.t, c); e != api.OK || !sameTell(y, tell) {
			t.Errorf("GetTell by %s: %v, %d", name, y, e)
		}
	}
	b, _ := wire.PutAsk(&other, ask(1, 2, 2, 3, 0, 4))
	refuses(t, b, api.ErrSum)
	b, _ = wire.PutAsk(nil, ask(1, 2, 2, 3, 0, 4))
	refuses(t, b, api.ErrSum)
}

// bySum is the sum of bytes by a table, byte by byte, the one that weighs most first.
func bySum(t *api.Table, b []byte) string {
	s := uint32(math.MaxUint32)
	for _, c := range b {
		s = s>>8 ^ t[(s^uint32(c))&255]
	}
	s = math.MaxUint32 - s
	return string([]byte{byte(s >> 24), byte(s >> 16), byte(s >> 8), byte(s)})
}
