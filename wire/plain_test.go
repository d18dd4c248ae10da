package wire_test

import (
	"encoding/binary"
	"fmt"
	"hash/crc32"
	"math"
	"slices"
	"testing"

	"cooperage/api"
	own "cooperage/bytes"
	"cooperage/wire"
)

const (
	far   = 1 << 40 // the greatest Life, Seq, Stripe and Version
	shard = 1 << 16 // the most bytes of a shard
)

// table is the table that messages are sealed by.
var table = own.Table()

// castagnoli is the library's, for the same sums.
var castagnoli = crc32.MakeTable(crc32.Castagnoli)

// odd are numbers that are far from what a number of a message may be.
var odd = []int{-1, -2, -128, -256, -1 << 32, -1 << 40, math.MinInt, math.MinInt + 1, math.MaxInt, 1 << 41, far + 1, 1<<41 + 1, 1 << 48, 1<<56 + 1, 1 << 62}

// is holds an error against the one that has to be.
func is(t *testing.T, what string, e, want api.Errno) {
	t.Helper()
	if e != want {
		t.Fatalf("%s: %d, want %d", what, e, want)
	}
}

// ask is an ask.
func ask(life, seq int, op api.NodeOp, stripe, index, version int, b ...byte) api.Ask {
	return api.Ask{Life: life, Seq: seq, Op: op, Stripe: stripe, Index: index, Version: version, Bytes: b}
}

// info is an info.
func info(stripe, index, version int, state api.State) api.Info {
	return api.Info{Stripe: stripe, Index: index, Version: version, State: state}
}

// infos is so many right infos, none as another one.
func infos(many int) []api.Info {
	var out []api.Info
	for i := range many {
		out = append(out, info(1000*i, i%255, i+1, api.State(1+i%2)))
	}
	return out
}

// between tells whether n is from least to most.
func between(least, n, most int) bool {
	return n >= least && n <= most
}

// rightAsk is RightAsk by the chapter's words, in another way: what may be of each Op stands beside it.
func rightAsk(a api.Ask) bool {
	rule, known := map[api.NodeOp]struct{ version, bytes int }{1: {1, shard}, 2: {1, 0}, 3: {1, 0}, 4: {0, 0}, 5: {0, 0}, 6: {1, 0}}[a.Op]
	return known && between(1, a.Life, far) && between(1, a.Seq, far) &&
		between(0, a.Stripe, far) && between(0, a.Index, 254) && between(rule.version, a.Version, far) && len(a.Bytes) <= rule.bytes
}

// rightInfo tells whether an info is right, in the same way.
func rightInfo(i api.Info) bool {
	return between(0, i.Stripe, far) && between(0, i.Index, 254) && between(1, i.Version, far) && between(1, int(i.State), 2)
}

// rightTell is RightTell by the chapter's words.
func rightTell(x api.Tell) bool {
	wrong := slices.ContainsFunc(x.Infos, func(i api.Info) bool { return !rightInfo(i) })
	empty := len(x.Infos)+len(x.Bytes) == 0
	return !wrong && between(1, x.Life, far) && between(1, x.Seq, far) && between(1, int(x.Op), 6) && between(0, int(x.Err), 1000) &&
		len(x.Infos) <= 50 && len(x.Bytes) <= shard && between(0, x.Room, 65536) && (x.Err == 0 || empty)
}

// numbers is numbers as bytes, one behind the other.
func numbers(l ...uint64) []byte {
	var b []byte
	for _, n := range l {
		b = binary.AppendUvarint(b, n)
	}
	return b
}

// laid is numbers as bytes, and a string behind them.
func laid(s []byte, l ...int) []byte {
	var b []byte
	for _, n := range append(l, len(s)) {
		b = append(b, numbers(uint64(n))...)
	}
	return append(b, s...)
}

// laidAsk is the bytes of an ask, right or not, without their sum.
func laidAsk(a api.Ask) []byte {
	return laid(a.Bytes, 1, a.Life, a.Seq, int(a.Op), a.Stripe, a.Index, a.Version)
}

// laidTell is the bytes of a tell, right or not, without their sum.
func laidTell(x api.Tell) []byte {
	l := []int{2, x.Life, x.Seq, int(x.Op), int(x.Err), x.Room, len(x.Infos)}
	for _, i := range x.Infos {
		l = append(l, i.Stripe, i.Index, i.Version, int(i.State))
	}
	return laid(x.Bytes, l...)
}

// sealed is b with the library's sum behind it.
func sealed(b []byte) []byte {
	return binary.BigEndian.AppendUint32(slices.Clone(b), crc32.Checksum(b, castagnoli))
}

// cut is all numbers at the beginning of b, and how far each of them goes: whatever they stand for.
func cut(b []byte) (l []uint64, ends []int) {
	for at := 0; at < len(b); {
		n, size := binary.Uvarint(b[at:])
		if size <= 0 {
			break
		}
		at += size
		l, ends = append(l, n), append(ends, at)
	}
	return l, ends
}

// whole is numbers as ints; one that no int has is -1, which is right nowhere.
func whole(l []uint64) []int {
	var out []int
	for _, n := range l {
		if n > math.MaxInt {
			n = math.MaxUint64
		}
		out = append(out, int(n))
	}
	return out
}

// readAsk tells of which right ask b are the bytes, without their sum: whatever the numbers are is taken for one, which is laid anew.
func readAsk(b []byte) (api.Ask, bool) {
	l, ends := cut(b)
	if len(l) < 8 || l[3] > 255 {
		return api.Ask{}, false
	}
	n := whole(l)
	a := ask(n[1], n[2], api.NodeOp(n[3]), n[4], n[5], n[6], b[ends[7]:]...)
	if !rightAsk(a) || !slices.Equal(laidAsk(a), b) {
		return api.Ask{}, false
	}
	return a, true
}

// readTell tells of which right tell b are the bytes, in the same way.
func readTell(b []byte) (api.Tell, bool) {
	l, ends := cut(b)
	if len(l) < 8 || l[3] > 255 || l[6] > 50 || len(l) < 8+4*int(l[6]) {
		return api.Tell{}, false
	}
	n := whole(l)
	x := api.Tell{Life: n[1], Seq: n[2], Op: api.NodeOp(n[3]), Err: api.Errno(n[4]), Room: n[5]}
	for at := 7; at < 7+4*n[6]; at += 4 {
		if l[at+3] > 255 {
			return api.Tell{}, false
		}
		x.Infos = append(x.Infos, info(n[at], n[at+1], n[at+2], api.State(n[at+3])))
	}
	x.Bytes = b[ends[7+4*n[6]]:]
	if !rightTell(x) || !slices.Equal(laidTell(x), b) {
		return api.Tell{}, false
	}
	return x, true
}

// sameAsk tells whether two asks are the same.
func sameAsk(a, b api.Ask) bool {
	return a.Life == b.Life && a.Seq == b.Seq && a.Op == b.Op && a.Stripe == b.Stripe && a.Index == b.Index && a.Version == b.Version && slices.Equal(a.Bytes, b.Bytes)
}

// sameTell tells whether two tells are the same.
func sameTell(x, y api.Tell) bool {
	return x.Life == y.Life && x.Seq == y.Seq && x.Op == y.Op && x.Err == y.Err && x.Room == y.Room && slices.Equal(x.Infos, y.Infos) && slices.Equal(x.Bytes, y.Bytes)
}

// words is anything in words, not all of a long thing.
func words(x any) string {
	return fmt.Sprintf("%.300s", fmt.Sprintf("%+v", x))
}

// asks holds RightAsk, and what PutAsk answers, against the plain ones; what was put is got.
func asks(t *testing.T, a api.Ask) {
	t.Helper()
	right := rightAsk(a)
	if wire.RightAsk(a) != right {
		t.Fatalf("RightAsk(%s): %v", words(a), !right)
	}
	b, e := wire.PutAsk(&table, a)
	if !right {
		if e != api.ErrWire || len(b) != 0 {
			t.Fatalf("PutAsk(%s): %d bytes, %d, want ErrWire", words(a), len(b), e)
		}
		refuses(t, sealed(laidAsk(a)), api.ErrWire)
		return
	}
	if e != api.OK || !slices.Equal(b, sealed(laidAsk(a))) {
		t.Fatalf("PutAsk(%s): %s, %d, want %s", words(a), words(b), e, words(sealed(laidAsk(a))))
	}
	if c, e := wire.GetAsk(&table, b); e != api.OK || !sameAsk(c, a) {
		t.Fatalf("GetAsk of %s: %s, %d", words(a), words(c), e)
	}
}

// tells holds RightTell, and what PutTell answers, against the plain ones; what was put is got.
func tells(t *testing.T, x api.Tell) {
	t.Helper()
	right := rightTell(x)
	if wire.RightTell(x) != right {
		t.Fatalf("RightTell(%s): %v", words(x), !right)
	}
	b, e := wire.PutTell(&table, x)
	if !right {
		if e != api.ErrWire || len(b) != 0 {
			t.Fatalf("PutTell(%s): %d bytes, %d, want ErrWire", words(x), len(b), e)
		}
		refuses(t, sealed(laidTell(x)), api.ErrWire)
		return
	}
	if e != api.OK || !slices.Equal(b, sealed(laidTell(x))) {
		t.Fatalf("PutTell(%s): %s, %d, want %s", words(x), words(b), e, words(sealed(laidTell(x))))
	}
	if y, e := wire.GetTell(&table, b); e != api.OK || !sameTell(y, x) {
		t.Fatalf("GetTell of %s: %s, %d", words(x), words(y), e)
	}
}

// refuses holds GetAsk and GetTell of bytes to one error, and nothing beside it.
func refuses(t *testing.T, b []byte, want api.Errno) {
	t.Helper()
	if a, e := wire.GetAsk(&table, b); e != want || !sameAsk(a, api.Ask{}) {
		t.Fatalf("GetAsk(%s), %d bytes: %s, %d, want %d", words(b), len(b), words(a), e, want)
	}
	if x, e := wire.GetTell(&table, b); e != want || !sameTell(x, api.Tell{}) {
		t.Fatalf("GetTell(%s), %d bytes: %s, %d, want %d", words(b), len(b), words(x), e, want)
	}
}

// gets holds GetAsk and GetTell of bytes, whose sum is put behind them, against the plain ones; it tells whether they were a message.
func gets(t *testing.T, b []byte) bool {
	t.Helper()
	a, asked := readAsk(b)
	g, e := wire.GetAsk(&table, sealed(b))
	if e != unless(asked) || !sameAsk(g, a) {
		t.Fatalf("GetAsk(%s), %d bytes: %s, %d, want %s, %d", words(b), len(b), words(g), e, words(a), unless(asked))
	}
	x, told := readTell(b)
	h, e := wire.GetTell(&table, sealed(b))
	if e != unless(told) || !sameTell(h, x) {
		t.Fatalf("GetTell(%s), %d bytes: %s, %d, want %s, %d", words(b), len(b), words(h), e, words(x), unless(told))
	}
	if asked && told {
		t.Fatalf("%s are both", words(b))
	}
	return asked || told
}

// unless is ErrWire, unless bytes are a message.
func unless(there bool) api.Errno {
	if there {
		return api.OK
	}
	return api.ErrWire
}

// chance is numbers by a rule from a seed.
type chance uint32

// below is the next one, from 0 on and below n.
func (c *chance) below(n int) int {
	*c = *c*1664525 + 1013904223
	return int(*c>>8) % n
}

// number is one from least to most, often at an edge of a form, or of what may be.
func (c *chance) number(least, most int) int {
	n := []int{least, least + 1, 2, 127, 128, 129, 255, 256, 16383, 16384, 1 << 21, 1<<35 - 1, most - 1, most, c.below(1 << 20)}[c.below(15)]
	return min(max(n, least), most)
}

// bytes is so many bytes.
func (c *chance) bytes(many int) []byte {
	var b []byte
	for range many {
		b = append(b, byte(c.below(256)))
	}
	return b
}

// ask is a right ask.
func (c *chance) ask() api.Ask {
	a := ask(c.number(1, far), c.number(1, far), api.NodeOp(1+c.below(6)), c.number(0, far), c.number(0, 254), c.number(1, far))
	switch a.Op {
	case 1:
		a.Bytes = c.bytes(c.below(300))
	case 4, 5:
		a.Version = c.number(0, far)
	}
	return a
}

// tell is a right tell.
func (c *chance) tell() api.Tell {
	x := api.Tell{Life: c.number(1, far), Seq: c.number(1, far), Op: api.NodeOp(1 + c.below(6)), Room: c.number(0, 65536)}
	if c.below(3) == 0 {
		x.Err = api.Errno(c.number(1, 1000))
		return x
	}
	for range c.below(51) {
		x.Infos = append(x.Infos, info(c.number(0, far), c.number(0, 254), c.number(1, far), api.State(1+c.below(2))))
	}
	x.Bytes = c.bytes(c.below(300))
	return x
}
