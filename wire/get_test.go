package wire_test

import (
	"fmt"
	"math"
	"slices"
	"testing"

	"cooperage/api"
	own "cooperage/bytes"
	"cooperage/wire"
)

// some is messages of all kinds, without their sums.
func some() map[string][]byte {
	return map[string][]byte{
		"a commit":   laidAsk(ask(1, 2, 2, 3, 0, 4)),
		"a prepare":  laidAsk(ask(200, 300, 1, 5, 254, 1<<20, 1, 2, 3, 0, 255)),
		"a great":    laidAsk(ask(far, far, 6, far, 254, far)),
		"a read":     laidAsk(ask(1, 1, 4, 0, 0, 0)),
		"a list":     laidAsk(ask(3, 130, 5, 127, 128, 0)),
		"a tell":     laidTell(api.Tell{Life: 1, Seq: 2, Op: 2, Room: 5}),
		"an error":   laidTell(api.Tell{Life: 1, Seq: 2, Op: 4, Err: 1000, Room: 300}),
		"a read's":   laidTell(api.Tell{Life: 9, Seq: 2, Op: 4, Room: 65536, Infos: []api.Info{info(7, 0, 1, 2)}, Bytes: []byte{97, 0, 98}}),
		"a list's":   laidTell(api.Tell{Life: 1, Seq: far, Op: 5, Infos: []api.Info{info(far, 254, far, 1), info(0, 0, 1, 2), info(3, 130, 127, 1)}}),
		"fifty told": laidTell(api.Tell{Life: 1, Seq: 1, Op: 5, Infos: infos(50)}),
	}
}

// P10.2: fewer than four bytes: ErrShort, whatever they are.
func TestShort(t *testing.T) {
	refuses(t, nil, api.ErrShort)
	refuses(t, []byte{}, api.ErrShort)
	for _, b := range [][]byte{{0}, {1}, {2}, {1, 1}, {2, 1}, {0, 0, 0}, {1, 1, 2}, {255, 255, 255}} {
		refuses(t, b, api.ErrShort)
	}
}

// P10.2: any byte of a message, or of its sum, that is another one: ErrSum, whatever else is wrong; so is a message that is cut.
func TestOtherSum(t *testing.T) {
	for _, b := range some() {
		b = sealed(b)
		for i := range b {
			for _, x := range []byte{1, 2, 3, 64, 128, 255} {
				other := slices.Clone(b)
				other[i] ^= x
				refuses(t, other, api.ErrSum)
			}
			if i < 4 {
				refuses(t, b[:i], api.ErrShort)
			} else {
				refuses(t, b[:i], api.ErrSum)
			}
		}
	}
	refuses(t, []byte{1, 2, 3, 4, 5}, api.ErrSum)
	refuses(t, []byte{0, 0, 0, 1}, api.ErrSum)
}

// P10.2: what is sealed, but no message: ErrWire.
func TestSealedOther(t *testing.T) {
	for _, b := range [][]byte{
		nil, {0}, {1}, {2}, {3}, {255}, {128}, {1, 1, 2, 2, 3, 0, 4}, {2, 1, 2, 2, 0, 5, 0}, {0, 1, 2, 2, 3, 0, 4, 0}, {3, 1, 2, 2, 3, 0, 4, 0},
		{1, 1, 2, 2, 3, 0, 4, 1}, {1, 1, 2, 2, 3, 0, 4, 0, 0}, {2, 1, 2, 2, 0, 5, 0, 0, 0}, {2, 1, 2, 2, 0, 5, 1, 0}, {2, 1, 2, 2, 0, 5, 0, 1},
		{1, 1, 2, 0, 3, 0, 4, 0}, {1, 1, 2, 7, 3, 0, 4, 0}, {1, 0, 2, 2, 3, 0, 4, 0}, {1, 1, 0, 2, 3, 0, 4, 0}, {1, 1, 2, 2, 3, 0, 0, 0}, {1, 1, 2, 2, 3, 0, 4, 1, 9},
		{2, 1, 2, 2, 1, 5, 0, 1, 9}, {2, 1, 2, 2, 1, 5, 1, 7, 0, 1, 2, 0}, {2, 1, 2, 2, 0, 5, 1, 7, 0, 1, 0, 0}, {2, 1, 2, 2, 0, 5, 1, 7, 0, 1, 3, 0}, {2, 1, 2, 2, 0, 5, 1, 7, 0, 0, 1, 0},
	} {
		refuses(t, sealed(b), api.ErrWire)
		gets(t, b)
	}
	refuses(t, []byte{0, 0, 0, 0}, api.ErrWire)
}

// P10.2: messages, without their sums, with all ends of a few bytes.
func TestAllShortEnds(t *testing.T) {
	kinds := []byte{0, 1, 2, 3, 127, 128, 255}
	found := 0
	var lay func(b []byte, more int)
	lay = func(b []byte, more int) {
		if gets(t, b) {
			found++
		}
		for _, x := range kinds {
			if more > 0 {
				lay(append(slices.Clone(b), x), more-1)
			}
		}
	}
	lay(nil, 4)
	for op := range byte(7) {
		lay([]byte{1, 1, 2, op}, 4)
		lay([]byte{1, 1, 2, op, 128}, 4)
	}
	for _, b := range [][]byte{{2, 1, 2, 4}, {2, 1, 2, 4, 0, 5}, {2, 1, 2, 4, 0, 0, 1}, {2, 1, 2, 4, 0, 0, 1, 5, 128}, {2, 1, 2, 5, 0, 0, 2, 5, 1, 1, 1}} {
		lay(b, 4)
	}
	if found < 200 {
		t.Errorf("only %d were messages", found)
	}
}

// P10.2: messages of which one byte is another one, is gone, or is there once more, sealed anew.
func TestSpoilt(t *testing.T) {
	for _, b := range some() {
		step := 1 + len(b)/20 // a long one is not spoilt in all ways
		for i := range b {
			gets(t, b[:i])
			gets(t, b[i:])
			gets(t, slices.Delete(slices.Clone(b), i, i+1))
			for _, x := range []int{0, 1, 2, 127, 128, 129, 255, int(b[i])} {
				gets(t, slices.Insert(slices.Clone(b), i, byte(x)))
			}
			for x := i % step; x < 256; x += step {
				other := slices.Clone(b)
				other[i] = byte(x)
				gets(t, other)
			}
		}
		for x := range 256 {
			refuses(t, sealed(append(slices.Clone(b), byte(x))), api.ErrWire)
		}
		refuses(t, sealed(append(slices.Clone(b), b...)), api.ErrWire)
		refuses(t, sealed(sealed(b)), api.ErrWire)
	}
}

// greats are numbers at, and above, what each number may be; some are above what an int, or a byte, has.
var greats = []uint64{0, 1, 2, 3, 6, 7, 49, 50, 51, 127, 128, 254, 255, 256, 257, 258, 262, 512, 513, 999, 1000, 1001, 1<<16 - 1, 1 << 16, 1<<16 + 1, 1 << 17, 1<<31 + 1, 1 << 32, 1<<32 + 1, 1<<32 + 2,
	far - 1, far, far + 1, 1 << 41, 1<<48 + 1, 1<<62 + 1, math.MaxInt64, 1 << 63, 1<<63 + 1, 1<<63 + 2, math.MaxUint64 - 1, math.MaxUint64}

// P10.2: each number of a message in turn, by each great one.
func TestNumbers(t *testing.T) {
	for _, l := range [][]uint64{
		{1, 1, 2, 2, 3, 0, 4, 0}, {1, 1, 2, 4, 3, 0, 0, 0}, {1, 5, 2, 1, 3, 0, 4, 3, 1, 2, 3}, {2, 1, 2, 2, 0, 5, 0, 0}, {2, 1, 2, 2, 60, 5, 0, 0},
		{2, 1, 2, 4, 0, 5, 1, 7, 0, 1, 2, 2, 97, 98}, {2, 1, 2, 5, 0, 5, 2, 7, 0, 1, 2, 7, 1, 1, 1, 0},
	} {
		if !gets(t, numbers(l...)) {
			t.Fatalf("%v are no message", l)
		}
		for i := range l {
			for _, n := range greats {
				m := slices.Clone(l)
				m[i] = n
				gets(t, numbers(m...))
				gets(t, numbers(m[:i+1]...))
				if n > far && i < 8 {
					refuses(t, sealed(numbers(m...)), api.ErrWire)
				}
			}
		}
	}
}

// P10.2: behind a number that is too great no other one stands for it.
func TestTooGreatAndMore(t *testing.T) {
	l := []uint64{2, 1, 2, 4, 0, 5, 1, 7, 0, 1, 2, 0}
	for i := range l {
		for _, n := range greats {
			gets(t, numbers(slices.Insert(slices.Clone(l), i, n)...))
			gets(t, numbers(slices.Insert(slices.Clone(l[:8]), i%8, n)...))
		}
	}
}

// P10.2: a number that is too great is not taken for how long a string is, though so many bytes are behind it.
func TestTooGreatAsLength(t *testing.T) {
	for _, l := range [][]uint64{{1, 1, 2, 1, 3, 0, 4}, {1, 1, 2, 4, 3, 0, 0}, {2, 1, 2, 4, 0, 5, 0}, {2, 1, 2, 4, 0, 5, 1, 7, 0, 1, 2}} {
		for i := range l {
			for _, n := range []int{7, 51, 255, 256, 1001, 1002, shard - 1, shard} {
				gets(t, laid(make([]byte, n), whole(l[:i])...))
				gets(t, append(laid(slices.Repeat([]byte{1}, n), whole(l[:i])...), 0))
			}
		}
	}
	refuses(t, sealed(laid(make([]byte, 1001), 2, 1, 2, 4)), api.ErrWire)
	refuses(t, sealed(laid(make([]byte, 51), 2, 1, 2, 4, 0, 5)), api.ErrWire)
}

// P10.2: a number in another form than bytes.Uint's is none.
func TestOtherForms(t *testing.T) {
	for name, b := range some() {
		l, ends := cut(b)
		for i := range min(len(l), 8) {
			digit := ends[i] - 1
			for many := 1; many < 11; many++ {
				other := slices.Clone(b[:ends[i]])
				other[digit] += 128
				for range many - 1 {
					other = append(other, 128)
				}
				other = append(append(other, 0), b[ends[i]:]...)
				refuses(t, sealed(other), api.ErrWire)
				gets(t, other)
			}
			if l[i] > 127 {
				refuses(t, sealed(slices.Delete(slices.Clone(b), digit, digit+1)), api.ErrWire)
			}
		}
		if len(l) < 8 {
			t.Errorf("%s has %d numbers", name, len(l))
		}
	}
}

// P10.2: how many bytes are said, and how many there are, at the edges of both.
func TestLengths(t *testing.T) {
	for _, there := range []int{0, 1, 2, 127, 128, 129, 1000, shard - 1, shard, shard + 1} {
		for _, said := range []int{there - 1, there, there + 1, shard, 1 << 40, math.MaxInt, -1} {
			s := make([]byte, there)
			for i := range s {
				s[i] = byte(i * 7)
			}
			for _, b := range [][]byte{{1, 1, 2, 1, 3, 0, 4}, {2, 1, 2, 4, 0, 5, 1, 7, 0, 1, 2}, {2, 1, 2, 4, 0, 5, 0}} {
				b = append(append(b, numbers(uint64(said))...), s...)
				want := api.ErrWire
				if said == there && there <= shard {
					want = api.OK
				}
				_, e := wire.GetAsk(&table, sealed(b))
				if b[0] == 2 {
					_, e = wire.GetTell(&table, sealed(b))
				}
				is(t, fmt.Sprintf("kind %d, %d said, %d there", b[0], said, there), e, want)
			}
		}
	}
}

// P10.2: how many infos are said, and how many there are.
func TestCounts(t *testing.T) {
	for there := range 54 {
		for said := range 54 {
			b := numbers(2, 1, 2, 5, 0, 5, uint64(said))
			for _, i := range infos(there) {
				b = append(b, numbers(uint64(i.Stripe), uint64(i.Index), uint64(i.Version), uint64(i.State))...)
			}
			b = append(b, 0)
			want := api.ErrWire
			if said == there && there <= 50 {
				want = api.OK
			}
			x, e := wire.GetTell(&table, sealed(b))
			is(t, fmt.Sprintf("%d said, %d there", said, there), e, want)
			if e == api.OK && !slices.Equal(x.Infos, infos(there)) {
				t.Fatalf("of %d infos came %v", there, x.Infos)
			}
			gets(t, b)
		}
	}
}

// P10.2: of several errors the first one: short ahead of the sum, the sum ahead of what is no message.
func TestFirstError(t *testing.T) {
	refuses(t, []byte{9, 9, 9}, api.ErrShort)
	refuses(t, []byte{9, 9, 9, 9}, api.ErrSum)
	refuses(t, append([]byte{9, 9, 9, 9}, 0, 0, 0, 0), api.ErrSum)
	refuses(t, own.Seal(&table, []byte{9, 9, 9, 9}), api.ErrWire)
	a := own.Seal(&table, laidAsk(ask(1, 2, 2, 3, 0, 4)))
	x := own.Seal(&table, laidTell(api.Tell{Life: 1, Seq: 2, Op: 2, Room: 5}))
	if _, e := wire.GetTell(&table, a); e != api.ErrWire {
		t.Errorf("GetTell of an ask: %d", e)
	}
	if _, e := wire.GetAsk(&table, x); e != api.ErrWire {
		t.Errorf("GetAsk of a tell: %d", e)
	}
	a[0], x[0] = 2, 1
	refuses(t, a, api.ErrSum)
	refuses(t, x, api.ErrSum)
}
