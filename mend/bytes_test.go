package mend_test

import (
	"bytes"
	"fmt"
	"math"
	"slices"
	"strings"
	"testing"

	"cooperage/api"
	"cooperage/code"
	"cooperage/mend"
)

// tellsBytes holds a Bytes against what it has to be.
func tellsBytes(t *testing.T, c *code.Code, m api.Mend, index int, want []byte, refused api.Errno) {
	t.Helper()
	if b, e := mend.Bytes(c, m, index); e != refused || !bytes.Equal(b, want) {
		t.Fatalf("Bytes(%d of %d, %.200s, %d): %.100q, %d, want %.100q, %d", c.Need(), c.All(), words(m), index, b, e, want, refused)
	}
}

// fetchedOf is the mending of as many indexes as there are shards, of which those were read, in that order; of the others nothing is known.
func fetchedOf(need int, which []int, shards [][]byte) api.Mend {
	m, _ := mend.Begin(7, 5, len(shards), need)
	for _, index := range which {
		m.Marks[index].Mark = api.MendRead
		m.Which, m.Shards = append(m.Which, index), append(m.Shards, shards[index])
	}
	if len(which) == len(shards) {
		m.Marks[which[0]].Mark = api.MendThere
	}
	return m
}

// P14.2, P14.5: all small codes, with all choices of shards, in all orders: each index's shard is the right one, whichever were read.
func TestBytesOfAllChoices(t *testing.T) {
	c := chance(7)
	for n := 1; n <= 5; n++ {
		for k := 1; k <= min(n, 4); k++ {
			x := made(k, n)
			shards, _ := x.Encode(c.stripe(k, 3))
			choices(n, k, func(which []int) {
				m := fetchedOf(k, which, shards)
				for index := range n {
					if len(which) == k {
						tellsBytes(t, x, m, index, shards[index], api.OK)
					} else {
						tellsBytes(t, x, m, index, nil, api.ErrNow)
					}
				}
			})
		}
	}
}

// P14.2: shards of no byte, and of the most; a code of 255 shards.
func TestBytesEdges(t *testing.T) {
	c := chance(8)
	for _, x := range []struct{ k, n, size int }{{1, 1, 0}, {1, 1, long}, {2, 3, 0}, {2, 3, long}, {1, 255, 9}, {100, 255, 9}, {255, 255, 9}, {128, 255, 1}} {
		a := made(x.k, x.n)
		shards, _ := a.Encode(c.stripe(x.k, x.size))
		var which []int
		for len(which) < x.k {
			if i := c.below(x.n); !slices.Contains(which, i) {
				which = append(which, i)
			}
		}
		m := fetchedOf(x.k, which, shards)
		for _, index := range []int{0, which[0], c.below(x.n), x.n - 1} {
			tellsBytes(t, a, m, index, shards[index], api.OK)
		}
	}
}

// P14.2: Which and Shards are Rebuild's whatever they are: shards of no one stripe, too, and whatever the marks, and the phase.
func TestBytesOfAnyShards(t *testing.T) {
	many := 0
	codes := map[int]*code.Code{1: made(1, 2), 2: made(2, 2)}
	smallRight(2, 5, 2, rightWords, func(m api.Mend) {
		if len(m.Marks) < 2 || len(m.Shards) < m.Need {
			return
		}
		many++
		for index := range m.Marks {
			want, e := codes[m.Need].Rebuild(m.Which, m.Shards, index)
			tellsBytes(t, codes[m.Need], m, index, want, e)
		}
	})
	if many < 1000 {
		t.Errorf("only %d", many)
	}
}

// P14.2: the chapter's example, and such.
func TestBytesByWords(t *testing.T) {
	x := made(2, 3)
	tellsBytes(t, x, at("going 2 v2 R l r 0=\x01 2=\x7a"), 1, []byte{1}, api.OK)
	tellsBytes(t, x, at("going 2 v2 R r l 0=\x01 1=\x01"), 2, []byte{122}, api.OK)
	tellsBytes(t, x, at("going 2 v2 R . . 1=cd 0=ab"), 0, []byte("ab"), api.OK)
	tellsBytes(t, x, at("going 2 v2 R . . 1=cd 0=ab"), 1, []byte("cd"), api.OK)
	tellsBytes(t, x, at("done 2 v2 R R R 1= 0="), 2, nil, api.OK)
	tellsBytes(t, x, at("lost 2 v2 R R6 l 1=cd 0=ab"), 1, []byte("cd"), api.OK)
	tellsBytes(t, made(1, 1), at("going 1 v2 . 0=abc"), 0, []byte("abc"), api.OK)
	tellsBytes(t, made(1, 3), at("going 1 v2 . . . 2=\x01"), 0, []byte{2}, api.OK)
}

// codes are codes, and what is none.
func codes() map[string]*code.Code {
	out := map[string]*code.Code{"none": nil, "not made": {}, "fresh": new(code.Code)}
	for n := 1; n <= 4; n++ {
		for k := 1; k <= n; k++ {
			out[fmt.Sprint(k, " of ", n)] = made(k, n)
		}
	}
	return out
}

// P14.2: ErrMend of a mending that is not right, and of no index of it, whatever the code; ErrNow of one with fewer shards, whatever the code; ErrShards of another code, and of none: nothing beside them.
func TestBytesRefused(t *testing.T) {
	for _, x := range codes() {
		for _, m := range wrong() {
			for _, index := range []int{-1, 0, 1, len(m.Marks)} {
				tellsBytes(t, x, m, index, nil, api.ErrMend)
			}
		}
		refused := func(m api.Mend) {
			for index := -1; index <= len(m.Marks); index++ {
				want := api.OK
				if index < 0 || index == len(m.Marks) {
					want = api.ErrMend
				} else if len(m.Shards) < m.Need {
					want = api.ErrNow
				} else if x.Need() != m.Need || x.All() != len(m.Marks) {
					want = api.ErrShards
				}
				b, e := mend.Bytes(x, m, index)
				if e != want || (e == api.OK) != (len(b) > 0) {
					t.Fatalf("Bytes(%d of %d, %s, %d): %q, %d, want %d", x.Need(), x.All(), words(m), index, b, e, want)
				}
			}
		}
		smallRight(3, 5, 1, strings.Fields(". R l"), refused)
		smallRight(2, 0, 1, noneWords, refused)
	}
	m := at("done 1 v5" + strings.Repeat(" R", 255) + " 0=a")
	tellsBytes(t, made(1, 254), m, 0, nil, api.ErrShards)
	tellsBytes(t, made(2, 255), m, 0, nil, api.ErrShards)
	tellsBytes(t, made(1, 255), m, 0, []byte("a"), api.OK)
	tellsBytes(t, made(1, 255), m, 255, nil, api.ErrMend)
}

// P14.2: of several errors the one that is named first counts; no index but those that there are.
func TestBytesOrder(t *testing.T) {
	for _, v := range []int{-1, math.MinInt, math.MaxInt, far + 1} {
		m := at("done 2 v5 R R 0=a 1=b")
		tellsBytes(t, nil, m, v, nil, api.ErrMend)
		tellsBytes(t, made(2, 2), m, v, nil, api.ErrMend)
		tellsBytes(t, nil, at("going 2 v5 . R 1=b"), v, nil, api.ErrMend)
		m.Stripe = v
		tellsBytes(t, nil, m, 0, nil, api.ErrMend)
		m = at("going 2 v5 . R 1=b")
		m.Need = v
		tellsBytes(t, made(2, 2), m, 0, nil, api.ErrMend)
	}
	tellsBytes(t, nil, at("going 2 v5 . R 1=b"), 0, nil, api.ErrNow)
	tellsBytes(t, nil, at("lost 2 v5 l R 1=b"), 0, nil, api.ErrNow)
	tellsBytes(t, made(1, 2), at("lost 2 v5 l R 1=b"), 0, nil, api.ErrNow)
	tellsBytes(t, made(1, 1), at("done 1 v0 r"), 0, nil, api.ErrNow)
	tellsBytes(t, made(1, 1), at("done 1 v5 R"), 0, nil, api.ErrNow)
	tellsBytes(t, nil, at("done 2 v5 R R 1=b 0=a"), 0, nil, api.ErrShards)
}
