package code_test

import (
	"math"
	"slices"
	"testing"

	"cooperage/api"
	"cooperage/code"
)

// some is shards of one length whose bytes come by a rule from a seed; of any length, also of a wrong one.
func some(many, size int, seed uint32) [][]byte {
	shards := make([][]byte, many)
	for i := range shards {
		shards[i] = make([]byte, size)
		for j := range shards[i] {
			seed = seed*1664525 + 1013904223
			shards[i][j] = byte(seed >> 24)
		}
	}
	return shards
}

// encoded is the chapter's words: of each place the matrix times the bytes that stand there.
func encoded(m, data [][]byte) [][]byte {
	shards := make([][]byte, len(m))
	for i, row := range m {
		shards[i] = make([]byte, len(data[0]))
		for at := range shards[i] {
			for j, x := range row {
				shards[i][at] ^= product(x, data[j][at])
			}
		}
	}
	return shards
}

// picked is the shards at those places.
func picked(shards [][]byte, which ...int) [][]byte {
	var out [][]byte
	for _, i := range which {
		out = append(out, shards[i])
	}
	return out
}

// numbers is from that one on so many.
func numbers(from, many int) []int {
	var out []int
	for i := range many {
		out = append(out, from+i)
	}
	return out
}

// P4.2: the examples of Encode, Decode and Rebuild.
func TestExamples(t *testing.T) {
	c := made(t, 2, 3)
	if got, e := c.Encode([][]byte{{1}, {1}}); e != api.OK || !same(got, [][]byte{{1}, {1}, {122}}) {
		t.Errorf("Encode 1, 1: %v, %d", got, e)
	}
	if got, e := c.Decode([]int{2, 0}, [][]byte{{122}, {1}}); e != api.OK || !same(got, [][]byte{{1}, {1}}) {
		t.Errorf("Decode of 2 and 0: %v, %d", got, e)
	}
	for i, want := range []byte{1, 1, 122} {
		if got, e := c.Rebuild([]int{2, 0}, [][]byte{{122}, {1}}, i); e != api.OK || !slices.Equal(got, []byte{want}) {
			t.Errorf("Rebuild of %d: %v, %d", i, got, e)
		}
	}
	if got, e := made(t, 1, 3).Encode([][]byte{{2}}); e != api.OK || !same(got, [][]byte{{2}, {2}, {1}}) {
		t.Errorf("Encode 2: %v, %d", got, e)
	}
}

// P4.2: the shards of stripes of some codes and lengths, up to the edges of both.
func TestEncode(t *testing.T) {
	for i, s := range [][3]int{{1, 1, 1}, {1, 4, 9}, {2, 3, 2}, {3, 3, 5}, {4, 7, 64}, {9, 20, 17}, {1, 255, 3}, {128, 255, 2}, {255, 255, 2}, {2, 3, 0}, {1, 1, 0}, {255, 255, 0}, {2, 3, api.MaxShard - 1}, {2, 4, api.MaxShard}} {
		data := some(s[0], s[2], uint32(i))
		if got, e := made(t, s[0], s[1]).Encode(data); e != api.OK || !same(got, encoded(rows(s[0], s[1]), data)) {
			t.Errorf("code of %d and %d, %d bytes: other shards, %d", s[0], s[1], s[2], e)
		}
	}
}

// uneven is shards of three bytes, but for the i-th one.
func uneven(many, i, size int) [][]byte {
	shards := some(many, 3, 7)
	shards[i] = make([]byte, size)
	return shards
}

// P4.2: what is no stripe of a code of 3: too few, too many, of unlike lengths, too long.
func TestEncodeRefused(t *testing.T) {
	c := made(t, 3, 5)
	for name, data := range map[string][][]byte{
		"none":              nil,
		"empty":             {},
		"too few":           some(2, 3, 1),
		"too many":          some(4, 3, 1),
		"all shards":        some(5, 3, 1),
		"first one shorter": uneven(3, 0, 2),
		"first one empty":   uneven(3, 0, 0),
		"last one shorter":  uneven(3, 2, 2),
		"last one longer":   uneven(3, 2, 4),
		"one in between":    uneven(3, 1, 4),
		"last one none":     {{1}, {2}, nil},
		"too long":          some(3, api.MaxShard+1, 1),
		"much too long":     some(3, 2*api.MaxShard, 1),
	} {
		if got, e := c.Encode(data); len(got) != 0 || e != api.ErrShards {
			t.Errorf("%s: %d shards, %d", name, len(got), e)
		}
	}
}

// orders is all lists of those numbers, each once, in each order, of each length from least on.
func orders(of []int, least int) [][]int {
	var out [][]int
	if least <= 0 {
		out = append(out, nil)
	}
	for i, x := range of {
		rest := slices.Concat(of[:i], of[i+1:])
		for _, o := range orders(rest, least-1) {
			out = append(out, slices.Concat([]int{x}, o))
		}
	}
	return out
}

// P4.2: of all small codes any places, as many as needed and more, in any order.
func TestDecode(t *testing.T) {
	for n := 1; n <= 5; n++ {
		for k := 1; k <= n; k++ {
			c := made(t, k, n)
			data := some(k, 3, uint32(n*9+k))
			all := encoded(rows(k, n), data)
			for _, which := range orders(numbers(0, n), k) {
				told := picked(all, which...)
				if got, e := c.Decode(which, told); e != api.OK || !same(got, data) {
					t.Fatalf("code of %d and %d, places %v: %v, %d, want %v", k, n, which, got, e, data)
				}
				for i, want := range all {
					if got, e := c.Rebuild(which, told, i); e != api.OK || !slices.Equal(got, want) {
						t.Fatalf("code of %d and %d, places %v: Rebuild %d: %v, %d, want %v", k, n, which, i, got, e, want)
					}
				}
			}
		}
	}
}

// P4.2: shards that are of no stripe all together: the first ones, as many as needed, say which stripe it is.
func TestDecodeByFirst(t *testing.T) {
	for i, s := range [][2]int{{1, 2}, {2, 4}, {3, 5}, {4, 4}, {7, 30}, {20, 60}} {
		k, n := s[0], s[1]
		c, m := made(t, k, n), rows(k, n)
		which := numbers(0, n)
		slices.Reverse(which)
		told := some(n, 4, uint32(i))
		data, e := c.Decode(which, told)
		if e != api.OK || len(data) != k {
			t.Fatalf("code of %d and %d: %d shards, %d", k, n, len(data), e)
		}
		all := encoded(m, data)
		if !same(picked(all, which[:k]...), told[:k]) {
			t.Errorf("code of %d and %d: a stripe that has not the first shards", k, n)
		}
		for j, want := range all {
			if got, e := c.Rebuild(which, told, j); e != api.OK || !slices.Equal(got, want) {
				t.Errorf("code of %d and %d: Rebuild %d: %v, %d, want %v", k, n, j, got, e, want)
			}
		}
		if got, e := c.Decode(which[:k], told[:k]); e != api.OK || !same(got, data) {
			t.Errorf("code of %d and %d: the others count", k, n)
		}
	}
}

// P4.2: the greatest codes, the shortest and the longest shards.
func TestDecodeEdges(t *testing.T) {
	for i, s := range [][3]int{{128, 255, 3}, {1, 255, 5}, {254, 255, 2}, {255, 255, 2}, {2, 3, 0}, {1, 1, 0}, {255, 255, 0}, {2, 4, api.MaxShard}} {
		k, n, size := s[0], s[1], s[2]
		c := made(t, k, n)
		data := some(k, size, uint32(i))
		all, _ := c.Encode(data)
		which := numbers(n-k, k)
		if got, e := c.Decode(which, picked(all, which...)); e != api.OK || !same(got, data) {
			t.Errorf("code of %d and %d, %d bytes, the last shards: another stripe, %d", k, n, size, e)
		}
		for _, j := range []int{0, k - 1, n - 1} {
			if got, e := c.Rebuild(which, picked(all, which...), j); e != api.OK || !slices.Equal(got, all[j]) {
				t.Errorf("code of %d and %d, %d bytes: Rebuild %d: another shard, %d", k, n, size, j, e)
			}
		}
	}
}

type telling struct {
	which  []int
	shards [][]byte
}

// wrong is what are no told shards of a code of 2 and 4, two at least, each by one thing.
func wrong() map[string]telling {
	three := some(3, 3, 5)
	return map[string]telling{
		"none":                    {nil, nil},
		"empty":                   {[]int{}, [][]byte{}},
		"one":                     {[]int{0}, three[:1]},
		"no places":               {nil, three},
		"no shards":               {[]int{0, 1, 2}, nil},
		"fewer shards":            {[]int{0, 1, 2}, three[:2]},
		"fewer places":            {[]int{0, 1}, three},
		"one place, two shards":   {[]int{0}, three[:2]},
		"two places, one shard":   {[]int{0, 1}, three[:1]},
		"a place below 0":         {[]int{-1, 1}, three[:2]},
		"a place past the end":    {[]int{0, 4}, three[:2]},
		"a place far below":       {[]int{0, math.MinInt}, three[:2]},
		"a place far off":         {[]int{math.MaxInt, 1}, three[:2]},
		"a place 256 off":         {[]int{256, 1}, three[:2]},
		"a place 2^32 off":        {[]int{1 << 32, 1}, three[:2]},
		"a place twice":           {[]int{1, 1}, three[:2]},
		"twice, with one between": {[]int{3, 1, 3}, three},
		"one more below 0":        {[]int{0, 1, -1}, three},
		"one more past the end":   {[]int{0, 1, 4}, three},
		"one more twice":          {[]int{0, 1, 1}, three},
		"one more shard longer":   {[]int{0, 1, 2}, uneven(3, 2, 4)},
		"one more shard empty":    {[]int{0, 1, 2}, uneven(3, 2, 0)},
		"all, and one twice":      {[]int{0, 1, 2, 3, 0}, some(5, 3, 1)},
		"all, and the end":        {[]int{0, 1, 2, 3, 4}, some(5, 3, 1)},
		"first shard shorter":     {[]int{0, 1}, uneven(2, 0, 2)},
		"last shard shorter":      {[]int{0, 1}, uneven(2, 1, 2)},
		"last shard longer":       {[]int{0, 1}, uneven(2, 1, 4)},
		"first shard empty":       {[]int{0, 1}, uneven(2, 0, 0)},
		"too long":                {[]int{0, 1}, some(2, api.MaxShard+1, 1)},
		"a great many places":     {numbers(0, 5000), some(5000, 1, 1)},
		"one place, a great many": {make([]int, 5000), some(5000, 1, 1)},
	}
}

// P4.2: what are no told shards is refused by both, and ahead of a place that is wrong; nothing beside the error.
func TestDecodeRefused(t *testing.T) {
	c := made(t, 2, 4)
	for name, w := range wrong() {
		if got, e := c.Decode(w.which, w.shards); len(got) != 0 || e != api.ErrShards {
			t.Errorf("%s: Decode %v, %d", name, got, e)
		}
		for _, i := range []int{0, 3, 4, -1} {
			if got, e := c.Rebuild(w.which, w.shards, i); len(got) != 0 || e != api.ErrShards {
				t.Errorf("%s: Rebuild %d: %v, %d", name, i, got, e)
			}
		}
	}
}

// P4.2: a shard that the code has not; the edges are shards.
func TestRebuildRefused(t *testing.T) {
	c := made(t, 2, 4)
	for _, i := range []int{-1, -2, 4, 5, 255, 256, 1 << 32, math.MinInt, math.MaxInt} {
		if got, e := c.Rebuild([]int{3, 1}, some(2, 3, 1), i); len(got) != 0 || e != api.ErrArg {
			t.Errorf("Rebuild %d: %v, %d", i, got, e)
		}
	}
	for _, i := range []int{0, 3} {
		if got, e := c.Rebuild([]int{3, 1}, some(2, 3, 1), i); len(got) != 3 || e != api.OK {
			t.Errorf("Rebuild %d: %v, %d", i, got, e)
		}
	}
}

// P4.2: all shards of a stripe fit; with any byte that is another one they do not, where there is one shard more than needed.
func TestFits(t *testing.T) {
	for i, s := range [][3]int{{1, 2, 2}, {2, 3, 3}, {2, 4, 1}, {5, 6, 4}, {5, 9, 2}, {1, 255, 1}, {128, 255, 1}} {
		c := made(t, s[0], s[1])
		all := encoded(rows(s[0], s[1]), some(s[0], s[2], uint32(i)))
		if !c.Fits(all) {
			t.Errorf("code of %d and %d: its shards do not fit", s[0], s[1])
		}
		for _, shard := range all {
			for at := range shard {
				for _, turn := range []byte{1, 128, 255} {
					shard[at] ^= turn
					if c.Fits(all) {
						t.Fatalf("code of %d and %d: they fit with a byte turned by %d", s[0], s[1], turn)
					}
					shard[at] ^= turn
				}
			}
		}
	}
}

// P4.2: which lists of shards cannot fit, though each place of them would.
func TestFitsNot(t *testing.T) {
	c := made(t, 2, 4)
	noughts := func(many, size int) [][]byte { return encoded(rows(1, many), [][]byte{make([]byte, size)}) }
	short := func(i, size int) [][]byte {
		shards := noughts(4, 3)
		shards[i] = make([]byte, size)
		return shards
	}
	for name, shards := range map[string][][]byte{
		"none":               nil,
		"empty":              {},
		"data alone":         noughts(2, 3),
		"one too few":        noughts(3, 3),
		"one too many":       noughts(5, 3),
		"many too many":      noughts(8, 3),
		"too few, empty":     noughts(3, 0),
		"first one shorter":  short(0, 2),
		"second one shorter": short(1, 2),
		"last one shorter":   short(3, 2),
		"last one longer":    short(3, 4),
		"last one empty":     short(3, 0),
		"too long":           noughts(4, api.MaxShard+1),
	} {
		if c.Fits(shards) {
			t.Errorf("%s: they fit", name)
		}
	}
	for _, size := range []int{0, 1, api.MaxShard - 1, api.MaxShard} {
		if !c.Fits(noughts(4, size)) {
			t.Errorf("noughts of %d bytes do not fit", size)
		}
	}
	if !c.Fits([][]byte{nil, {}, nil, {}}) {
		t.Error("shards of no bytes do not fit")
	}
}

// P4.2: of a code without a shard more than needed any stripe fits; a list that is none does not.
func TestFitsWithoutMore(t *testing.T) {
	for _, k := range []int{1, 3, 255} {
		c := made(t, k, k)
		if !c.Fits(some(k, 5, uint32(k))) {
			t.Errorf("code of %d and %d: a stripe does not fit", k, k)
		}
		if c.Fits(some(k+1, 5, 1)) || c.Fits(some(k-1, 5, 1)) || c.Fits(some(k, api.MaxShard+1, 1)) {
			t.Errorf("code of %d and %d: what is no stripe fits", k, k)
		}
	}
}

// P4.1, P4.2, P4.3, R5: of no code nothing; where there is an error ErrNil, also where another one would be next.
func TestNoCode(t *testing.T) {
	for name, c := range map[string]*code.Code{"nil": nil, "not made": {}, "new": new(code.Code)} {
		if c.Need() != 0 || c.All() != 0 || len(c.Matrix()) != 0 {
			t.Errorf("%s: Need %d, All %d, Matrix %v", name, c.Need(), c.All(), c.Matrix())
		}
		tellings := wrong()
		tellings["right"] = telling{[]int{0, 1}, some(2, 3, 1)}
		for of, w := range tellings {
			if got, e := c.Encode(w.shards); len(got) != 0 || e != api.ErrNil {
				t.Errorf("%s: Encode, %s: %v, %d", name, of, got, e)
			}
			if got, e := c.Decode(w.which, w.shards); len(got) != 0 || e != api.ErrNil {
				t.Errorf("%s: Decode, %s: %v, %d", name, of, got, e)
			}
			if got, e := c.Rebuild(w.which, w.shards, -1); len(got) != 0 || e != api.ErrNil {
				t.Errorf("%s: Rebuild, %s: %v, %d", name, of, got, e)
			}
			if c.Fits(w.shards) {
				t.Errorf("%s: Fits, %s", name, of)
			}
		}
		for _, size := range []int{0, 1, 2, -1, api.MaxShard + 1} {
			if got, e := c.Split([]byte("abc"), size); len(got) != 0 || e != api.ErrNil {
				t.Errorf("%s: Split by %d: %v, %d", name, size, got, e)
			}
		}
		for _, stripes := range [][][][]byte{nil, {nil}, {some(2, 3, 1)}} {
			for _, n := range []int{0, 1, -1, 100} {
				if got, e := c.Join(stripes, n); len(got) != 0 || e != api.ErrNil {
					t.Errorf("%s: Join %v to %d: %v, %d", name, stripes, n, got, e)
				}
			}
		}
	}
}
