package code_test

import (
	"bytes"
	"math"
	"slices"
	"testing"

	"cooperage/api"
)

// sameStripes tells whether two lists of stripes are the same.
func sameStripes(a, b [][][]byte) bool {
	return slices.EqualFunc(a, b, same)
}

// stripes is the chapter's words: b filled up with noughts, byte by byte to its place.
func stripes(b []byte, k, size int) [][][]byte {
	many := (len(b) + k*size - 1) / (k * size)
	out := make([][][]byte, many)
	for i := range out {
		out[i] = make([][]byte, k)
		for j := range out[i] {
			out[i][j] = make([]byte, size)
		}
	}
	for at, x := range b {
		out[at/(k*size)][at/size%k][at%size] = x
	}
	return out
}

// P4.3: the examples.
func TestSplitJoinExamples(t *testing.T) {
	c := made(t, 2, 3)
	got, e := c.Split([]byte("abcde"), 2)
	if e != api.OK || !sameStripes(got, [][][]byte{{[]byte("ab"), []byte("cd")}, {{'e', 0}, {0, 0}}}) {
		t.Errorf("Split: %v, %d", got, e)
	}
	for n := range 9 {
		if b, e := c.Join(got, n); e != api.OK || string(b) != "abcde\x00\x00\x00"[:n] {
			t.Errorf("Join to %d: %v, %d", n, b, e)
		}
	}
}

// P4.3: all lengths about the edges of pieces, and of shards.
func TestSplit(t *testing.T) {
	for _, s := range [][2]int{{1, 1}, {1, 4}, {2, 1}, {2, 3}, {3, 2}, {5, 7}} {
		k, size := s[0], s[1]
		c := made(t, k, k+1)
		for n := range 3*k*size + 2 {
			b := some(1, n, uint32(n))[0]
			got, e := c.Split(b, size)
			if e != api.OK || !sameStripes(got, stripes(b, k, size)) {
				t.Fatalf("code of %d, %d bytes by %d: %v, %d", k, n, size, got, e)
			}
		}
	}
}

// P4.3: of no bytes there are no pieces.
func TestSplitNone(t *testing.T) {
	c := made(t, 2, 3)
	for _, b := range [][]byte{nil, {}, make([]byte, 0, 9)} {
		for _, size := range []int{1, 16, api.MaxShard} {
			if got, e := c.Split(b, size); len(got) != 0 || e != api.OK {
				t.Errorf("by %d: %v, %d", size, got, e)
			}
		}
	}
}

// P4.3: the greatest sizes and codes, and which sizes are none.
func TestSplitEdges(t *testing.T) {
	b := some(1, 3*api.MaxShard+1, 3)[0]
	for _, s := range [][2]int{{1, api.MaxShard}, {2, api.MaxShard - 1}, {2, api.MaxShard}, {255, 1}, {255, 255}} {
		if got, e := made(t, s[0], 255).Split(b, s[1]); e != api.OK || !sameStripes(got, stripes(b, s[0], s[1])) {
			t.Errorf("code of %d, by %d: other stripes, %d", s[0], s[1], e)
		}
	}
	if got, e := made(t, 255, 255).Split([]byte{7}, api.MaxShard); e != api.OK || !sameStripes(got, stripes([]byte{7}, 255, api.MaxShard)) {
		t.Errorf("one byte in the greatest stripe: other stripes, %d", e)
	}
	c := made(t, 2, 3)
	for _, size := range []int{0, -1, -2, api.MaxShard + 1, 2 * api.MaxShard, 1 << 62, math.MaxInt, math.MinInt} {
		for _, b := range [][]byte{nil, []byte("abcde")} {
			if got, e := c.Split(b, size); len(got) != 0 || e != api.ErrArg {
				t.Errorf("%d bytes by %d: %v, %d", len(b), size, got, e)
			}
		}
	}
}

// P4.3: stripes need not be of one length; those of no bytes count for none.
func TestJoin(t *testing.T) {
	c := made(t, 2, 4)
	unlike := [][][]byte{{{1, 2}, {3, 4}}, {{}, nil}, {{5}, {6}}, {{7, 8, 9}, {10, 11, 12}}}
	want := []byte{1, 2, 3, 4, 5, 6, 7, 8, 9, 10, 11, 12}
	for n := range len(want) + 1 {
		if got, e := c.Join(unlike, n); e != api.OK || !bytes.Equal(got, want[:n]) {
			t.Errorf("to %d: %v, %d", n, got, e)
		}
	}
	for _, none := range [][][][]byte{nil, {}, {{nil, nil}}, {{{}, {}}, {nil, {}}}} {
		if got, e := c.Join(none, 0); len(got) != 0 || e != api.OK {
			t.Errorf("%v to 0: %v, %d", none, got, e)
		}
		if got, e := c.Join(none, 1); len(got) != 0 || e != api.ErrShort {
			t.Errorf("%v to 1: %v, %d", none, got, e)
		}
	}
	long := some(2, api.MaxShard, 1)
	if got, e := c.Join([][][]byte{long}, 2*api.MaxShard); e != api.OK || !bytes.Equal(got, slices.Concat(long...)) {
		t.Errorf("the longest shards: %d bytes, %d", len(got), e)
	}
}

// P4.3: fewer bytes than are asked for, and less than none.
func TestJoinShort(t *testing.T) {
	c := made(t, 2, 3)
	for _, n := range []int{9, 10, 1000, math.MaxInt, -1, -8, math.MinInt} {
		if got, e := c.Join([][][]byte{some(2, 2, 1), some(2, 2, 2)}, n); len(got) != 0 || e != api.ErrShort {
			t.Errorf("8 bytes to %d: %v, %d", n, got, e)
		}
	}
	if got, e := c.Join(nil, -1); len(got) != 0 || e != api.ErrShort {
		t.Errorf("nothing to -1: %v, %d", got, e)
	}
}

// P4.3: each has to be a stripe, whatever n is, and also those behind the n-th byte.
func TestJoinRefused(t *testing.T) {
	c := made(t, 2, 3)
	right := some(2, 3, 1)
	for name, w := range map[string][][]byte{
		"none":          nil,
		"empty":         {},
		"too few":       some(1, 3, 1),
		"all shards":    some(3, 3, 1),
		"first shorter": uneven(2, 0, 2),
		"last shorter":  uneven(2, 1, 2),
		"last longer":   uneven(2, 1, 4),
		"too long":      some(2, api.MaxShard+1, 1),
	} {
		for _, all := range [][][][]byte{{w}, {w, right}, {right, w}, {right, w, right}} {
			for _, n := range []int{0, 1, 6, 1 << 30, -1} {
				if got, e := c.Join(all, n); len(got) != 0 || e != api.ErrShards {
					t.Errorf("%s, of %d, to %d: %v, %d", name, len(all), n, got, e)
				}
			}
		}
	}
}
