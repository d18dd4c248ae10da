package code_test

import (
	"slices"
	"testing"

	"cooperage/api"
	"cooperage/code"
	"cooperage/field"
)

// roomy is a copy of those shards with spare room behind the list and within each, and a way to tell whether any of that was changed.
func roomy(shards [][]byte) ([][]byte, func() bool) {
	var long [][]byte
	out := make([][]byte, len(shards), len(shards)+2)
	for i, shard := range shards {
		long = append(long, append(slices.Clone(shard), 201, 202, 203))
		out[i] = long[i][:len(shard)]
	}
	spare := []byte{5, 6}
	out[:cap(out)][len(shards)], out[:cap(out)][len(shards)+1] = spare, spare
	was := slices.Clone(out[:cap(out)])
	all := slices.Concat(slices.Concat(long...), spare)
	return out, func() bool {
		for i, shard := range out[:cap(out)] {
			if len(shard) != len(was[i]) || len(shard) > 0 && &shard[0] != &was[i][0] {
				return true
			}
		}
		return !slices.Equal(all, slices.Concat(slices.Concat(long...), spare))
	}
}

// spoil changes all of an answer: each list with its spare room, then the lists themselves with theirs.
func spoil(answer [][]byte) {
	for _, b := range answer {
		b = b[:cap(b)]
		for i := range b {
			b[i] ^= 0xff
		}
	}
	clear(answer[:cap(answer)])
}

// call is one that is handed two shards of a code of 2 and 4, and answers lists of bytes.
type call func(c *code.Code, shards [][]byte) ([][]byte, api.Errno)

// calls is each call that answers lists.
func calls() map[string]call {
	rebuild := func(i int, which ...int) call {
		return func(c *code.Code, shards [][]byte) ([][]byte, api.Errno) {
			b, e := c.Rebuild(which, shards, i)
			return [][]byte{b}, e
		}
	}
	decode := func(which ...int) call {
		return func(c *code.Code, shards [][]byte) ([][]byte, api.Errno) { return c.Decode(which, shards) }
	}
	return map[string]call{
		"Matrix":         func(c *code.Code, shards [][]byte) ([][]byte, api.Errno) { return c.Matrix(), api.OK },
		"Encode":         func(c *code.Code, shards [][]byte) ([][]byte, api.Errno) { return c.Encode(shards) },
		"Decode data":    decode(0, 1),
		"Decode swapped": decode(1, 0),
		"Decode others":  decode(3, 2),
		"Decode one":     decode(3, 1),
		"Rebuild told":   rebuild(1, 0, 1),
		"Rebuild data":   rebuild(0, 3, 2),
		"Rebuild other":  rebuild(3, 0, 1),
		"Rebuild itself": rebuild(3, 1, 3),
		"Split": func(c *code.Code, shards [][]byte) ([][]byte, api.Errno) {
			all, e := c.Split(shards[0], 1)
			return slices.Concat(all...), e
		},
		"Split whole": func(c *code.Code, shards [][]byte) ([][]byte, api.Errno) {
			all, e := c.Split(shards[1], 2)
			return slices.Concat(all...), e
		},
		"Join": func(c *code.Code, shards [][]byte) ([][]byte, api.Errno) {
			b, e := c.Join([][][]byte{shards, shards}, 5)
			return [][]byte{b}, e
		},
		"Join all": func(c *code.Code, shards [][]byte) ([][]byte, api.Errno) {
			b, e := c.Join([][][]byte{shards}, 8)
			return [][]byte{b}, e
		},
	}
}

// copied is lists of bytes in memory of their own.
func copied(lists [][]byte) [][]byte {
	var out [][]byte
	for _, b := range lists {
		out = append(out, slices.Clone(b))
	}
	return out
}

// R3: what is handed in stays, its spare room too; answers share no memory with it, nor with one another, nor do the lists of one.
func TestHandedIn(t *testing.T) {
	for name, do := range calls() {
		c := made(t, 2, 4)
		shards, changed := roomy([][]byte{{1, 2, 3, 4}, {5, 0, 7, 255}})
		first, e := do(c, shards)
		want := copied(first)
		second, again := do(c, shards)
		spoil(first)
		if e != api.OK || again != api.OK || !same(second, want) {
			t.Errorf("%s: two answers share memory, or differ: %v, %v, %d", name, second, want, e)
		}
		for i := range second {
			spoil(second[i : i+1 : i+1])
			if !same(second[i+1:], want[i+1:]) {
				t.Errorf("%s: lists behind the one at %d share memory with it", name, i)
			}
		}
		if third, e := do(c, shards); e != api.OK || !same(third, want) {
			t.Errorf("%s: what was spoilt counts: %v, %d", name, third, e)
		}
		if changed() {
			t.Errorf("%s: what was handed in has changed", name)
		}
	}
}

// R3: Fits changes nothing; the places that are handed in stay.
func TestFitsHandedIn(t *testing.T) {
	c := made(t, 2, 4)
	all, _ := c.Encode([][]byte{{1, 2}, {3, 4}})
	shards, changed := roomy(all)
	if !c.Fits(shards) || changed() {
		t.Error("shards do not fit, or have changed")
	}
	which := []int{3, 2, 0, 9, 9}
	told, changed := roomy(picked(all, 3, 2, 0))
	c.Decode(which[:3], told)
	c.Rebuild(which[:3], told, 1)
	if changed() || !slices.Equal(which, []int{3, 2, 0, 9, 9}) {
		t.Errorf("what was handed in has changed: places %v", which)
	}
}

// R3: shards that are one list, and such as lie in one another, are as if they were apart.
func TestHandedInTwice(t *testing.T) {
	c := made(t, 3, 5)
	one, memory := []byte{1, 2, 3}, []byte{9, 0, 1, 200, 7}
	for _, data := range [][][]byte{{one, one, one}, {memory[:3], memory[1:4], memory[2:]}} {
		apart := copied(data)
		all, e := c.Encode(data)
		if e != api.OK || !same(all, encoded(rows(3, 5), apart)) {
			t.Errorf("Encode %v: %v, %d", data, all, e)
		}
		for _, which := range [][]int{{0, 1, 2}, {2, 4, 3}} {
			got, e := c.Decode(which, data)
			want, _ := c.Decode(which, apart)
			if e != api.OK || !same(got, want) {
				t.Errorf("Decode %v of %v: %v, %d, want %v", which, data, got, e, want)
			}
		}
		if !same(data, apart) {
			t.Errorf("what was handed in is %v, was %v", data, apart)
		}
	}
	got, e := c.Split(one, 1)
	if b, join := c.Join([][][]byte{got[0], got[0]}, 6); e != api.OK || join != api.OK || !slices.Equal(b, []byte{1, 2, 3, 1, 2, 3}) {
		t.Errorf("Join of one stripe, twice: %v, %d, %d", b, e, join)
	}
}

// R3: the field that is handed in is not kept: what becomes of it does not count.
func TestFieldNotKept(t *testing.T) {
	f := field.New()
	c, _ := code.New(f, 2, 4)
	shards := [][]byte{{1, 2, 3, 4}, {5, 0, 7, 255}}
	before := map[string][][]byte{}
	for name, do := range calls() {
		before[name], _ = do(c, shards)
	}
	*f = field.Field{}
	for name, do := range calls() {
		if got, e := do(c, shards); e != api.OK || !same(got, before[name]) {
			t.Errorf("%s: %v, %d, was %v", name, got, e, before[name])
		}
	}
}

// R2, R4: nothing that went wrong stays behind; two codes answer the same.
func TestSameAnswers(t *testing.T) {
	c, d := made(t, 2, 4), made(t, 2, 4)
	shards := [][]byte{{1, 2, 3, 4}, {5, 0, 7, 255}}
	for name, do := range calls() {
		before, _ := do(c, shards)
		for _, w := range wrong() {
			c.Encode(w.shards[:min(1, len(w.shards))])
			c.Decode(w.which, w.shards)
			c.Rebuild(w.which, w.shards, 0)
			c.Fits(w.shards)
			c.Join([][][]byte{shards, w.shards}, -1)
		}
		c.Rebuild([]int{0, 1}, shards, 4)
		c.Split(shards[0], 0)
		after, e := do(c, shards)
		other, _ := do(d, shards)
		if e != api.OK || !same(before, after) || !same(after, other) {
			t.Errorf("%s: %v, then %v, by another code %v, %d", name, before, after, other, e)
		}
	}
	if c.Need() != 2 || c.All() != 4 {
		t.Errorf("the code is one of %d and %d", c.Need(), c.All())
	}
}

// R6: a shard that is empty, and none, are the same.
func TestNone(t *testing.T) {
	c := made(t, 2, 4)
	for _, data := range [][][]byte{{nil, nil}, {{}, {}}, {nil, {}}, {make([]byte, 0, 7), nil}} {
		all, e := c.Encode(data)
		if e != api.OK || !same(all, [][]byte{{}, {}, {}, {}}) || !c.Fits(all) {
			t.Errorf("Encode %v: %v, %d", data, all, e)
		}
		if got, e := c.Decode([]int{3, 1}, data); e != api.OK || !same(got, [][]byte{{}, {}}) {
			t.Errorf("Decode %v: %v, %d", data, got, e)
		}
		if got, e := c.Rebuild([]int{3, 1}, data, 2); e != api.OK || len(got) != 0 {
			t.Errorf("Rebuild %v: %v, %d", data, got, e)
		}
	}
}
