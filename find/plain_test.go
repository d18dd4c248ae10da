package find_test

import (
	"bytes"
	"fmt"
	"math"
	"slices"
	"strconv"
	"strings"
	"testing"

	"cooperage/api"
	"cooperage/code"
	"cooperage/field"
	"cooperage/find"
)

// far is the greatest Stripe and Version, long the most bytes of a shard.
const (
	far  = 1 << 40
	long = 1 << 16
)

// phases are the words of the phases, by their numbers.
var phases = []string{"none", "asking", "done", "lost"}

// letters are those of the marks, by their numbers: nothing, got, lacks.
const letters = ".gl"

// at is a find, told by its phase, its Need, a letter for each index, and each shard behind its index, in the order in which they came; it is one of the stripe 7 and the version 1.
func at(words string) api.Find {
	l := append(strings.Fields(words), "", "")
	need, _ := strconv.Atoi(l[1])
	f := api.Find{Stripe: 7, Version: 1, Need: need, Phase: slices.Index(phases, l[0])}
	for _, letter := range []byte(l[2]) {
		f.Marks = append(f.Marks, strings.IndexByte(letters, letter))
	}
	for _, word := range l[3:] {
		if which, shard, ok := strings.Cut(word, "="); ok {
			index, _ := strconv.Atoi(which)
			f.Which, f.Shards = append(f.Which, index), append(f.Shards, []byte(shard))
		}
	}
	return f
}

// marks is the letters of a find's indexes; a mark that is none is a question mark.
func marks(f api.Find) string {
	var b []byte
	for _, mark := range f.Marks {
		if mark < 0 || mark >= len(letters) {
			b = append(b, '?')
		} else {
			b = append(b, letters[mark])
		}
	}
	return string(b)
}

// words is what at is told of a find; of one that at does not tell it is more.
func words(f api.Find) string {
	phase := fmt.Sprint(f.Phase)
	if f.Phase > 0 && f.Phase < len(phases) {
		phase = phases[f.Phase]
	}
	text := fmt.Sprintf("%s %d %.300s", phase, f.Need, marks(f))
	for i := range max(len(f.Which), len(f.Shards)) {
		which, shard := "no index", "no shard"
		if i < len(f.Which) {
			which = fmt.Sprint(f.Which[i])
		}
		if i < len(f.Shards) {
			shard = fmt.Sprintf("%.20q", f.Shards[i])
		}
		text += " " + which + "=" + shard
	}
	if f.Stripe != 7 || f.Version != 1 {
		text += fmt.Sprintf(" of %d, %d", f.Stripe, f.Version)
	}
	return text
}

// sameShards tells whether two lists of shards are the same.
func sameShards(l, m [][]byte) bool {
	return slices.EqualFunc(l, m, bytes.Equal)
}

// same tells whether two finds are the same.
func same(f, g api.Find) bool {
	return f.Stripe == g.Stripe && f.Version == g.Version && f.Need == g.Need && f.Phase == g.Phase &&
		slices.Equal(f.Marks, g.Marks) && slices.Equal(f.Which, g.Which) && sameShards(f.Shards, g.Shards)
}

// is holds a find and an error against those that have to be.
func is(t *testing.T, what string, f api.Find, e api.Errno, want api.Find, refused api.Errno) {
	t.Helper()
	if e != refused || !same(f, want) {
		t.Fatalf("%s: %s, %d, want %s, %d", what, words(f), e, words(want), refused)
	}
}

// numbers tells whether a find's Stripe, Version, Need and count of indexes may be.
func numbers(stripe, version, n, need int) bool {
	within := func(n, least, most int) bool { return min(max(n, least), most) == n }
	return within(stripe, 0, far) && within(version, 1, far) && within(n, 1, 255) && within(need, 1, n)
}

// came tells whether each index of a g came once, and no other one did, with as many shards, all as long as a shard may be.
func came(f api.Find) bool {
	times := map[int]int{}
	for _, index := range f.Which {
		times[index]++
	}
	for index, letter := range marks(f) {
		if letter == 'g' && times[index] == 1 {
			delete(times, index)
		} else if letter == 'g' {
			return false
		}
	}
	sizes := map[int]int{}
	for _, shard := range f.Shards {
		sizes[len(shard)]++
	}
	for size := range sizes {
		if size > long || len(sizes) > 1 {
			return false
		}
	}
	return len(times) == 0 && len(f.Which) == len(f.Shards)
}

// right is Right by the chapter's words, in another way: upon the letters.
func right(f api.Find) bool {
	l := marks(f)
	if !numbers(f.Stripe, f.Version, len(l), f.Need) || strings.Contains(l, "?") || !came(f) {
		return false
	}
	got, lacks := strings.Count(l, "g"), strings.Count(l, "l")
	switch f.Phase {
	case 1:
		return got < f.Need && lacks <= len(l)-f.Need
	case 2:
		return got == f.Need
	case 3:
		return got < f.Need && lacks > len(l)-f.Need
	}
	return false
}

// places is where a letter is, rising.
func places(l string, letter byte) []int {
	var out []int
	for from := 0; ; {
		next := strings.IndexByte(l[from:], letter)
		if next < 0 {
			return out
		}
		out = append(out, from+next)
		from += next + 1
	}
}

// wants is Wants by the chapter's words, in another way.
func wants(f api.Find) []api.Want {
	var out []api.Want
	if right(f) && f.Phase == 1 {
		for _, index := range places(marks(f), '.') {
			out = append(out, api.Want{Index: index, Op: 4})
		}
	}
	return out
}

// lacks is Lacks by the chapter's words, in another way.
func lacks(f api.Find) []int {
	if !right(f) {
		return nil
	}
	return places(marks(f), 'l')
}

// put is f with a letter at an index.
func put(f api.Find, index int, letter byte) api.Find {
	f.Marks = slices.Clone(f.Marks)
	f.Marks[index] = strings.IndexByte(letters, letter)
	return f
}

// told is Told by the chapter's words, in another way: upon the letters.
func told(f api.Find, index int, e api.Errno, b []byte) (api.Find, api.Errno) {
	if !right(f) || index < 0 || index >= len(f.Marks) {
		return f, 140
	}
	if f.Phase != 1 || marks(f)[index] != '.' {
		return f, 0
	}
	fits := e == 0 && len(b) <= long && (len(f.Shards) == 0 || len(f.Shards[0]) == len(b))
	if !fits {
		f = put(f, index, 'l')
		if strings.Count(marks(f), "l") == len(f.Marks)-f.Need+1 {
			f.Phase = 3
		}
		return f, 0
	}
	f = put(f, index, 'g')
	f.Which, f.Shards = slices.Concat(f.Which, []int{index}), slices.Concat(f.Shards, [][]byte{b})
	if len(f.Which) == f.Need {
		f.Phase = 2
	}
	return f, 0
}

// lost is Lose by the chapter's words, in another way.
func lost(f api.Find, index int) (api.Find, api.Errno) {
	if !right(f) || index < 0 || index >= len(f.Marks) {
		return f, 140
	}
	if f.Phase == 1 && marks(f)[index] == 'l' {
		return put(f, index, '.'), 0
	}
	return f, 0
}

// tells holds a Told against the plain one, and answers what it told.
func tells(t *testing.T, f api.Find, index int, e api.Errno, b []byte) api.Find {
	t.Helper()
	want, refused := told(f, index, e, b)
	got, err := find.Told(f, index, e, b)
	if err != refused || !same(got, want) {
		t.Fatalf("Told(%s, %d, %d, %d bytes %.20q): %s, %d, want %s, %d", words(f), index, e, len(b), b, words(got), err, words(want), refused)
	}
	return got
}

// loses holds a Lose against the plain one, and answers what it told.
func loses(t *testing.T, f api.Find, index int) api.Find {
	t.Helper()
	want, refused := lost(f, index)
	got, e := find.Lose(f, index)
	if e != refused || !same(got, want) {
		t.Fatalf("Lose(%s, %d): %s, %d, want %s, %d", words(f), index, words(got), e, words(want), refused)
	}
	return got
}

// orders calls what it is handed with all orders of a list.
func orders(list []int, call func(order []int)) {
	var lay func(order []int)
	lay = func(order []int) {
		if len(order) == len(list) {
			call(slices.Clone(order))
		}
		for _, x := range list {
			if !slices.Contains(order, x) {
				lay(append(slices.Clone(order), x))
			}
		}
	}
	lay(nil)
}

// small calls what it is handed with finds of up to so many indexes, of which some are not right: with the marks from least to most, with all orders in which what is got came, and shards of so many bytes.
func small(most, least, greatest, size int, call func(f api.Find)) {
	var lay func(marks []int)
	lay = func(l []int) {
		for phase := 0; phase <= 4; phase++ {
			for need := 0; need <= len(l)+1; need++ {
				f := api.Find{Stripe: 7, Version: 1, Need: need, Phase: phase, Marks: slices.Clone(l)}
				orders(places(marks(f), 'g'), func(order []int) {
					f.Which, f.Shards = order, nil
					for i := range order {
						f.Shards = append(f.Shards, bytes.Repeat([]byte{byte('a' + i)}, size))
					}
					call(f)
				})
			}
		}
		for mark := least; mark <= greatest && len(l) < most; mark++ {
			lay(append(slices.Clone(l), mark))
		}
	}
	lay(nil)
}

// smallRight calls what it is handed with all right finds of up to so many indexes, with shards of so many bytes.
func smallRight(most, size int, call func(f api.Find)) {
	small(most, 0, 2, size, func(f api.Find) {
		if right(f) {
			call(f)
		}
	})
}

// wrong are finds that are not right, by each of the words.
func wrong() []api.Find {
	var out []api.Find
	for _, text := range []string{
		"none 0", "asking 1", "done 0", "none 1 .", "none 1 gg 0=a 1=b", "asking 0 .", "asking 2 .", "lost 3 ll", "done 0 .", "lost 0 .",
		"asking 1 g 0=a", "asking 2 ggg 0=a 1=b 2=c", "asking 1 l", "asking 2 .ll", "asking 2 gll 0=a",
		"done 2 g. 0=a", "done 1 .", "done 1 l", "done 1 gg 0=a 1=b", "done 2 g.g 0=a", "lost 1 .", "lost 1 g 0=a", "lost 2 .l.", "lost 2 g.l 0=a", "lost 1 gl 0=a",
		"asking 3 g.. 1=a", "asking 3 g.. 0=a 0=a", "asking 3 g.. 0=a 1=b", "asking 3 g..", "asking 3 ... 0=a", "asking 3 gg. 0=a 0=b", "asking 3 gg. 0=a", "asking 3 gg. 0=a 1=bb", "asking 3 gg. 0= 1=b",
		"done 1 g 1=a", "done 1 g -1=a", "done 2 gg 1=a 0=bc", "done 2 gg 1=a 1=b", "done 2 gg 0=a 1=b 1=b", "done 2 gg 0=a 1=b 2=c", "lost 3 ggl 0=a 2=b",
		"asking 5 " + strings.Repeat(".", 3000), "done 1 g" + strings.Repeat("l", 255) + " 0=a", "done 1 g 0=" + strings.Repeat("a", long+1), "asking 2 g. 0=" + strings.Repeat("a", 2*long),
	} {
		out = append(out, at(text))
	}
	for _, v := range []int{-1, far + 1, math.MinInt, math.MaxInt} {
		f, g, h, p := at("done 1 g. 0=a"), at("done 1 g. 0=a"), at("done 1 g. 0=a"), at("done 1 g. 0=a")
		f.Stripe, g.Version, h.Need, p.Phase = v, v, v, v
		m, w := at("done 1 g. 0=a"), at("done 1 g. 0=a")
		m.Marks[1], w.Which[0] = v, v
		out = append(out, f, g, h, p, m, w)
	}
	f, g, h, p := at("done 1 g. 0=a"), at("done 1 g. 0=a"), at("done 1 g. 0=a"), at("done 1 g. 0=a")
	f.Version, g.Marks[1], h.Shards, p.Which = 0, 3, nil, nil
	return append(out, f, g, h, p, api.Find{})
}

// odd are errors beside OK: those that nodes tell, and others.
var odd = []api.Errno{1, 2, 3, 12, 15, 17, 40, 59, 60, 61, 62, 63, 120, 130, 140, 256, -1, -60, 1 << 32, 1 << 40, math.MinInt, math.MaxInt}

// made is the code of k and n.
func made(k, n int) *code.Code {
	c, e := code.New(field.New(), k, n)
	if e != api.OK {
		panic(fmt.Sprint("no code of ", k, " and ", n))
	}
	return c
}

// chance is numbers by a rule from a seed.
type chance uint64

// below is the next one, from 0 on and below n.
func (c *chance) below(n int) int {
	*c = *c*6364136223846793005 + 1442695040888963407
	return int(uint64(*c)>>33) % n
}

// bytes is so many bytes by chance.
func (c *chance) bytes(n int) []byte {
	b := make([]byte, n)
	for i := range b {
		b[i] = byte(c.below(256))
	}
	return b
}

// stripe is so many shards of that size by chance.
func (c *chance) stripe(k, size int) [][]byte {
	var data [][]byte
	for range k {
		data = append(data, c.bytes(size))
	}
	return data
}
