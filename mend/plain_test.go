package mend_test

import (
	"bytes"
	"fmt"
	"maps"
	"math"
	"slices"
	"strconv"
	"strings"
	"testing"

	"cooperage/api"
	"cooperage/code"
	"cooperage/field"
	"cooperage/mend"
)

// far is the greatest Stripe and Version, long the most bytes of a shard, most the most later versions of an index.
const (
	far  = 1 << 40
	long = 1 << 16
	most = 50
)

// phases are the words of the phases, by their numbers.
var phases = []string{"none", "going", "done", "lost"}

// letters are those of the marks, by their numbers: nothing, there, read, lacks, bad; committed ones are those of the second row.
const letters, committed = ".trlb", ":TRLB"

// letter is that of a mark; a mark that is none is a question mark.
func letter(k api.MendMark) byte {
	switch {
	case k.Mark < 0 || k.Mark >= len(letters):
		return '?'
	case k.Committed:
		return committed[k.Mark]
	}
	return letters[k.Mark]
}

// row is the letters of all marks.
func row(m api.Mend) string {
	var b []byte
	for _, k := range m.Marks {
		b = append(b, letter(k))
	}
	return string(b)
}

// list is whole numbers with commas between.
func list(l []int) string {
	var out []string
	for _, n := range l {
		out = append(out, strconv.Itoa(n))
	}
	return strings.Join(out, ",")
}

// word is what mark is told of a mark.
func word(k api.MendMark) string {
	return string(letter(k)) + list(k.Extra)
}

// mark is that of a letter, with the later versions behind it.
func mark(word string) api.MendMark {
	k := api.MendMark{Mark: strings.IndexByte(letters, word[0])}
	if k.Mark < 0 {
		k.Mark, k.Committed = strings.IndexByte(committed, word[0]), true
	}
	for _, text := range strings.FieldsFunc(word[1:], func(r rune) bool { return r == ',' }) {
		version, _ := strconv.Atoi(text)
		k.Extra = append(k.Extra, version)
	}
	return k
}

// at is a mending of the stripe 7, told by its phase, its Need, its Version behind a v, a letter for each index with the later versions behind it, and each shard behind its index.
func at(text string) api.Mend {
	l := strings.Fields(text)
	m := api.Mend{Stripe: 7, Phase: slices.Index(phases, l[0])}
	m.Need, _ = strconv.Atoi(l[1])
	m.Version, _ = strconv.Atoi(strings.TrimPrefix(l[2], "v"))
	for _, word := range l[3:] {
		if which, shard, ok := strings.Cut(word, "="); ok {
			index, _ := strconv.Atoi(which)
			m.Which, m.Shards = append(m.Which, index), append(m.Shards, []byte(shard))
		} else {
			m.Marks = append(m.Marks, mark(word))
		}
	}
	return m
}

// words is what at is told of a mending; of one that at does not tell it is more.
func words(m api.Mend) string {
	phase := fmt.Sprint(m.Phase)
	if m.Phase > 0 && m.Phase < len(phases) {
		phase = phases[m.Phase]
	}
	text := fmt.Sprintf("%s %d v%d", phase, m.Need, m.Version)
	for _, k := range m.Marks[:min(len(m.Marks), 300)] {
		text += " " + word(k)
	}
	for i := range max(len(m.Which), len(m.Shards)) {
		which, shard := "no index", "no shard"
		if i < len(m.Which) {
			which = fmt.Sprint(m.Which[i])
		}
		if i < len(m.Shards) {
			shard = fmt.Sprintf("%.20q", m.Shards[i])
		}
		text += " " + which + "=" + shard
	}
	if m.Stripe != 7 {
		text += fmt.Sprintf(" of %d", m.Stripe)
	}
	return text
}

// sameShards tells whether two lists of shards are the same.
func sameShards(l, m [][]byte) bool {
	return slices.EqualFunc(l, m, bytes.Equal)
}

// sameMark tells whether two marks are the same.
func sameMark(k, l api.MendMark) bool {
	return k.Mark == l.Mark && k.Committed == l.Committed && slices.Equal(k.Extra, l.Extra)
}

// same tells whether two mendings are the same.
func same(m, o api.Mend) bool {
	return m.Stripe == o.Stripe && m.Version == o.Version && m.Need == o.Need && m.Phase == o.Phase &&
		slices.EqualFunc(m.Marks, o.Marks, sameMark) && slices.Equal(m.Which, o.Which) && sameShards(m.Shards, o.Shards)
}

// is holds a mending and an error against those that have to be.
func is(t *testing.T, what string, m api.Mend, e api.Errno, want api.Mend, refused api.Errno) {
	t.Helper()
	if e != refused || !same(m, want) {
		t.Fatalf("%s: %s, %d, want %s, %d", what, words(m), e, words(want), refused)
	}
}

// numbers tells whether a mending's Stripe, Version, Need and count of indexes may be.
func numbers(stripe, version, n, need int) bool {
	within := func(n, least, most int) bool { return min(max(n, least), most) == n }
	return within(stripe, 0, far) && within(version, 0, far) && within(n, 1, 255) && within(need, 1, n)
}

// came tells whether the shards that were read may be.
func came(m api.Mend) bool {
	times, sizes := map[int]int{}, map[int]int{}
	for _, index := range m.Which {
		times[index]++
		if times[index] > 1 || index < 0 || index >= len(m.Marks) {
			return false
		}
	}
	for _, shard := range m.Shards {
		sizes[len(shard)]++
	}
	for size := range sizes {
		if size > long || len(sizes) > 1 {
			return false
		}
	}
	return len(m.Which) == len(m.Shards) && len(m.Which) <= m.Need && (m.Version > 0 || len(m.Which) == 0)
}

// stairs tells whether l rises, step by step.
func stairs(l []int) bool {
	for i := 1; i < len(l); i++ {
		if l[i-1] >= l[i] {
			return false
		}
	}
	return true
}

// ends is what a mending is by its letters: that of it which is whole, and that which cannot be.
func ends(m api.Mend) (whole, never bool) {
	done := map[bool]string{true: "R", false: "r"}[m.Version > 0]
	whole = strings.Trim(row(m), done) == ""
	for _, k := range m.Marks {
		whole = whole && len(k.Extra) == 0
	}
	return whole, m.Version > 0 && !strings.ContainsAny(row(m), ".:tT") && len(m.Shards) < m.Need
}

// right is Right by the chapter's words, in another way: upon the letters.
func right(m api.Mend) bool {
	if !numbers(m.Stripe, m.Version, len(m.Marks), m.Need) || !came(m) {
		return false
	}
	may := map[bool]string{true: ".trlbTR", false: ".r"}[m.Version > 0]
	for _, k := range m.Marks {
		if !strings.Contains(may, string(letter(k))) || letter(k) == '.' && len(k.Extra) > 0 || len(k.Extra) > most {
			return false
		}
		if !stairs(slices.Concat([]int{m.Version}, k.Extra, []int{far + 1})) {
			return false
		}
	}
	whole, never := ends(m)
	switch m.Phase {
	case 1:
		return !whole && !never
	case 2:
		return whole
	case 3:
		return !whole
	}
	return false
}

// wants is Wants by the chapter's words, in another way.
func wants(m api.Mend) []api.Errand {
	if !right(m) || m.Phase != 1 {
		return nil
	}
	var out []api.Errand
	for index, k := range m.Marks {
		ask := func(op api.NodeOp, version int) {
			out = append(out, api.Errand{Index: index, Op: op, Version: version})
		}
		enough := len(m.Which) == m.Need
		switch l := letter(k); {
		case l == '.':
			ask(4, 0)
		case len(k.Extra) > 0 && m.Version == 0:
			ask(6, slices.Max(k.Extra))
		case len(k.Extra) > 0:
			ask(3, slices.Max(k.Extra))
		case l == 't' || l == 'T':
			ask(4, m.Version)
		case l == 'b' && enough:
			ask(6, m.Version)
		case l == 'l' && enough:
			ask(1, m.Version)
		case l == 'r' && m.Version > 0:
			ask(2, m.Version)
		}
	}
	return out
}

// learned is the word of an index that told what it has.
func learned(m api.Mend, index int, infos []api.Info) string {
	letter, later := "l", map[int]int{}
	for _, x := range infos {
		if x.Stripe != m.Stripe || x.Index != index {
			continue
		}
		switch {
		case x.Version == m.Version && x.State == 2:
			letter = "T"
		case x.Version == m.Version && letter == "l":
			letter = "t"
		case x.Version > m.Version && x.Version <= far:
			later[x.Version]++
		}
	}
	if m.Version == 0 {
		letter = "r"
	}
	extra := slices.Sorted(maps.Keys(later))
	return letter + list(extra[:min(most, len(extra))])
}

// fetched is m, to be changed, with a shard that an index told.
func fetched(m api.Mend, index int, b []byte) api.Mend {
	if len(b) > long || len(m.Shards) > 0 && len(m.Shards[0]) != len(b) {
		m.Phase = 3
		return m
	}
	m.Marks[index].Mark = 2
	for _, i := range m.Which {
		if i == index {
			return m
		}
	}
	if len(m.Which) < m.Need {
		m.Which, m.Shards = slices.Concat(m.Which, []int{index}), slices.Concat(m.Shards, [][]byte{b})
	}
	return m
}

// told is Told by the chapter's words, in another way: by a line for each thing that it names.
func told(m api.Mend, w api.Errand, x api.Tell) (api.Mend, api.Errno) {
	if !right(m) || w.Index < 0 || w.Index >= len(m.Marks) {
		return m, 160
	}
	if !slices.Contains(wants(m), w) {
		return m, 0
	}
	m.Marks = slices.Clone(m.Marks)
	k := m.Marks[w.Index]
	become := func(word string) { m.Marks[w.Index] = mark(word) }
	none := map[bool]string{true: " of 0", false: ""}[w.Version == 0 || w.Op == 6 && m.Version == 0]
	switch fmt.Sprintf("%d%s: %d", w.Op, none, x.Err) {
	case "4 of 0: 0":
		become(learned(m, w.Index, x.Infos))
	case "4: 0":
		m = fetched(m, w.Index, x.Bytes)
	case "4: 60", "6: 0":
		become("l")
	case "4: 12", "1: 60":
		become("b")
	case "3: 0":
		become(string(letter(k)) + list(k.Extra[:len(k.Extra)-1]))
	case "6 of 0: 0", "1: 0":
		become("r")
	case "2: 0":
		become("R")
	case "2: 60":
		become(".")
	case "1: 61", "2: 61", "3: 61":
		m.Phase = 3
	}
	if whole, never := ends(m); m.Phase == 1 && whole {
		m.Phase = 2
	} else if m.Phase == 1 && never {
		m.Phase = 3
	}
	return m, 0
}

// lost is Lose by the chapter's words, in another way.
func lost(m api.Mend, index int) (api.Mend, api.Errno) {
	if !right(m) || index < 0 || index >= len(m.Marks) {
		return m, 160
	}
	if m.Phase == 1 {
		m.Marks = slices.Clone(m.Marks)
		m.Marks[index] = mark(".")
	}
	return m, 0
}

// tells holds a Told against the plain one, and answers what it told.
func tells(t *testing.T, m api.Mend, w api.Errand, x api.Tell) api.Mend {
	t.Helper()
	want, refused := told(m, w, x)
	got, e := mend.Told(m, w, x)
	if e != refused || !same(got, want) {
		t.Fatalf("Told(%s, %v, %d, %.200s, %d bytes %.20q): %s, %d, want %s, %d", words(m), w, x.Err, fmt.Sprint(x.Infos), len(x.Bytes), x.Bytes, words(got), e, words(want), refused)
	}
	return got
}

// loses holds a Lose against the plain one, and answers what it told.
func loses(t *testing.T, m api.Mend, index int) api.Mend {
	t.Helper()
	want, refused := lost(m, index)
	got, e := mend.Lose(m, index)
	if e != refused || !same(got, want) {
		t.Fatalf("Lose(%s, %d): %s, %d, want %s, %d", words(m), index, words(got), e, words(want), refused)
	}
	return got
}

// choices calls what it is handed with all choices of up to so many of the numbers below n, in all orders.
func choices(n, most int, call func(which []int)) {
	var lay func(which []int)
	lay = func(which []int) {
		call(slices.Clone(which))
		for i := range n {
			if len(which) < most && !slices.Contains(which, i) {
				lay(append(slices.Clone(which), i))
			}
		}
	}
	lay(nil)
}

// rows calls what it is handed with all rows of up to so many of these words.
func rows(most int, of []string, call func(row []string)) {
	var lay func(row []string)
	lay = func(row []string) {
		call(row)
		for _, word := range of {
			if len(row) < most {
				lay(append(slices.Clone(row), word))
			}
		}
	}
	lay(nil)
}

// small calls what it is handed with mendings of up to so many indexes whose marks are of these words, of which some mendings are not right: of all phases and Needs, with all choices of shards of so many bytes, in all orders.
func small(most, version, size int, of []string, call func(m api.Mend)) {
	rows(most, of, func(row []string) {
		var marks []api.MendMark
		for _, word := range row {
			marks = append(marks, mark(word))
		}
		choices(len(row), len(row), func(which []int) {
			var shards [][]byte
			for i := range which {
				shards = append(shards, bytes.Repeat([]byte{byte('a' + i)}, size))
			}
			for phase := range 5 {
				for need := range len(row) + 2 {
					call(api.Mend{Stripe: 7, Version: version, Need: need, Phase: phase, Marks: marks, Which: which, Shards: shards})
				}
			}
		})
	})
}

// allWords are words of marks where the version 5 is published: each letter, with none, one, and two later versions, and such as may not be.
var allWords = strings.Fields(". : t T r R l L b B .6 :6 t6 T6 r6 R6 l6 L6 b6 B6 .6,7 t6,7 T6,8 r6,9 R6,7 l6,7 b6,7 t5 T6,6 r7,6 l4 b0")

// rightWords are those of them that may be.
var rightWords = strings.Fields(". t T r R l b t6 T6 r6 R6 l6 b6 t6,7 R6,8 l6,7")

// noneWords are words of marks where no version is published.
var noneWords = strings.Fields(". r r1 r1,2 r2,9")

// smallRight calls what it is handed with all right mendings of up to so many indexes with marks of these words.
func smallRight(most, version, size int, of []string, call func(m api.Mend)) {
	small(most, version, size, of, func(m api.Mend) {
		if right(m) {
			call(m)
		}
	})
}

// rising is so many versions from one on, as they stand in a mark's word.
func rising(from, many int) string {
	var l []int
	for i := range many {
		l = append(l, from+i)
	}
	return list(l)
}

// wrong are mendings that are not right, by each of the words.
func wrong() []api.Mend {
	var out []api.Mend
	for _, text := range []string{
		"none 0 v0", "going 1 v5", "done 1 v5", "lost 1 v5", "none 1 v5 .", "none 1 v5 R 0=a", "going 0 v5 .", "going 2 v5 .", "lost 3 v5 l l", "done 0 v5 R",
		"going 1 v5 .6", "lost 1 v5 .6", "going 1 v5 :", "going 1 v5 L 0=a", "lost 1 v5 B", "going 1 v5 L6 0=a", "going 1 v5 B6 0=a", "going 2 v5 t :",
		"going 1 v5 t5", "going 1 v5 t4", "going 1 v5 t6,6", "going 1 v5 t7,6", "going 1 v5 t6,5", "going 1 v5 t0", "going 1 v5 t-1", "lost 1 v5 r6,7,7", "going 1 v5 t" + rising(6, 51),
		"going 1 v5 t" + strconv.Itoa(far+1), "going 1 v5 t6," + strconv.Itoa(far+1), "going 1 v0 . r" + strconv.Itoa(far+1), "going 1 v0 . r0", "going 1 v0 . r" + rising(1, 51),
		"going 1 v0 . t", "going 1 v0 . l", "going 1 v0 . b", "going 1 v0 . R", "going 1 v0 . T1", "going 1 v0 . l1", "going 1 v0 .1", "going 1 v0 . 0=a", "done 1 v0 r 0=a", "lost 1 v0 . 0=", "done 1 v0 R",
		"going 1 v5 R 0=a", "going 1 v5 R", "lost 1 v5 R 0=a", "lost 1 v5 R", "going 1 v0 r", "lost 1 v0 r", "lost 2 v0 r r",
		"done 1 v5 .", "done 1 v5 r 0=a", "done 1 v5 T", "done 1 v5 R6 0=a", "done 1 v5 R r 0=a", "done 1 v0 .", "done 1 v0 r1", "done 2 v5 R R l 0=a 1=b", "done 1 v5 R b 0=a",
		"going 1 v5 l", "going 1 v5 l b", "going 2 v5 R l 0=a", "going 2 v5 R b6", "going 1 v5 r", "going 1 v5 R r", "going 2 v5 r6 R 0=a",
		"going 3 v5 R . . 3=a", "going 3 v5 R . . -1=a", "going 3 v5 R . . 0=a 0=a", "going 1 v5 R . . 0=a 1=b", "going 2 v5 . . . 0=a 1=b 2=c", "going 3 v5 R . . 0=a 1=bb", "going 3 v5 R . . 0= 1=b", "done 2 v5 R R 0=a 0=b",
		"going 1 v5 . 0=" + strings.Repeat("a", long+1), "going 2 v5 . . 0=" + strings.Repeat("a", 2*long), "going 5 v5 " + strings.Repeat(". ", 256), "done 1 v5 " + strings.Repeat("R ", 256) + "0=a", "done 1 v0 " + strings.Repeat("r ", 256),
	} {
		out = append(out, at(text))
	}
	for _, v := range []int{-1, far + 1, math.MinInt, math.MaxInt} {
		for part := range 7 {
			m := at("going 1 v5 R . 0=a")
			*[]*int{&m.Stripe, &m.Version, &m.Need, &m.Phase, &m.Marks[1].Mark, &m.Marks[0].Mark, &m.Which[0]}[part] = v
			out = append(out, m)
		}
	}
	m, n, o, p, q := at("going 1 v5 R . 0=a"), at("going 1 v5 R . 0=a"), at("going 1 v5 R . 0=a"), at("going 1 v5 R . 0=a"), at("going 1 v5 R . 0=a")
	m.Version, n.Marks[1].Mark, o.Shards, p.Which, q.Phase = 0, 5, nil, nil, 4
	return append(out, m, n, o, p, q, api.Mend{})
}

// odd are errors of which nothing is named, whatever was asked.
var odd = []api.Errno{1, 2, 3, 10, 11, 13, 15, 17, 40, 59, 62, 63, 120, 130, 160, 256 + 60, -1, -60, 1 << 32, 1<<32 + 12, 1 << 40, math.MinInt, math.MaxInt}

// made is the code of k and n.
func made(k, n int) *code.Code {
	c, e := code.New(field.New(), k, n)
	if e != api.OK {
		panic(fmt.Sprint("no code of ", k, " and ", n))
	}
	return c
}

// chance is numbers by a rule from a seed.
type chance uint64

// below is the next one, from 0 on and below n.
func (c *chance) below(n int) int {
	*c = *c*6364136223846793005 + 1442695040888963407
	return int(uint64(*c)>>33) % n
}

// bytes is so many bytes by chance.
func (c *chance) bytes(n int) []byte {
	b := make([]byte, n)
	for i := range b {
		b[i] = byte(c.below(256))
	}
	return b
}

// stripe is so many shards of that size by chance.
func (c *chance) stripe(k, size int) [][]byte {
	var data [][]byte
	for range k {
		data = append(data, c.bytes(size))
	}
	return data
}
