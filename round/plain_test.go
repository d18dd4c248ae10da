package round_test

import (
	"fmt"
	"math"
	"slices"
	"strconv"
	"strings"
	"testing"

	"cooperage/api"
	"cooperage/round"
)

// far is the greatest Stripe and Version.
const far = 1 << 40

// phases are the words of the phases, by their numbers.
var phases = []string{"none", "asking", "ready", "published", "done", "given", "gone"}

// letters are those of the marks, by their numbers: nothing, prepared, committed, refused, gone.
const letters = ".pcrg"

// ops are the words of what is asked, by its numbers.
var ops = []string{"none", "prepare", "commit", "abort", "read", "list", "drop"}

// at is a round, told by its phase, its Need, and a letter for each index; it is one of the stripe 7 and the version 1.
func at(words string) api.Round {
	l := append(strings.Fields(words), "")
	need, _ := strconv.Atoi(l[1])
	r := api.Round{Stripe: 7, Version: 1, Need: need, Phase: slices.Index(phases, l[0])}
	for _, letter := range []byte(l[2]) {
		r.Marks = append(r.Marks, strings.IndexByte(letters, letter))
	}
	return r
}

// marks is the letters of a round's indexes; a mark that is none is a question mark.
func marks(r api.Round) string {
	var b []byte
	for _, mark := range r.Marks {
		if mark < 0 || mark >= len(letters) {
			b = append(b, '?')
		} else {
			b = append(b, letters[mark])
		}
	}
	return string(b)
}

// words is what at is told of a round; of one that at does not tell it is more.
func words(r api.Round) string {
	phase := fmt.Sprint(r.Phase)
	if r.Phase > 0 && r.Phase < len(phases) {
		phase = phases[r.Phase]
	}
	text := fmt.Sprintf("%s %d %.300s", phase, r.Need, marks(r))
	if r.Stripe != 7 || r.Version != 1 {
		text += fmt.Sprintf(" of %d, %d", r.Stripe, r.Version)
	}
	return text
}

// same tells whether two rounds are the same.
func same(r, q api.Round) bool {
	return r.Stripe == q.Stripe && r.Version == q.Version && r.Need == q.Need && r.Phase == q.Phase && slices.Equal(r.Marks, q.Marks)
}

// is holds a round and an error against those that have to be.
func is(t *testing.T, what string, r api.Round, e api.Errno, want api.Round, refused api.Errno) {
	t.Helper()
	if e != refused || !same(r, want) {
		t.Fatalf("%s: %s, %d, want %s, %d", what, words(r), e, words(want), refused)
	}
}

// numbers tells whether a round's Stripe, Version, Need and count of indexes may be.
func numbers(stripe, version, n, need int) bool {
	within := func(n, least, most int) bool { return min(max(n, least), most) == n }
	return within(stripe, 0, far) && within(version, 1, far) && within(n, 1, 255) && within(need, 1, n)
}

// right is Right by the chapter's words, in another way: upon the letters.
func right(r api.Round) bool {
	l := marks(r)
	if !numbers(r.Stripe, r.Version, len(l), r.Need) || strings.Contains(l, "?") {
		return false
	}
	all := func(letter string) bool { return strings.Trim(l, letter) == "" }
	prepared, refused := strings.Count(l, "p"), strings.Count(l, "r")
	switch r.Phase {
	case 1:
		return !strings.ContainsAny(l, "cg") && prepared < r.Need && refused <= len(l)-r.Need
	case 2:
		return !strings.ContainsAny(l, "cg") && prepared >= r.Need
	case 3:
		return !strings.Contains(l, "g") && !all("c")
	case 4:
		return all("c")
	case 5:
		return !strings.Contains(l, "c") && !all("g")
	case 6:
		return all("g")
	}
	return false
}

// wants is Wants by the chapter's words, in another way: for each phase and mark a word, and none for nothing.
func wants(r api.Round) []api.Want {
	table := map[string]string{
		"asking.": "prepare", "ready.": "prepare",
		"published.": "prepare", "publishedr": "prepare", "publishedp": "commit",
		"given.": "abort", "givenp": "abort", "givenr": "abort",
	}
	if !right(r) {
		return nil
	}
	var out []api.Want
	for index, letter := range marks(r) {
		if op := table[phases[r.Phase]+string(letter)]; op != "" {
			out = append(out, api.Want{Index: index, Op: api.NodeOp(slices.Index(ops, op))})
		}
	}
	return out
}

// rules are the chapter's: in these phases an answer to this ask, with this error, makes of these marks that one. The first that fits counts.
var rules = []struct{ phases, op, e, from, to string }{
	{"asking ready", "prepare", "0", ".pr", "p"},
	{"asking ready", "prepare", "any", ".", "r"},
	{"published", "prepare", "0", ".r", "p"},
	{"published", "prepare", "61", ".pcr", "c"},
	{"published", "prepare", "any", ".", "r"},
	{"published", "commit", "0", ".pcr", "c"},
	{"published", "commit", "61", ".pcr", "c"},
	{"published", "commit", "60", "p", "."},
	{"given", "prepare", "0", ".prg", "p"},
	{"given", "abort", "0", ".prg", "g"},
	{"given", "abort", "61", ".prg", "g"},
}

// made is the letter that an answer makes of one.
func made(phase string, letter byte, op api.NodeOp, e api.Errno) byte {
	for _, x := range rules {
		fits := int(op) == slices.Index(ops, x.op) && strings.Contains(x.phases, phase) && strings.IndexByte(x.from, letter) >= 0
		if fits && (x.e == "any" || x.e == strconv.Itoa(int(e))) {
			return x.to[0]
		}
	}
	return letter
}

// told is Told by the chapter's words, in another way: upon the letters, by the rules.
func told(r api.Round, index int, op api.NodeOp, e api.Errno) (api.Round, api.Errno) {
	if !right(r) || index < 0 || index >= len(r.Marks) {
		return r, api.ErrRound
	}
	phase, b := phases[r.Phase], []byte(marks(r))
	b[index] = made(phase, b[index], op, e)
	l, n := string(b), len(b)
	switch {
	case phase == "asking" && strings.Count(l, "p") == r.Need:
		phase = "ready"
	case phase == "asking" && strings.Count(l, "r") > n-r.Need:
		phase = "given"
	case phase == "published" && strings.Count(l, "c") == n:
		phase = "done"
	case phase == "given" && strings.Count(l, "g") == n:
		phase = "gone"
	}
	out := at(phase + " " + strconv.Itoa(r.Need) + " " + l)
	out.Stripe, out.Version = r.Stripe, r.Version
	return out, api.OK
}

// lost is Lose by the chapter's words, in another way.
func lost(r api.Round, index int) (api.Round, api.Errno) {
	if !right(r) || index < 0 || index >= len(r.Marks) {
		return r, api.ErrRound
	}
	if r.Phase == 4 || r.Phase == 6 {
		return r, api.OK
	}
	l := marks(r)
	l = l[:index] + "." + l[index+1:]
	phase := phases[r.Phase]
	if phase == "ready" && strings.Count(l, "p") < r.Need {
		phase = "asking"
	}
	out := at(phase + " " + strconv.Itoa(r.Need) + " " + l)
	out.Stripe, out.Version = r.Stripe, r.Version
	return out, api.OK
}

// tells holds a Told against the plain one, and answers what it told.
func tells(t *testing.T, r api.Round, index int, op api.NodeOp, e api.Errno) api.Round {
	t.Helper()
	want, refused := told(r, index, op, e)
	got, err := round.Told(r, index, op, e)
	if err != refused || !same(got, want) {
		t.Fatalf("Told(%s, %d, %d, %d): %s, %d, want %s, %d", words(r), index, op, e, words(got), err, words(want), refused)
	}
	return got
}

// loses holds a Lose against the plain one, and answers what it told.
func loses(t *testing.T, r api.Round, index int) api.Round {
	t.Helper()
	want, refused := lost(r, index)
	got, e := round.Lose(r, index)
	if e != refused || !same(got, want) {
		t.Fatalf("Lose(%s, %d): %s, %d, want %s, %d", words(r), index, words(got), e, words(want), refused)
	}
	return got
}

// small calls what it is handed with all rounds of up to so many indexes, of which some are not right: with the marks from least to most.
func small(most, least, greatest int, call func(r api.Round)) {
	var lay func(marks []int)
	lay = func(marks []int) {
		for phase := 0; phase <= 7; phase++ {
			for need := 0; need <= len(marks)+1; need++ {
				call(api.Round{Stripe: 7, Version: 1, Need: need, Phase: phase, Marks: slices.Clone(marks)})
			}
		}
		for mark := least; mark <= greatest && len(marks) < most; mark++ {
			lay(append(slices.Clone(marks), mark))
		}
	}
	lay(nil)
}

// smallRight calls what it is handed with all right rounds of up to so many indexes.
func smallRight(most int, call func(r api.Round)) {
	small(most, 0, 4, func(r api.Round) {
		if right(r) {
			call(r)
		}
	})
}

// wrong are rounds that are not right, by each of the words.
func wrong() []api.Round {
	out := []api.Round{
		{}, at("asking 1"), at("gone 0"), at("none 1 ."), at("asking 0 ."), at("asking 2 ."), at("asking 1 p"), at("asking 1 c"), at("asking 2 .g"), at("asking 2 r."), at("asking 1 rr"),
		at("ready 2 p."), at("ready 1 pc"), at("ready 1 pg"), at("published 1 cc"), at("published 1 pg"), at("done 1 cp"), at("done 1 c."), at("given 1 gg"), at("given 1 pc"), at("gone 1 g."),
	}
	for _, v := range []int{-1, far + 1, math.MinInt, math.MaxInt} {
		r, q, s, p := at("ready 1 p."), at("ready 1 p."), at("ready 1 p."), at("ready 1 p.")
		r.Stripe, q.Version, s.Need, p.Phase = v, v, v, v
		m := at("ready 1 p.")
		m.Marks[1] = v
		out = append(out, r, q, s, p, m)
	}
	r := at("ready 1 p.")
	r.Version = 0
	return append(out, r, at("ready 1 "+strings.Repeat("p", 256)), at("asking 5 "+strings.Repeat(".", 3000)))
}

// odd are errors beside those that the chapter names.
var odd = []api.Errno{1, 2, 3, 12, 15, 17, 59, 62, 63, 120, 130, 256 + 60, -1, -61, 1 << 32, 1<<32 + 61, math.MinInt, math.MaxInt}

// errs are those that an answer may be of: those that the chapter names, and others.
var errs = append([]api.Errno{api.OK, api.ErrSlot, api.ErrStale}, odd...)

// chance is numbers by a rule from a seed.
type chance uint64

// below is the next one, from 0 on and below n.
func (c *chance) below(n int) int {
	*c = *c*6364136223846793005 + 1442695040888963407
	return int(uint64(*c)>>33) % n
}

// answer is what an answer may be of: mostly of an ask, and an error, that are named.
func (c *chance) answer() (api.NodeOp, api.Errno) {
	return api.NodeOp(1 + c.below(3+c.below(8)/7*3)), errs[c.below(3+c.below(3))]
}
