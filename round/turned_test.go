package round_test

import (
	"testing"

	"cooperage/api"
	"cooperage/round"
)

// P12.3: Lose by the chapter's words, one by one; it is of the index 0.
func TestLoseByWords(t *testing.T) {
	for from, to := range map[string]string{
		"asking 2 ...": "asking 2 ...", "asking 2 p..": "asking 2 ...", "asking 2 rp.": "asking 2 .p.",
		"ready 2 pp.": "asking 2 .p.", "ready 1 pp": "ready 1 .p", "ready 1 p": "asking 1 .", "ready 1 rp": "ready 1 .p", "ready 1 prr": "asking 1 .rr", "ready 2 .pp": "ready 2 .pp",
		"published 2 pp": "published 2 .p", "published 2 cc.": "published 2 .c.", "published 1 rp": "published 1 .p", "published 1 p": "published 1 .",
		"given 2 gg.": "given 2 .g.", "given 1 p": "given 1 .", "given 1 rg": "given 1 .g",
		"done 1 cc": "done 1 cc", "gone 1 gg": "gone 1 gg", "done 1 c": "done 1 c", "gone 1 g": "gone 1 g",
	} {
		r, e := round.Lose(at(from), 0)
		is(t, "Lose("+from+", 0)", r, e, at(to), api.OK)
	}
}

// P12.3: Lose of each index of all right rounds of up to four.
func TestLoseOfAllSmall(t *testing.T) {
	smallRight(4, func(r api.Round) {
		for index := range r.Marks {
			if q := loses(t, r, index); !round.Right(q) {
				t.Fatalf("Lose(%s, %d): %s, which is not right", words(r), index, words(q))
			}
		}
	})
}

// turns holds Publish and Give of a round against the chapter's words.
func turns(t *testing.T, r api.Round) {
	t.Helper()
	published, given := r, r
	publish, give := api.ErrNow, api.ErrNow
	switch {
	case !right(r):
		publish, give = api.ErrRound, api.ErrRound
	case r.Phase == 1:
		given.Phase, give = 5, api.OK
	case r.Phase == 2:
		published.Phase, publish = 3, api.OK
		given.Phase, give = 5, api.OK
	}
	q, e := round.Publish(r)
	is(t, "Publish("+words(r)+")", q, e, published, publish)
	if round.Right(q) != right(r) {
		t.Fatalf("Publish(%s): %s, which is right: %v", words(r), words(q), round.Right(q))
	}
	q, e = round.Give(r)
	is(t, "Give("+words(r)+")", q, e, given, give)
	if round.Right(q) != right(r) {
		t.Fatalf("Give(%s): %s, which is right: %v", words(r), words(q), round.Right(q))
	}
}

// P12.3: Publish and Give of all rounds of up to four indexes, right or not.
func TestTurnsOfAllSmall(t *testing.T) {
	small(4, -1, 5, func(r api.Round) { turns(t, r) })
	for _, r := range wrong() {
		turns(t, r)
	}
}

// P12.3: Publish and Give by the chapter's words, one by one.
func TestTurnsByWords(t *testing.T) {
	for _, x := range []struct {
		from             string
		published, given string
	}{
		{"asking 2 p.", "", "given 2 p."}, {"asking 1 ..", "", "given 1 .."}, {"asking 2 .r.", "", "given 2 .r."},
		{"ready 2 pp", "published 2 pp", "given 2 pp"}, {"ready 1 .pr", "published 1 .pr", "given 1 .pr"}, {"ready 1 p", "published 1 p", "given 1 p"},
		{"published 2 pp", "", ""}, {"published 1 .r", "", ""}, {"done 1 c", "", ""}, {"given 1 p", "", ""}, {"given 1 .r", "", ""}, {"gone 1 g", "", ""},
	} {
		for name, want := range map[string]string{"Publish": x.published, "Give": x.given} {
			call := round.Publish
			if name == "Give" {
				call = round.Give
			}
			refused := api.OK
			if want == "" {
				want, refused = x.from, api.ErrNow
			}
			r, e := call(at(x.from))
			is(t, name+"("+x.from+")", r, e, at(want), refused)
		}
	}
}
