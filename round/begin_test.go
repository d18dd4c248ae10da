package round_test

import (
	"fmt"
	"math"
	"slices"
	"strings"
	"testing"

	"cooperage/api"
	"cooperage/round"
)

// begins holds a Begin against the chapter's words.
func begins(t *testing.T, stripe, version, n, need int) {
	t.Helper()
	want, refused := api.Round{}, api.ErrRound
	if numbers(stripe, version, n, need) {
		want, refused = at(fmt.Sprint("asking ", need, " ", strings.Repeat(".", n))), api.OK
		want.Stripe, want.Version = stripe, version
	}
	r, e := round.Begin(stripe, version, n, need)
	is(t, fmt.Sprintf("Begin(%d, %d, %d, %d)", stripe, version, n, need), r, e, want, refused)
	if round.Right(r) != (e == api.OK) {
		t.Fatalf("Begin(%d, %d, %d, %d): %s, which is right: %v", stripe, version, n, need, words(r), round.Right(r))
	}
}

// P12.1: Begin with all small numbers, and with all counts of indexes.
func TestBegin(t *testing.T) {
	for stripe := -2; stripe <= 3; stripe++ {
		for version := -1; version <= 3; version++ {
			for n := -2; n <= 6; n++ {
				for need := -2; need <= 7; need++ {
					begins(t, stripe, version, n, need)
				}
			}
		}
	}
	for n := range 260 {
		for need := range 260 {
			begins(t, 7, 1, n, need)
		}
	}
}

// P12.1: Begin at the edges, and far from them.
func TestBeginEdges(t *testing.T) {
	l := []int{math.MinInt, math.MinInt + 1, -far, -1, 0, 1, 2, 3, 254, 255, 256, 257, 1 << 32, 1<<32 + 1, far - 1, far, far + 1, 1 << 41, 1 << 62, math.MaxInt}
	for _, stripe := range l {
		for _, version := range l {
			for _, n := range l {
				for _, need := range l {
					begins(t, stripe, version, n, need)
				}
			}
		}
	}
}

// P12.1: what is wanted of all rounds of up to four indexes, right or not.
func TestWantsOfAllSmall(t *testing.T) {
	small(4, -1, 5, func(r api.Round) {
		if got := round.Wants(r); !slices.Equal(got, wants(r)) {
			t.Fatalf("Wants(%s): %v, want %v", words(r), got, wants(r))
		}
	})
}

// P12.1: what is wanted, by the chapter's words; nothing of what is not right.
func TestWantsByWords(t *testing.T) {
	for text, want := range map[string]string{
		"asking 2 ...": "prepare 0, prepare 1, prepare 2", "asking 2 pr.": "prepare 2", "asking 3 pr..": "prepare 2, prepare 3", "asking 2 p.": "prepare 1",
		"ready 2 pp": "", "ready 1 .p.r.": "prepare 0, prepare 2, prepare 4", "ready 1 ppr": "",
		"published 2 pp.": "commit 0, commit 1, prepare 2", "published 2 r.pc": "prepare 0, prepare 1, commit 2", "published 1 cr": "prepare 1", "published 1 rr": "prepare 0, prepare 1",
		"done 1 c": "", "done 2 ccc": "", "gone 1 g": "", "gone 2 ggg": "",
		"given 1 .prg": "abort 0, abort 1, abort 2", "given 1 gp": "abort 1", "given 2 ...": "abort 0, abort 1, abort 2", "given 3 ggr": "abort 2",
	} {
		var l []string
		for _, x := range round.Wants(at(text)) {
			l = append(l, fmt.Sprint(ops[x.Op], " ", x.Index))
		}
		if got := strings.Join(l, ", "); got != want {
			t.Errorf("%s: %s, want %s", text, got, want)
		}
	}
	for _, r := range wrong() {
		if l := round.Wants(r); len(l) > 0 {
			t.Errorf("%s: %v", words(r), l)
		}
	}
}

// P12.1: what is wanted of 255 indexes.
func TestWantsOfMany(t *testing.T) {
	for _, text := range []string{"asking 255 .", "published 9 .", "published 9 p", "published 9 r", "given 9 .", "given 9 p", "given 9 r", "ready 3 p", "done 1 c", "gone 1 g"} {
		r := at(text[:len(text)-1] + strings.Repeat(text[len(text)-1:], 255))
		if l := round.Wants(r); !round.Right(r) || !slices.Equal(l, wants(r)) {
			t.Errorf("%s, 255 times: %v", text, l)
		}
	}
}
