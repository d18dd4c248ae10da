package round_test

import (
	"math"
	"strings"
	"testing"

	"cooperage/api"
	"cooperage/round"
)

// P12.1: Right of all rounds of up to four indexes, with all marks, and some that are none.
func TestRightOfAllSmall(t *testing.T) {
	seen := map[int]int{}
	small(4, -1, 5, func(r api.Round) {
		if round.Right(r) != right(r) {
			t.Fatalf("Right(%s): %v", words(r), !right(r))
		}
		if right(r) {
			seen[r.Phase]++
		}
	})
	for phase := 1; phase <= 6; phase++ {
		if seen[phase] < 10 {
			t.Errorf("only %d are %s", seen[phase], phases[phase])
		}
	}
}

// P12.1: the chapter's words, one by one.
func TestRightByWords(t *testing.T) {
	for _, text := range []string{
		"asking 1 .", "asking 2 p.", "asking 2 pr.", "asking 1 r.", "asking 3 ppr.", "asking 3 ...", "asking 2 prr.",
		"ready 1 p", "ready 1 p.", "ready 1 pr", "ready 2 ppr", "ready 1 ppp", "ready 1 prr", "ready 2 pp..",
		"published 1 .", "published 2 pp", "published 2 cc.", "published 2 ccr", "published 3 ...", "published 1 r", "published 1 c.",
		"done 1 c", "done 3 ccc", "given 1 .", "given 2 ..", "given 1 pp", "given 2 rr", "given 1 gg.", "given 1 gp", "gone 1 g", "gone 2 ggg",
	} {
		if !round.Right(at(text)) {
			t.Errorf("%s is not right", text)
		}
	}
	for _, r := range wrong() {
		if round.Right(r) {
			t.Errorf("%s is right", words(r))
		}
	}
}

// P12.1: the edges of Stripe (0 to 2^40) and Version (1 to 2^40), in each phase.
func TestRightNumbers(t *testing.T) {
	for _, text := range []string{"asking 1 .", "ready 1 p", "published 1 p", "done 1 c", "given 1 p", "gone 1 g"} {
		for _, v := range []int{0, 1, 2, 255, 256, 1 << 32, far - 1, far, far + 1, -1, -far, 1 << 41, math.MinInt, math.MaxInt} {
			r, q := at(text), at(text)
			r.Stripe, q.Version = v, v
			if round.Right(r) != (v >= 0 && v <= far) || round.Right(q) != (v >= 1 && v <= far) {
				t.Errorf("%s: of the stripe %d %v, of the version %d %v", text, v, round.Right(r), v, round.Right(q))
			}
		}
	}
}

// P12.1: the edges of how many indexes there are (1 to 255), and of Need (1 to as many), in each phase.
func TestRightIndexes(t *testing.T) {
	for _, text := range []string{"asking .", "ready p", "published .", "done c", "given .", "gone g"} {
		phase, letter, _ := strings.Cut(text, " ")
		for _, n := range []int{0, 1, 2, 127, 128, 254, 255, 256, 257, 511, 512, 65537} {
			r := at(phase + " 1 " + strings.Repeat(letter, n))
			for _, need := range []int{math.MinInt, -1, 0, 1, 2, n - 1, n, n + 1, 255, 256, 1<<32 + 1, math.MaxInt} {
				r.Need = need
				if round.Right(r) != right(r) {
					t.Errorf("%s: %d of %d: %v", phase, need, n, round.Right(r))
				}
			}
		}
	}
}

// P12.1: with 255 indexes just as many may be prepared, and may have refused, as Need lets them.
func TestRightCounts(t *testing.T) {
	for _, need := range []int{1, 2, 128, 254, 255} {
		for prepared := range 256 {
			for _, refused := range []int{0, 1, 254 - need, 255 - need, 256 - need} {
				if refused < 0 || prepared+refused > 255 {
					continue
				}
				l := strings.Repeat("r", refused) + strings.Repeat(".", 255-prepared-refused) + strings.Repeat("p", prepared)
				r, q := at("asking 1 "+l), at("ready 1 "+l)
				r.Need, q.Need = need, need
				if round.Right(r) != (prepared < need && refused <= 255-need) || round.Right(q) != (prepared >= need) {
					t.Fatalf("Need %d, %d prepared, %d refused: %v, %v", need, prepared, refused, round.Right(r), round.Right(q))
				}
			}
		}
	}
}
