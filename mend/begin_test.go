package mend_test

import (
	"fmt"
	"math"
	"slices"
	"strings"
	"testing"

	"cooperage/api"
	"cooperage/mend"
)

// begins holds a Begin against the chapter's words.
func begins(t *testing.T, stripe, version, n, need int) {
	t.Helper()
	want, refused := api.Mend{}, api.ErrMend
	if numbers(stripe, version, n, need) {
		want, refused = api.Mend{Stripe: stripe, Version: version, Need: need, Phase: 1, Marks: make([]api.MendMark, n)}, api.OK
	}
	m, e := mend.Begin(stripe, version, n, need)
	if e != refused || !same(m, want) || mend.Right(m) != (e == api.OK) {
		t.Fatalf("Begin(%d, %d, %d, %d): %s, %d, which is right: %v, want %s, %d", stripe, version, n, need, words(m), e, mend.Right(m), words(want), refused)
	}
}

// P14.1: Begin with all small numbers, and with all counts of indexes.
func TestBegin(t *testing.T) {
	for stripe := -2; stripe <= 3; stripe++ {
		for version := -2; version <= 3; version++ {
			for n := -2; n <= 6; n++ {
				for need := -2; need <= 7; need++ {
					begins(t, stripe, version, n, need)
				}
			}
		}
	}
	for n := range 260 {
		for need := range 260 {
			begins(t, 7, need%2, n, need)
		}
	}
}

// P14.1: Begin at the edges, and far from them.
func TestBeginEdges(t *testing.T) {
	l := []int{math.MinInt, math.MinInt + 1, -far, -1, 0, 1, 2, 3, 254, 255, 256, 257, 1 << 32, 1<<32 + 1, far - 1, far, far + 1, 1 << 41, 1 << 62, math.MaxInt}
	for _, stripe := range l {
		for _, version := range l {
			for _, n := range l {
				for _, need := range l {
					begins(t, stripe, version, n, need)
				}
			}
		}
	}
}

// looks holds Wants against the plain ones.
func looks(t *testing.T, m api.Mend) {
	t.Helper()
	if got := mend.Wants(m); !slices.Equal(got, wants(m)) {
		t.Fatalf("Wants(%s): %v, want %v", words(m), got, wants(m))
	}
}

// P14.1: what is wanted of all mendings of up to two indexes of all words of marks, right or not, and of three of some words.
func TestWantsOfAllSmall(t *testing.T) {
	for _, version := range []int{0, 5, 6} {
		small(2, version, 1, allWords, func(m api.Mend) { looks(t, m) })
	}
	small(2, 0, 1, noneWords, func(m api.Mend) { looks(t, m) })
	small(3, 5, 1, strings.Fields(". t R6 r R l b"), func(m api.Mend) { looks(t, m) })
}

// names are the words of what is asked.
var names = []string{"", "prepare", "commit", "abort", "read", "list", "drop"}

// says is what is wanted, in words.
func says(l []api.Errand) string {
	var out []string
	for _, w := range l {
		out = append(out, fmt.Sprintf("%s %d of %d", names[w.Op], w.Version, w.Index))
	}
	return strings.Join(out, ", ")
}

// P14.1: what is wanted, by the chapter's words.
func TestWantsByWords(t *testing.T) {
	for text, want := range map[string]string{
		"going 2 v2 . . .":                   "read 0 of 0, read 0 of 1, read 0 of 2",
		"going 2 v2 T l t3":                  "read 2 of 0, abort 3 of 2",
		"going 2 v2 R l t3 0=a":              "abort 3 of 2",
		"going 2 v2 R l t 0=a":               "read 2 of 2",
		"going 2 v2 R l r 0=a 2=z":           "prepare 2 of 1, commit 2 of 2",
		"going 2 v2 R r R 0=a 2=z":           "commit 2 of 1",
		"going 2 v2 R b R 0=a 2=z":           "drop 2 of 1",
		"going 2 v2 R b . 0=a":               "read 0 of 2",
		"going 2 v2 R b T 0=a":               "read 2 of 2",
		"going 2 v2 R r T 0=a":               "commit 2 of 1, read 2 of 2",
		"going 2 v2 R b3,7 l4 . 0=a":         "abort 7 of 1, abort 4 of 2, read 0 of 3",
		"going 2 v2 R b3,7 l4,9 r5 0=a 3=b":  "abort 7 of 1, abort 9 of 2, abort 5 of 3",
		"going 2 v2 R6 r6,8 T9,10,11 0=a":    "abort 6 of 0, abort 8 of 1, abort 11 of 2",
		"going 1 v2 . 0=a":                   "read 0 of 0",
		"going 1 v2 l b 1=a":                 "prepare 2 of 0, drop 2 of 1",
		"going 1 v2 t T r R l b 3=a":         "read 2 of 0, read 2 of 1, commit 2 of 2, prepare 2 of 4, drop 2 of 5",
		"going 2 v2 t T r R l b 3=a":         "read 2 of 0, read 2 of 1, commit 2 of 2",
		"going 1 v2 t3 T3 r3 R3 l3 b3 . 3=a": "abort 3 of 0, abort 3 of 1, abort 3 of 2, abort 3 of 3, abort 3 of 4, abort 3 of 5, read 0 of 6",
		"going 2 v0 . .":                     "read 0 of 0, read 0 of 1",
		"going 2 v0 r .":                     "read 0 of 1",
		"going 2 v0 r r1,3 .":                "drop 3 of 1, read 0 of 2",
		"going 1 v0 r1 r2":                   "drop 1 of 0, drop 2 of 1",
		"done 2 v2 R R R 0=a 2=z":            "",
		"done 1 v2 R":                        "",
		"done 1 v0 r r":                      "",
		"lost 2 v2 R l b 0=a":                "",
		"lost 2 v2 . T t6":                   "",
		"lost 1 v0 . r1":                     "",
		"lost 1 v2 l b r R t 3=a":            "",
	} {
		if !mend.Right(at(text)) {
			t.Errorf("%s is not right", text)
		}
		if got := says(mend.Wants(at(text))); got != want {
			t.Errorf("%s: %s, want %s", text, got, want)
		}
	}
	for _, m := range wrong() {
		if l := mend.Wants(m); len(l) > 0 {
			t.Errorf("%.200s: %v", words(m), l)
		}
	}
}

// P14.1: what is wanted of 255 indexes.
func TestWantsOfMany(t *testing.T) {
	of := func(word string, many int) string { return strings.Repeat(" "+word, many) }
	for text, many := range map[string]int{
		"going 255 v5" + of(".", 255):                                       255,
		"going 100 v5" + of("l", 100) + of("T", 155):                        155,
		"going 1 v5" + of("l", 100) + of("b", 100) + of("r", 55):            0, // no shard is there: it is not right
		"going 1 v5 R" + of("l", 100) + of("b", 100) + of("r", 54):          0,
		"going 1 v5" + of("l", 100) + of("b", 100) + of("r", 55) + " 254=a": 255,
		"going 1 v5" + of("R", 254) + " b 0=a":                              1,
		"going 1 v0" + of("r", 254) + " r9":                                 1,
		"going 1 v0" + of("r"+rising(1, 50), 255):                           255,
		"going 1 v5" + of("t"+rising(6, 50), 255):                           255,
		"done 1 v5" + of("R", 255) + " 7=a":                                 0,
		"lost 255 v5" + of("r6", 255) + " 7=a":                              0,
	} {
		looks(t, at(text))
		if got := mend.Wants(at(text)); len(got) != many {
			t.Errorf("%.60s: %d are wanted", text, len(got))
		}
	}
}
