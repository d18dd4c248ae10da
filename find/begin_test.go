package find_test

import (
	"fmt"
	"math"
	"slices"
	"strings"
	"testing"

	"cooperage/api"
	"cooperage/find"
)

// begins holds a Begin against the chapter's words.
func begins(t *testing.T, stripe, version, n, need int) {
	t.Helper()
	want, refused := api.Find{}, api.ErrFind
	if numbers(stripe, version, n, need) {
		want, refused = api.Find{Stripe: stripe, Version: version, Need: need, Phase: 1, Marks: make([]int, n)}, api.OK
	}
	f, e := find.Begin(stripe, version, n, need)
	if e != refused || !same(f, want) || find.Right(f) != (e == api.OK) {
		t.Fatalf("Begin(%d, %d, %d, %d): %s, %d, which is right: %v, want %s, %d", stripe, version, n, need, words(f), e, find.Right(f), words(want), refused)
	}
}

// P13.1: Begin with all small numbers, and with all counts of indexes.
func TestBegin(t *testing.T) {
	for stripe := -2; stripe <= 3; stripe++ {
		for version := -1; version <= 3; version++ {
			for n := -2; n <= 6; n++ {
				for need := -2; need <= 7; need++ {
					begins(t, stripe, version, n, need)
				}
			}
		}
	}
	for n := range 260 {
		for need := range 260 {
			begins(t, 7, 1, n, need)
		}
	}
}

// P13.1: Begin at the edges, and far from them.
func TestBeginEdges(t *testing.T) {
	l := []int{math.MinInt, math.MinInt + 1, -far, -1, 0, 1, 2, 3, 254, 255, 256, 257, 1 << 32, 1<<32 + 1, far - 1, far, far + 1, 1 << 41, 1 << 62, math.MaxInt}
	for _, stripe := range l {
		for _, version := range l {
			for _, n := range l {
				for _, need := range l {
					begins(t, stripe, version, n, need)
				}
			}
		}
	}
}

// looks holds Wants and Lacks against the plain ones.
func looks(t *testing.T, f api.Find) {
	t.Helper()
	if got := find.Wants(f); !slices.Equal(got, wants(f)) {
		t.Fatalf("Wants(%s): %v, want %v", words(f), got, wants(f))
	}
	if got := find.Lacks(f); !slices.Equal(got, lacks(f)) {
		t.Fatalf("Lacks(%s): %v, want %v", words(f), got, lacks(f))
	}
}

// P13.1: what is wanted, and what lacks, of all finds of up to four indexes, right or not.
func TestLooksOfAllSmall(t *testing.T) {
	small(3, -1, 3, 1, func(f api.Find) { looks(t, f) })
	small(4, 0, 2, 1, func(f api.Find) { looks(t, f) })
}

// P13.1: what is wanted, and what lacks, by the chapter's words; nothing of what is not right.
func TestLooksByWords(t *testing.T) {
	for text, want := range map[string]string{
		"asking 2 ...": "[0 1 2] []", "asking 2 .gl 1=a": "[0] [2]", "asking 1 l.l": "[1] [0 2]", "asking 3 .l..": "[0 2 3] [1]", "asking 1 .": "[0] []",
		"done 1 g 0=a": "[] []", "done 1 .g. 1=a": "[] []", "done 1 lg.l 1=a": "[] [0 3]", "done 2 g.g 2=a 0=b": "[] []",
		"lost 1 l": "[] [0]", "lost 2 .ll": "[] [1 2]", "lost 3 l..": "[] [0]", "lost 2 lll": "[] [0 1 2]", "lost 2 lgl 1=a": "[] [0 2]",
	} {
		indexes := []int{}
		for _, x := range find.Wants(at(text)) {
			if x.Op != api.AskRead {
				t.Errorf("%s: %v", text, x)
			}
			indexes = append(indexes, x.Index)
		}
		if got := fmt.Sprint(indexes, append([]int{}, find.Lacks(at(text))...)); got != want {
			t.Errorf("%s: %s, want %s", text, got, want)
		}
	}
	for _, f := range wrong() {
		if l, m := find.Wants(f), find.Lacks(f); len(l) > 0 || len(m) > 0 {
			t.Errorf("%s: %v, %v", words(f), l, m)
		}
	}
}

// P13.1: what is wanted, and what lacks, of 255 indexes.
func TestLooksOfMany(t *testing.T) {
	for _, f := range []api.Find{
		at("asking 255 " + strings.Repeat(".", 255)),
		at("asking 100 " + strings.Repeat(".l.", 77) + strings.Repeat(".", 24)),
		at("asking 128 " + strings.Repeat(".", 128) + strings.Repeat("l", 127)),
		at("lost 128 " + strings.Repeat(".", 127) + strings.Repeat("l", 128)),
		at("lost 255 " + strings.Repeat("l", 255)),
		at("lost 1 " + strings.Repeat("l", 255)),
		at("done 1 " + strings.Repeat("l", 254) + "g 254=ab"),
		at("done 1 g" + strings.Repeat("l.", 127) + " 0=ab"),
	} {
		if !find.Right(f) || len(find.Wants(f))+len(find.Lacks(f)) < 77 {
			t.Errorf("%s: %v, %v", words(f), find.Wants(f), find.Lacks(f))
		}
		looks(t, f)
	}
}
