package mend_test

import (
	"math"
	"slices"
	"strconv"
	"strings"
	"testing"

	"cooperage/api"
	"cooperage/mend"
)

// rights holds Right against the plain one.
func rights(t *testing.T, m api.Mend) {
	t.Helper()
	if got := mend.Right(m); got != right(m) {
		t.Fatalf("Right(%s): %v, want %v", words(m), got, right(m))
	}
}

// bent is m, and mendings that differ from it in what was read: one index or shard more or less, another one, or of another length.
func bent(m api.Mend) []api.Mend {
	out := []api.Mend{m}
	add := func(which []int, shards [][]byte) {
		o := m
		o.Which, o.Shards = which, shards
		out = append(out, o)
	}
	for i := range m.Which {
		for index := -1; index <= len(m.Marks); index++ {
			which := slices.Clone(m.Which)
			which[i] = index
			add(which, m.Shards)
		}
		for _, shard := range []string{"", "x", "xy"} {
			shards := slices.Clone(m.Shards)
			shards[i] = []byte(shard)
			add(m.Which, shards)
		}
		add(slices.Delete(slices.Clone(m.Which), i, i+1), m.Shards)
		add(m.Which, slices.Delete(slices.Clone(m.Shards), i, i+1))
	}
	for index := -1; index <= len(m.Marks); index++ {
		add(append(slices.Clone(m.Which), index), m.Shards)
		add(append(slices.Clone(m.Which), index), append(slices.Clone(m.Shards), []byte("x")))
	}
	add(m.Which, append(slices.Clone(m.Shards), []byte("x")))
	return out
}

// P14.1: Right of all mendings of up to two indexes of all words of marks, right or not, with all choices of shards; with the version, without one, with a later one.
func TestRightOfAllSmall(t *testing.T) {
	many := 0
	for _, version := range []int{0, 1, 5, 6} {
		small(2, version, 1, allWords, func(m api.Mend) {
			rights(t, m)
			if right(m) {
				many++
			}
		})
	}
	small(2, 0, 1, noneWords, func(m api.Mend) { rights(t, m) })
	if many < 1000 {
		t.Errorf("only %d of them are right", many)
	}
}

// P14.1: Right of mendings of up to three indexes, with shards of no byte, and of two.
func TestRightOfMore(t *testing.T) {
	small(3, 5, 0, strings.Fields(". T r R l b R6"), func(m api.Mend) { rights(t, m) })
	small(3, 5, 2, strings.Fields(". t R6 R B"), func(m api.Mend) { rights(t, m) })
	small(3, 0, 0, strings.Fields(". r r1 R"), func(m api.Mend) { rights(t, m) })
}

// P14.1: Right of mendings in which an index or a shard is wanting, or is too many, or is another one, or of another length.
func TestRightOfBent(t *testing.T) {
	smallRight(3, 5, 1, strings.Fields(". T R l"), func(m api.Mend) {
		for _, o := range bent(m) {
			rights(t, o)
		}
	})
	smallRight(2, 0, 1, noneWords, func(m api.Mend) {
		for _, o := range bent(m) {
			rights(t, o)
		}
	})
}

// P14.1: Right by the chapter's words.
func TestRightByWords(t *testing.T) {
	for _, text := range []string{
		"going 1 v5 .", "going 2 v5 . . .", "going 1 v0 .", "going 3 v0 . r r1,2", "going 1 v5 t", "going 1 v5 T", "going 2 v5 T6,7 t6", "going 1 v5 t6,7,9 l", "going 1 v5 l T", "going 2 v5 T T l",
		"going 1 v5 r 0=a", "going 1 v5 r6 0=a", "going 1 v5 R l6 0=a", "going 2 v5 R b r 2=ab 0=cd", "going 2 v5 b6 . R 2=", "going 1 v5 b6 l 1=a", "going 2 v5 l l 1=a 0=b", "going 1 v5 t 0=a", "going 2 v5 . . 1=a",
		"going 1 v5 R . 1=a", "done 1 v5 R 0=a", "done 1 v5 R", "done 2 v5 R R R 2=a 0=b", "done 2 v5 R R 1=", "done 1 v0 r", "done 3 v0 r r r",
		"lost 1 v5 l", "lost 2 v5 l R b 1=a", "lost 2 v5 r6 b 0=a", "lost 1 v5 .", "lost 1 v5 T 0=a", "lost 2 v5 R r 1=a 0=b", "lost 1 v0 .", "lost 1 v0 r1", "lost 1 v5 R R6 0=a", "lost 2 v5 R6 R",
	} {
		if !mend.Right(at(text)) {
			t.Errorf("%s is not right", text)
		}
	}
	for _, m := range wrong() {
		if right(m) || mend.Right(m) {
			t.Errorf("%.200s is right: %v, by the words %v", words(m), mend.Right(m), right(m))
		}
	}
}

// P14.1: Right at the edges of each number, and far from them.
func TestRightEdges(t *testing.T) {
	l := []int{math.MinInt, -far, -1, 0, 1, 2, 3, 4, 5, 6, 7, 1 << 32, 1<<32 + 1, 1<<32 + 5, far - 1, far, far + 1, 1 << 41, math.MaxInt}
	for _, text := range []string{"going 2 v5 R t6 b7,9 0=a", "done 2 v5 R R R 1=a 0=b", "lost 2 v5 R6 l b 0=a", "lost 2 v5 R l6 . 2=a 1=b", "going 1 v0 . r1 r6", "done 1 v0 r r r"} {
		for _, v := range l {
			for part := range 8 {
				m := at(text)
				switch part {
				case 0:
					m.Stripe = v
				case 1:
					m.Version = v
				case 2:
					m.Need = v
				case 3:
					m.Phase = v
				case 4:
					m.Marks[2].Mark = v
				case 5:
					m.Which = append([]int{v}, m.Which[min(1, len(m.Which)):]...)
				case 6:
					m.Marks[1].Extra = append(m.Marks[1].Extra, v)
				case 7:
					m.Marks[2].Extra = append([]int{v}, m.Marks[2].Extra...)
				}
				rights(t, m)
			}
		}
	}
}

// P14.1: up to 50 later versions, and not one more; the greatest that there may be, and not one above it.
func TestRightOfExtra(t *testing.T) {
	for many := 0; many <= 120; many++ {
		for _, from := range []int{5, 6, 7, 1000, far - many, far - many + 1, far - many + 2} {
			for _, letter := range strings.Split(letters+committed, "") {
				for _, text := range []string{"going 2 v5 . " + letter + rising(from, many), "lost 2 v5 t " + letter + rising(from, many)} {
					m := at(text)
					rights(t, m)
					fits := many <= most && (many == 0 || from > 5 && from+many-1 <= far)
					if letter == "r" && mend.Right(m) != fits {
						t.Fatalf("%d versions from %d on: %v", many, from, mend.Right(m))
					}
				}
			}
		}
	}
}

// P14.1: Right of up to 255 indexes, and of more; of any count of those that were read, and of shards.
func TestRightOfMany(t *testing.T) {
	for _, n := range []int{254, 255, 256} {
		for _, need := range []int{1, 2, 100, 254, 255, 256} {
			for _, shards := range []int{0, 1, 2, 99, 100, 101, 254, 255, 256} {
				for _, rest := range []string{".", "t", "l", "R", "r"} {
					for phase := range 5 {
						m := api.Mend{Stripe: far, Version: far, Need: need, Phase: phase}
						for index := range n {
							word := rest
							if index < shards {
								word = "R"
								m.Which, m.Shards = append([]int{index}, m.Which...), append(m.Shards, []byte("ab"))
							}
							m.Marks = append(m.Marks, mark(word))
						}
						rights(t, m)
					}
				}
			}
		}
	}
}

// P14.1: the most bytes that a shard may have, and one more.
func TestRightOfLong(t *testing.T) {
	for _, size := range []int{long - 1, long, long + 1} {
		shard := " 0=" + strings.Repeat("a", size)
		for _, text := range []string{"going 2 v5 R l ." + shard, "done 1 v5 R" + shard, "lost 2 v5 R l b" + shard} {
			m := at(text)
			rights(t, m)
			if mend.Right(m) != (size <= long) {
				t.Errorf("%d bytes: %v", size, mend.Right(m))
			}
		}
	}
	for _, size := range []int{0, 1, long - 1, long, long + 1} {
		rights(t, at("done 2 v5 R R 1="+strings.Repeat("a", long)+" 0="+strings.Repeat("b", size)))
	}
}

// P14.1: the greatest version may be published; then none is later.
func TestRightOfGreatest(t *testing.T) {
	greatest := " v" + strconv.Itoa(far)
	for text, want := range map[string]bool{
		"going 1" + greatest + " t": true, "done 1" + greatest + " R 0=a": true, "lost 1" + greatest + " b": true,
		"going 1" + greatest + " t" + strconv.Itoa(far): false, "going 1" + greatest + " t" + strconv.Itoa(far+1): false, "going 1 v" + strconv.Itoa(far+1) + " t": false,
		"going 1 v" + strconv.Itoa(far-1) + " t" + strconv.Itoa(far): true, "going 1 v0 . r" + strconv.Itoa(far): true,
	} {
		if mend.Right(at(text)) != want || right(at(text)) != want {
			t.Errorf("%s: %v", text, !want)
		}
	}
}
