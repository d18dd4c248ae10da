package find_test

import (
	"math"
	"slices"
	"strings"
	"testing"

	"cooperage/api"
	"cooperage/find"
)

// rights holds Right against the plain one.
func rights(t *testing.T, f api.Find) {
	t.Helper()
	if got := find.Right(f); got != right(f) {
		t.Fatalf("Right(%s): %v, want %v", words(f), got, right(f))
	}
}

// bent is f, and finds that differ from it in what came: one index or shard more or less, another one, or of another length.
func bent(f api.Find) []api.Find {
	out := []api.Find{f}
	add := func(which []int, shards [][]byte) {
		g := f
		g.Which, g.Shards = which, shards
		out = append(out, g)
	}
	for i := range f.Which {
		for index := -1; index <= len(f.Marks); index++ {
			which := slices.Clone(f.Which)
			which[i] = index
			add(which, f.Shards)
		}
		for _, shard := range []string{"", "x", "xy", "xyz"} {
			shards := slices.Clone(f.Shards)
			shards[i] = []byte(shard)
			add(f.Which, shards)
		}
		add(slices.Delete(slices.Clone(f.Which), i, i+1), f.Shards)
		add(f.Which, slices.Delete(slices.Clone(f.Shards), i, i+1))
		add(slices.Delete(slices.Clone(f.Which), i, i+1), slices.Delete(slices.Clone(f.Shards), i, i+1))
	}
	for index := -1; index <= len(f.Marks); index++ {
		add(append(slices.Clone(f.Which), index), f.Shards)
		add(append(slices.Clone(f.Which), index), append(slices.Clone(f.Shards), []byte("x")))
	}
	add(f.Which, append(slices.Clone(f.Shards), []byte("x")))
	return out
}

// P13.1: Right of all finds of up to three indexes, right or not, with all orders in which shards came; of each also with an index or a shard more or less, another one, or one of another length.
func TestRightOfAllSmall(t *testing.T) {
	many := 0
	small(3, -1, 3, 1, func(f api.Find) {
		for _, g := range bent(f) {
			rights(t, g)
			if right(g) {
				many++
			}
		}
	})
	if many < 100 {
		t.Errorf("only %d of them are right", many)
	}
}

// P13.1: Right of all finds of four and five indexes, of which each mark is one, with shards of no byte, and of two.
func TestRightOfMore(t *testing.T) {
	small(5, 0, 2, 0, func(f api.Find) { rights(t, f) })
	small(4, 0, 2, 2, func(f api.Find) { rights(t, f) })
}

// P13.1: Right by the chapter's words.
func TestRightByWords(t *testing.T) {
	for _, text := range []string{
		"asking 1 .", "asking 2 ...", "asking 2 l..", "asking 2 .g. 1=a", "asking 2 .gl 1=a", "asking 3 ggl... 1=ab 0=cd", "asking 1 l.l", "asking 2 g. 0=", "asking 3 gg. 0= 1=",
		"done 1 g 0=a", "done 1 g 0=", "done 2 gg 0=a 1=b", "done 2 gg 1=a 0=b", "done 1 lgl 1=a", "done 2 lg.g 3=a 1=b", "done 2 gg 0= 1=", "done 3 g.g.gl 4=abc 0=bcd 2=cde",
		"lost 1 l", "lost 2 ll.", "lost 2 .ll", "lost 2 gll 0=a", "lost 2 lll", "lost 1 ll", "lost 3 ggl 1=a 0=b", "lost 3 g.l 0=", "lost 3 ..l",
	} {
		if !find.Right(at(text)) {
			t.Errorf("%s is not right", text)
		}
	}
	for _, f := range wrong() {
		if right(f) || find.Right(f) {
			t.Errorf("%s is right: %v, by the words %v", words(f), find.Right(f), right(f))
		}
	}
}

// P13.1: Right at the edges of each number, and far from them.
func TestRightEdges(t *testing.T) {
	l := []int{math.MinInt, -far, -1, 0, 1, 2, 3, 4, 5, 1 << 32, 1<<32 + 1, far - 1, far, far + 1, 1 << 41, math.MaxInt}
	for _, text := range []string{"asking 2 .gl 1=a", "done 2 ggl 1=a 0=b", "lost 2 gll 0=a", "none 2 ..."} {
		for _, v := range l {
			for part := range 6 {
				f := at(text)
				switch part {
				case 0:
					f.Stripe = v
				case 1:
					f.Version = v
				case 2:
					f.Need = v
				case 3:
					f.Phase = v
				case 4:
					f.Marks[2] = v
				case 5:
					f.Which = append([]int{v}, f.Which[min(1, len(f.Which)):]...)
				}
				rights(t, f)
			}
		}
	}
}

// P13.1: Right of up to 255 indexes, and of more; of any count of those that are got and that lack.
func TestRightOfMany(t *testing.T) {
	for _, n := range []int{254, 255, 256} {
		for _, need := range []int{1, 2, 100, 254, 255, 256} {
			for _, got := range []int{0, 1, 2, 99, 100, 101, 253, 254, 255} {
				for _, lacks := range []int{0, 1, 154, 155, 156, 253, 254, 255} {
					for phase := range 5 {
						f := api.Find{Stripe: far, Version: far, Need: need, Phase: phase}
						for index := range n {
							mark := 0
							if index < got {
								mark = 1
								f.Which, f.Shards = append([]int{index}, f.Which...), append(f.Shards, []byte("ab"))
							} else if index < got+lacks {
								mark = 2
							}
							f.Marks = append(f.Marks, mark)
						}
						rights(t, f)
					}
				}
			}
		}
	}
}

// P13.1: the most bytes that a shard may have, and one more.
func TestRightOfLong(t *testing.T) {
	for _, size := range []int{long - 1, long, long + 1} {
		shard := " 0=" + strings.Repeat("a", size)
		for _, text := range []string{"asking 2 gl." + shard, "done 1 g" + shard, "lost 2 gl" + shard} {
			f := at(text)
			rights(t, f)
			if find.Right(f) != (size <= long) {
				t.Errorf("%s of %d bytes: %v", words(f), size, find.Right(f))
			}
		}
	}
	for _, size := range []int{0, 1, long - 1, long, long + 1} {
		rights(t, at("done 2 gg 1="+strings.Repeat("a", long)+" 0="+strings.Repeat("b", size)))
	}
}
