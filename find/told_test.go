package find_test

import (
	"bytes"
	"math"
	"strings"
	"testing"

	"cooperage/api"
	"cooperage/find"
)

// some are bytes of each length near those that small finds have.
var some = [][]byte{nil, {}, []byte("x"), []byte("xy"), []byte("xyz")}

// P13.2: each answer to each index of all finds of up to three indexes, right or not, with shards of up to two bytes.
func TestToldOfAllSmall(t *testing.T) {
	for size := range 3 {
		small(3, -1, 3, size, func(f api.Find) {
			for index := -1; index <= len(f.Marks); index++ {
				for _, b := range some {
					for _, e := range []api.Errno{api.OK, api.ErrSlot, -1} {
						tells(t, f, index, e, b)
					}
				}
			}
		})
	}
}

// P13.2: each answer to each index of all right finds of four and five indexes.
func TestToldOfMore(t *testing.T) {
	smallRight(5, 1, func(f api.Find) {
		for index := range f.Marks {
			tells(t, f, index, api.OK, some[2])
			tells(t, f, index, api.OK, some[3])
			tells(t, f, index, api.ErrSum, some[2])
		}
	})
}

// P13.2: what answers make of finds, by the chapter's words.
func TestToldByWords(t *testing.T) {
	for _, x := range []struct {
		from  string
		index int
		e     api.Errno
		b, to string
	}{
		{"asking 2 ...", 1, api.ErrSlot, "", "asking 2 .l."},
		{"asking 2 .l.", 2, api.OK, "z", "asking 2 .lg 2=z"},
		{"asking 2 .lg 2=z", 0, api.OK, "a", "done 2 glg 2=z 0=a"},
		{"asking 2 .lg 2=z", 0, api.ErrSum, "a", "lost 2 llg 2=z"},
		{"asking 2 .lg 2=z", 0, api.OK, "ab", "lost 2 llg 2=z"},
		{"asking 2 .lg 2=z", 0, api.OK, "", "lost 2 llg 2=z"},
		{"asking 2 .lg 2=", 0, api.OK, "", "done 2 glg 2= 0="},
		{"asking 2 .lg 2=", 0, api.OK, "a", "lost 2 llg 2="},
		{"asking 2 .lg 2=z", 1, api.OK, "a", "asking 2 .lg 2=z"},
		{"asking 2 .lg 2=z", 2, api.OK, "a", "asking 2 .lg 2=z"},
		{"asking 2 .lg 2=z", 2, api.ErrSlot, "", "asking 2 .lg 2=z"},
		{"asking 1 .", 0, api.OK, "a", "done 1 g 0=a"},
		{"asking 1 .", 0, api.OK, "", "done 1 g 0="},
		{"asking 1 .", 0, api.ErrOld, "", "lost 1 l"},
		{"asking 1 ..", 0, api.ErrOld, "", "asking 1 l."},
		{"asking 1 l.", 1, api.ErrOld, "", "lost 1 ll"},
		{"asking 3 ...", 2, api.ErrSlot, "", "lost 3 ..l"},
		{"asking 3 gg. 1=ab 0=cd", 2, api.OK, "ef", "done 3 ggg 1=ab 0=cd 2=ef"},
		{"asking 3 g.. 0=ab", 1, api.OK, "cd", "asking 3 gg. 0=ab 1=cd"},
		{"asking 3 .g.. 1=ab", 3, api.OK, "c", "asking 3 .g.l 1=ab"},
		{"done 1 .g. 1=a", 0, api.OK, "b", "done 1 .g. 1=a"},
		{"done 1 .g. 1=a", 0, api.ErrSlot, "", "done 1 .g. 1=a"},
		{"done 1 lg. 1=a", 1, api.ErrSlot, "", "done 1 lg. 1=a"},
		{"lost 2 .ll", 0, api.OK, "b", "lost 2 .ll"},
		{"lost 2 .ll", 0, api.ErrSlot, "", "lost 2 .ll"},
		{"lost 2 .ll", 1, api.OK, "b", "lost 2 .ll"},
	} {
		f, e := find.Told(at(x.from), x.index, x.e, []byte(x.b))
		is(t, x.from, f, e, at(x.to), api.OK)
	}
}

// P13.2: with any error an index lacks its shard, whatever bytes are told beside it; OK alone brings it.
func TestToldErrors(t *testing.T) {
	for _, e := range odd {
		for _, b := range []string{"", "a", "ab"} {
			become := func(from, to string) {
				t.Helper()
				f, err := find.Told(at(from), 1, e, []byte(b))
				is(t, from, f, err, at(to), api.OK)
			}
			become("asking 2 ...", "asking 2 .l.")
			become("asking 2 g.. 0=a", "asking 2 gl. 0=a")
			become("asking 2 g.l 0=a", "lost 2 gll 0=a")
		}
	}
}

// P13.2: no index but those that there are, and nothing of a find that is not right; it is told as it was.
func TestToldWrong(t *testing.T) {
	for _, index := range []int{math.MinInt, -far, -2, -1, 3, 4, 255, 256, 1 << 32, 1<<32 + 1, far, math.MaxInt} {
		for _, text := range []string{"asking 2 ...", "asking 2 .gl 1=a", "done 2 ggl 1=a 0=b", "lost 2 gll 0=a"} {
			for _, e := range []api.Errno{api.OK, api.ErrSlot} {
				f, err := find.Told(at(text), index, e, []byte("x"))
				is(t, text, f, err, at(text), api.ErrFind)
			}
		}
	}
	for _, f := range wrong() {
		for _, index := range []int{-1, 0, 1, 2, 3, 255, len(f.Marks) - 1, len(f.Marks), math.MaxInt} {
			for _, e := range []api.Errno{api.OK, api.ErrSlot} {
				g, err := find.Told(f, index, e, []byte("a"))
				is(t, words(f), g, err, f, api.ErrFind)
			}
		}
	}
}

// P13.2: the most bytes that a shard may have, and one more; and as many as those that are there, one less, one more.
func TestToldLong(t *testing.T) {
	for _, size := range []int{0, 1, long - 1, long, long + 1, 2 * long} {
		b := bytes.Repeat([]byte("x"), size)
		first := tells(t, at("asking 2 ..."), 1, api.OK, b)
		if (first.Marks[1] == api.MarkGot) != (size <= long) {
			t.Errorf("%d bytes: %s", size, words(first))
		}
		for _, next := range []int{0, 1, size - 1, size, size + 1, long, long + 1} {
			c := bytes.Repeat([]byte("y"), max(next, 0))
			f := tells(t, first, 0, api.OK, c)
			if (f.Phase == api.FindDone) != (size <= long && len(c) == size) {
				t.Errorf("%d bytes, then %d: %s", size, len(c), words(f))
			}
		}
	}
}

// P13.2: finds of 255 indexes, of one, some or all of which shards are needed, told all of them in an order by chance.
func TestToldMany(t *testing.T) {
	c := chance(5)
	for _, need := range []int{1, 2, 100, 254, 255} {
		for _, bad := range []int{0, 255 - need, 256 - need} {
			f, _ := find.Begin(far, far, 255, need)
			left := make([]int, 255)
			for index := range left {
				left[index] = index
			}
			for range 255 {
				i := c.below(len(left))
				e := api.OK
				if 255-len(left) < bad {
					e = api.ErrSlot
				}
				f = tells(t, f, left[i], e, c.bytes(3))
				left = append(left[:i], left[i+1:]...)
			}
			if want := map[bool]int{true: api.FindLost, false: api.FindDone}[bad > 255-need]; f.Phase != want {
				t.Errorf("%d needed, %d lacking: %s", need, bad, words(f))
			}
		}
	}
}

// P13.3: Lose of each index of all finds of up to four indexes, right or not.
func TestLoseOfAllSmall(t *testing.T) {
	each := func(f api.Find) {
		for index := -1; index <= len(f.Marks); index++ {
			loses(t, f, index)
		}
	}
	small(3, -1, 3, 1, each)
	small(4, 0, 2, 1, each)
}

// P13.3: Lose by the chapter's words.
func TestLoseByWords(t *testing.T) {
	for _, x := range []struct {
		from  string
		index int
		to    string
	}{
		{"asking 2 .l.", 1, "asking 2 ..."},
		{"asking 2 .l.", 0, "asking 2 .l."},
		{"asking 3 glg.. 2=a 0=b", 0, "asking 3 glg.. 2=a 0=b"},
		{"asking 3 glg.. 2=a 0=b", 1, "asking 3 g.g.. 2=a 0=b"},
		{"asking 1 ll.", 0, "asking 1 .l."},
		{"done 1 gl 0=a", 0, "done 1 gl 0=a"},
		{"done 1 gl 0=a", 1, "done 1 gl 0=a"},
		{"done 1 g. 0=a", 1, "done 1 g. 0=a"},
		{"lost 1 ll", 0, "lost 1 ll"},
		{"lost 2 gll 0=a", 0, "lost 2 gll 0=a"},
		{"lost 2 .ll", 2, "lost 2 .ll"},
		{"lost 2 .ll", 0, "lost 2 .ll"},
	} {
		f, e := find.Lose(at(x.from), x.index)
		is(t, x.from, f, e, at(x.to), api.OK)
	}
}

// P13.3: Lose of no index but those that there are, and of none of a find that is not right; it is told as it was.
func TestLoseWrong(t *testing.T) {
	for _, index := range []int{math.MinInt, -far, -2, -1, 3, 4, 255, 256, 1 << 32, 1<<32 + 1, far, math.MaxInt} {
		for _, text := range []string{"asking 2 lg. 1=a", "done 2 lgg 1=a 2=b", "lost 2 gll 0=a"} {
			f, e := find.Lose(at(text), index)
			is(t, text, f, e, at(text), api.ErrFind)
		}
	}
	for _, f := range wrong() {
		for _, index := range []int{-1, 0, 1, 2, 255, len(f.Marks) - 1, len(f.Marks), math.MaxInt} {
			g, e := find.Lose(f, index)
			is(t, words(f), g, e, f, api.ErrFind)
		}
	}
}

// P13.3: Lose of each of 255 indexes, of which all but those that are needed lack it.
func TestLoseMany(t *testing.T) {
	f := at("asking 100 " + strings.Repeat(".", 50) + strings.Repeat("l", 155) + strings.Repeat(".", 50))
	for index := range 255 {
		f = loses(t, f, index)
	}
	if len(find.Lacks(f)) > 0 || len(find.Wants(f)) != 255 {
		t.Errorf("%s", words(f))
	}
}
