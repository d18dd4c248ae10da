package mend_test

import (
	"bytes"
	"math"
	"slices"
	"strconv"
	"strings"
	"testing"

	"cooperage/api"
	"cooperage/mend"
)

// named are the errors of which something is named, whatever was asked, and two others.
var named = []api.Errno{api.OK, api.ErrSlot, api.ErrSum, api.ErrStale, api.ErrOld, -1}

// infos are those of an index, each told by its version, and a c, if it is committed; of another index behind an i, of another stripe behind an s.
func infos(index int, text string) []api.Info {
	var l []api.Info
	for _, word := range strings.Fields(text) {
		x := api.Info{Stripe: 7, Index: index, State: api.Prepared}
		if strings.HasPrefix(word, "i") {
			x.Index++
		}
		if strings.HasPrefix(word, "s") {
			x.Stripe++
		}
		if strings.HasSuffix(word, "c") {
			x.State = api.Committed
		}
		x.Version, _ = strconv.Atoi(strings.Trim(word, "isc"))
		l = append(l, x)
	}
	return l
}

// lists are what indexes may tell of what they have.
var lists = []string{"", "5", "5c", "4", "4c", "6", "6c", "4c 5 6", "5c 6 7", "7 6 5", "5 5c", "5c 5", "6 6 6c", "i5", "s5c", "i6 s7", "i5c 5", "9 0 -1 6", "1099511627776 1099511627777", "0", "0c", "8 7c 6 5 4 3"}

// answers calls what it is handed with tells of all kinds to an index, with bytes near those that small mendings have.
func answers(index int, call func(x api.Tell)) {
	for _, e := range named {
		for _, text := range lists {
			call(api.Tell{Err: e, Infos: infos(index, text), Bytes: []byte("x")})
		}
		for _, b := range []string{"", "x", "xy", "xyz"} {
			call(api.Tell{Err: e, Infos: infos(index, "6 5c"), Bytes: []byte(b)})
		}
	}
}

// P14.3: each answer to what is wanted of each index of all right mendings of up to two indexes, with shards of up to two bytes.
func TestToldOfAllSmall(t *testing.T) {
	each := func(m api.Mend) {
		for _, w := range mend.Wants(m) {
			answers(w.Index, func(x api.Tell) { tells(t, m, w, x) })
		}
	}
	smallRight(1, 5, 0, rightWords, each)
	smallRight(2, 5, 1, strings.Fields(". t T r R6 l b t6 T6,7 l6 b7"), each)
	smallRight(1, 5, 2, rightWords, each)
	smallRight(1, 1, 1, rightWords, each)
	smallRight(2, 0, 0, noneWords, each)
}

// P14.3: answers to what is wanted of all right mendings of three indexes of some words.
func TestToldOfMore(t *testing.T) {
	smallRight(3, 5, 1, strings.Fields(". T r R R6 l b"), func(m api.Mend) {
		for _, w := range mend.Wants(m) {
			for _, e := range named[:4] {
				tells(t, m, w, api.Tell{Err: e, Infos: infos(w.Index, "5c"), Bytes: []byte("x")})
			}
			tells(t, m, w, api.Tell{Bytes: []byte("xy")})
		}
	})
}

// P14.3: what is not wanted makes nothing of a mending: of all right ones of up to two indexes, each thing that could be asked of each version near.
func TestToldUnwanted(t *testing.T) {
	many := 0
	each := func(m api.Mend) {
		for index := -1; index <= len(m.Marks); index++ {
			for op := api.NodeOp(0); op <= 7; op++ {
				for version := -1; version <= 8; version++ {
					w := api.Errand{Index: index, Op: op, Version: version}
					if slices.Contains(mend.Wants(m), w) {
						continue
					}
					many++
					for _, e := range named[:4] {
						tells(t, m, w, api.Tell{Err: e, Op: op, Infos: infos(index, "5c 6"), Bytes: []byte("x")})
					}
				}
			}
		}
	}
	smallRight(1, 5, 1, rightWords, each)
	smallRight(2, 5, 1, strings.Fields(". t R r6"), each)
	smallRight(2, 5, 1, strings.Fields("R l b6"), each)
	smallRight(1, 0, 0, noneWords, each)
	if many < 1000 {
		t.Errorf("only %d", many)
	}
}

// step is a mending, what an index was asked, what it told, and what is made of that.
type step struct {
	from    string
	op      api.NodeOp
	version int
	index   int
	x       api.Tell
	to      string
}

// steps holds each step against the chapter's words.
func steps(t *testing.T, l []step) {
	t.Helper()
	for _, s := range l {
		if !right(at(s.from)) || !right(at(s.to)) {
			t.Errorf("%s or %s is not right", s.from, s.to)
		}
		m, e := mend.Told(at(s.from), api.Errand{Index: s.index, Op: s.op, Version: s.version}, s.x)
		is(t, s.from, m, e, at(s.to), api.OK)
	}
}

// P14.3: what an index tells that is asked for all that it has, by the chapter's words.
func TestToldListed(t *testing.T) {
	all := func(from string, index int, list, to string) step {
		return step{from, api.AskRead, 0, index, api.Tell{Infos: infos(index, list), Bytes: []byte("zz")}, to}
	}
	steps(t, []step{
		all("going 2 v2 . . .", 0, "2c", "going 2 v2 T . ."),
		all("going 2 v2 . . .", 1, "1c", "going 2 v2 . l ."),
		all("going 2 v2 . . .", 2, "2 3", "going 2 v2 . . t3"),
		all("going 2 v2 . . .", 2, "3 2", "going 2 v2 . . t3"),
		all("going 2 v2 . . .", 2, "", "going 2 v2 . . l"),
		all("going 2 v2 . . .", 2, "1c 3 4 9", "going 2 v2 . . l3,4,9"),
		all("going 2 v2 . . .", 1, "9 4 3 4 9 3 1 2", "going 2 v2 . t3,4,9 ."),
		all("going 2 v2 . . .", 1, "2 2c 2", "going 2 v2 . T ."),
		all("going 2 v2 . . .", 1, "2c 2", "going 2 v2 . T ."),
		all("going 2 v2 . . .", 1, "i2c s2c i3 s4", "going 2 v2 . l ."),
		all("going 2 v2 . . .", 1, "i2c 2 s3c 5c", "going 2 v2 . t5 ."),
		all("going 2 v2 . . .", 1, "3c", "going 2 v2 . l3 ."),
		all("going 2 v2 . . .", 1, "1099511627776 1099511627777 9223372036854775807", "going 2 v2 . l1099511627776 ."),
		all("going 2 v2 . . .", 1, "0 -1 1 -9223372036854775808", "going 2 v2 . l ."),
		all("going 1 v2 l .", 1, "", "lost 1 v2 l l"),
		all("going 1 v2 l .", 1, "3", "lost 1 v2 l l3"),
		all("going 1 v2 l . 0=a", 1, "", "going 1 v2 l l 0=a"),
		all("going 2 v2 l . 0=a", 1, "", "lost 2 v2 l l 0=a"),
		all("going 1 v2 b .", 1, "2", "going 1 v2 b t"),
		all("going 1 v2 R .", 1, "4", "lost 1 v2 R l4"),
		all("going 1 v1099511627776 .", 0, "1099511627777", "lost 1 v1099511627776 l"),
		all("going 1 v1099511627776 .", 0, "1099511627776c", "going 1 v1099511627776 T"),
		all("going 1 v0 . .", 0, "", "going 1 v0 r ."),
		all("going 1 v0 r .", 1, "", "done 1 v0 r r"),
		all("going 1 v0 r .", 1, "0c 0 -1", "done 1 v0 r r"),
		all("going 1 v0 r .", 1, "i1 s2c", "done 1 v0 r r"),
		all("going 1 v0 r .", 1, "3 1c", "going 1 v0 r r1,3"),
		all("going 1 v0 r .", 1, "0c 2", "going 1 v0 r r2"),
		all("going 1 v0 r1 .", 1, "", "going 1 v0 r1 r"),
	})
}

// P14.3: what an index tells of the version, by the chapter's words.
func TestToldRead(t *testing.T) {
	read := func(from string, index int, e api.Errno, b, to string) step {
		return step{from, api.AskRead, 2, index, api.Tell{Err: e, Bytes: []byte(b), Infos: infos(index, "2c 3")}, to}
	}
	steps(t, []step{
		read("going 2 v2 T l t", 0, api.OK, "a", "going 2 v2 R l t 0=a"),
		read("going 2 v2 R l t 0=a", 2, api.OK, "z", "going 2 v2 R l r 0=a 2=z"),
		read("going 2 v2 R l t 2=a", 2, api.OK, "z", "lost 2 v2 R l r 2=a"),
		read("going 1 v2 R l t 2=a", 2, api.OK, "z", "going 1 v2 R l r 2=a"),
		read("going 1 v2 R l t 0=a", 2, api.OK, "z", "going 1 v2 R l r 0=a"),
		read("going 1 v2 R T 0=a", 1, api.OK, "z", "done 1 v2 R R 0=a"),
		read("going 1 v2 R t 0=a", 1, api.OK, "z", "going 1 v2 R r 0=a"),
		read("going 1 v2 T", 0, api.OK, "", "done 1 v2 R 0="),
		read("going 2 v2 R T 0=", 1, api.OK, "", "done 2 v2 R R 0= 1="),
		read("going 2 v2 R T 1=a", 1, api.OK, "b", "done 2 v2 R R 1=a"),
		read("going 2 v2 R T 0=a", 1, api.OK, "", "lost 2 v2 R T 0=a"),
		read("going 2 v2 R T 0=a", 1, api.OK, "ab", "lost 2 v2 R T 0=a"),
		read("going 2 v2 R T 0=", 1, api.OK, "a", "lost 2 v2 R T 0="),
		read("going 1 v2 R t 0=a", 1, api.OK, "ab", "lost 1 v2 R t 0=a"),
		read("going 1 v2 R T 1=a", 1, api.OK, "ab", "lost 1 v2 R T 1=a"),
		read("going 2 v2 R T . 0=a", 1, api.ErrSlot, "a", "going 2 v2 R l . 0=a"),
		read("going 2 v2 R T . 0=a", 1, api.ErrSum, "a", "going 2 v2 R b . 0=a"),
		read("going 2 v2 R T 0=a", 1, api.ErrSlot, "a", "lost 2 v2 R l 0=a"),
		read("going 2 v2 R t 0=a", 1, api.ErrSum, "a", "lost 2 v2 R b 0=a"),
		read("going 1 v2 R t 0=a", 1, api.ErrSum, "a", "going 1 v2 R b 0=a"),
		read("going 1 v2 R T 0=a", 1, api.ErrSlot, "a", "going 1 v2 R l 0=a"),
		read("going 1 v2 t", 0, api.ErrSlot, "a", "lost 1 v2 l"),
		read("going 1 v2 t t", 0, api.ErrSum, "a", "going 1 v2 b t"),
		read("going 1 v2 T", 0, api.ErrStale, "a", "going 1 v2 T"),
		read("going 1 v2 T", 0, api.ErrOld, "a", "going 1 v2 T"),
	})
}

// P14.3: what an index tells that was to let go of something, by the chapter's words.
func TestToldLetGo(t *testing.T) {
	abort := func(from string, version, index int, e api.Errno, to string) step {
		return step{from, api.AskAbort, version, index, api.Tell{Err: e, Bytes: []byte("b")}, to}
	}
	drop := func(from string, version, index int, e api.Errno, to string) step {
		return step{from, api.AskDrop, version, index, api.Tell{Err: e, Bytes: []byte("b")}, to}
	}
	steps(t, []step{
		abort("going 2 v2 T3,4 l .", 4, 0, api.OK, "going 2 v2 T3 l ."),
		abort("going 2 v2 T3 l .", 3, 0, api.OK, "going 2 v2 T l ."),
		abort("going 2 v2 . l3 b9", 9, 2, api.OK, "going 2 v2 . l3 b"),
		abort("going 2 v2 . l3 b9", 9, 2, api.ErrSlot, "going 2 v2 . l3 b9"),
		abort("going 2 v2 . l3 b9", 9, 2, api.ErrStale, "lost 2 v2 . l3 b9"),
		abort("going 1 v2 R3 R 0=a", 3, 0, api.ErrStale, "lost 1 v2 R3 R 0=a"),
		abort("going 1 v2 R3 R 0=a", 3, 0, api.OK, "done 1 v2 R R 0=a"),
		abort("going 1 v2 R3,4 R 0=a", 4, 0, api.OK, "going 1 v2 R3 R 0=a"),
		abort("going 1 v2 r3 R 0=a", 3, 0, api.OK, "going 1 v2 r R 0=a"),
		abort("going 1 v2 R3 R 0=a", 4, 0, api.OK, "going 1 v2 R3 R 0=a"),
		abort("going 1 v2 R3,4 R 0=a", 3, 0, api.OK, "going 1 v2 R3,4 R 0=a"),
		abort("going 1 v2 R3 R 0=a", 3, 1, api.OK, "going 1 v2 R3 R 0=a"),
		drop("going 1 v2 R b 0=a", 2, 1, api.OK, "going 1 v2 R l 0=a"),
		drop("going 1 v2 R b 0=a", 2, 1, api.ErrStale, "going 1 v2 R b 0=a"),
		drop("going 1 v2 R b 0=a", 2, 1, api.ErrSlot, "going 1 v2 R b 0=a"),
		drop("going 1 v2 R b 0=a", 1, 1, api.OK, "going 1 v2 R b 0=a"),
		drop("going 1 v2 R b 0=a", 2, 0, api.OK, "going 1 v2 R b 0=a"),
		drop("going 2 v2 T b . 0=a", 2, 1, api.OK, "going 2 v2 T b . 0=a"),
		drop("going 1 v0 r1,2 .", 2, 0, api.OK, "going 1 v0 r ."),
		drop("going 1 v0 r1,2 r", 2, 0, api.OK, "done 1 v0 r r"),
		drop("going 1 v0 r1,2 r", 1, 0, api.OK, "going 1 v0 r1,2 r"),
		drop("going 1 v0 r1,2 r", 2, 0, api.ErrStale, "going 1 v0 r1,2 r"),
		drop("going 1 v0 r1,2 r", 2, 0, api.ErrSlot, "going 1 v0 r1,2 r"),
		abort("going 1 v0 r1,2 r", 2, 0, api.OK, "going 1 v0 r1,2 r"),
		abort("going 1 v0 r1,2 r", 2, 0, api.ErrStale, "going 1 v0 r1,2 r"),
		drop("going 1 v0 r1 r3", 1, 0, api.OK, "going 1 v0 r r3"),
	})
}

// P14.3: what an index tells that was to take the version, by the chapter's words.
func TestToldWritten(t *testing.T) {
	prepare := func(from string, index int, e api.Errno, to string) step {
		return step{from, api.AskPrepare, 2, index, api.Tell{Err: e, Bytes: []byte("b"), Infos: infos(index, "2c 3")}, to}
	}
	commit := func(from string, index int, e api.Errno, to string) step {
		return step{from, api.AskCommit, 2, index, api.Tell{Err: e, Bytes: []byte("b"), Infos: infos(index, "2c 3")}, to}
	}
	steps(t, []step{
		prepare("going 1 v2 R l 0=a", 1, api.OK, "going 1 v2 R r 0=a"),
		prepare("going 1 v2 R l 0=a", 1, api.ErrSlot, "going 1 v2 R b 0=a"),
		prepare("going 1 v2 R l 0=a", 1, api.ErrStale, "lost 1 v2 R l 0=a"),
		prepare("going 1 v2 R l 0=a", 1, api.ErrSpace, "going 1 v2 R l 0=a"),
		prepare("going 1 v2 R l 0=a", 1, api.ErrSum, "going 1 v2 R l 0=a"),
		prepare("going 2 v2 R l . 0=a", 1, api.OK, "going 2 v2 R l . 0=a"),
		prepare("going 2 v2 R l . 0=a 2=b", 1, api.OK, "going 2 v2 R r . 0=a 2=b"),
		prepare("going 1 v2 l 0=a", 0, api.OK, "going 1 v2 r 0=a"),
		commit("going 1 v2 R r 0=a", 1, api.OK, "done 1 v2 R R 0=a"),
		commit("going 1 v2 r r 0=a", 1, api.OK, "going 1 v2 r R 0=a"),
		commit("going 1 v2 R r 0=a", 1, api.ErrSlot, "going 1 v2 R . 0=a"),
		commit("going 1 v2 R r 0=a", 1, api.ErrStale, "lost 1 v2 R r 0=a"),
		commit("going 1 v2 R r 0=a", 1, api.ErrSum, "going 1 v2 R r 0=a"),
		commit("going 1 v2 R r 0=a", 1, api.ErrOld, "going 1 v2 R r 0=a"),
		commit("going 2 v2 r T 0=a", 0, api.OK, "going 2 v2 R T 0=a"),
		commit("going 2 v2 r T 0=a", 0, api.ErrSlot, "going 2 v2 . T 0=a"),
		commit("going 1 v2 r3 T 0=a", 0, api.OK, "going 1 v2 r3 T 0=a"),
		commit("going 1 v2 R t 0=a", 1, api.OK, "going 1 v2 R t 0=a"),
	})
}

// P14.3: an answer counts by its error alone: whatever it says of its life, its number, what it answers, and room.
func TestToldBeside(t *testing.T) {
	for _, from := range []string{"going 2 v2 . . .", "going 2 v2 T l t3", "going 2 v2 R l r 0=a 2=z", "going 1 v2 R b3 . 0=a", "going 1 v2 R b . 0=a", "going 1 v0 . r1"} {
		for _, w := range mend.Wants(at(from)) {
			answers(w.Index, func(x api.Tell) {
				first := tells(t, at(from), w, x)
				x.Life, x.Seq, x.Op, x.Room = -1, 77, 5, math.MaxInt
				is(t, from, tells(t, at(from), w, x), api.OK, first, api.OK)
			})
		}
	}
}

// P14.3: with an error that is not named nothing comes of any answer.
func TestToldErrors(t *testing.T) {
	for _, from := range []string{"going 2 v2 . . .", "going 2 v2 T l t3", "going 2 v2 R l r 0=a 2=z", "going 1 v2 R b3 . 0=a", "going 1 v2 R b . 0=a", "going 1 v0 . r1"} {
		for _, w := range mend.Wants(at(from)) {
			for _, e := range odd {
				m, err := mend.Told(at(from), w, api.Tell{Err: e, Infos: infos(w.Index, "2c 3"), Bytes: []byte("b")})
				is(t, from, m, err, at(from), api.OK)
			}
		}
	}
}

// P14.3: nothing is told of a mending that is done or lost: it stays as it is.
func TestToldOver(t *testing.T) {
	for _, text := range []string{"done 2 v2 R R 0=a 1=b", "done 1 v0 r r", "lost 2 v2 . T3", "lost 1 v2 r l 0=a", "lost 1 v2 b R 1=a", "lost 1 v0 . r1"} {
		for index := range 2 {
			for op := api.NodeOp(0); op <= 7; op++ {
				for version := range 4 {
					for _, e := range named {
						m, err := mend.Told(at(text), api.Errand{Index: index, Op: op, Version: version}, api.Tell{Err: e, Infos: infos(index, "2c"), Bytes: []byte("b")})
						is(t, text, m, err, at(text), api.OK)
					}
				}
			}
		}
	}
}

// P14.3: no index but those that there are, and nothing of a mending that is not right; it is told as it was.
func TestToldWrong(t *testing.T) {
	for _, index := range []int{math.MinInt, -far, -2, -1, 3, 4, 255, 256, 1 << 32, 1<<32 + 1, far, math.MaxInt} {
		for _, text := range []string{"going 2 v2 . . .", "going 2 v2 R t l 0=a", "done 2 v2 R R R 0=a 2=b", "lost 2 v2 . R R6"} {
			for _, op := range []api.NodeOp{0, api.AskRead, api.AskCommit} {
				m, err := mend.Told(at(text), api.Errand{Index: index, Op: op}, api.Tell{Bytes: []byte("a")})
				is(t, text, m, err, at(text), api.ErrMend)
			}
		}
	}
	for _, m := range wrong() {
		for _, index := range []int{-1, 0, 1, 2, 255, len(m.Marks) - 1, len(m.Marks), math.MaxInt} {
			for _, w := range []api.Errand{{Op: api.AskRead}, {Op: api.AskRead, Version: 5}, {Op: api.AskAbort, Version: 6}} {
				w.Index = index
				o, err := mend.Told(m, w, api.Tell{Bytes: []byte("a")})
				is(t, "one that is not right", o, err, m, api.ErrMend)
			}
		}
	}
}

// P14.3: the first 50 of later versions, by rising ones, however many there are, in whatever order, each however often.
func TestToldExtra(t *testing.T) {
	c := chance(3)
	for _, version := range []int{0, 5, far - 70, far - 49, far} {
		for _, many := range []int{0, 1, 49, 50, 51, 52, 100, 300} {
			for times := 1; times <= 3; times++ {
				var l []api.Info
				for i := range many * times {
					l = append(l, api.Info{Stripe: 7, Index: 1, Version: version + i%max(many, 1), State: api.State(1 + c.below(2))})
				}
				for i := range l {
					j := c.below(i + 1)
					l[i], l[j] = l[j], l[i]
				}
				m, _ := mend.Begin(7, version, 2, 1)
				o := tells(t, m, api.Errand{Index: 1, Op: api.AskRead}, api.Tell{Infos: l})
				if want := min(50, max(many-1, 0), far-version); len(o.Marks[1].Extra) != want || !mend.Right(o) {
					t.Errorf("%d from %d on: %s, want %d", many, version, words(o), want)
				}
			}
		}
	}
}

// P14.3: the most bytes that a shard may have, and one more; and as many as those that are there, one less, one more.
func TestToldLong(t *testing.T) {
	for _, size := range []int{0, 1, long - 1, long, long + 1, 2 * long} {
		first := tells(t, at("going 2 v5 T T t"), api.Errand{Index: 1, Op: api.AskRead, Version: 5}, api.Tell{Bytes: bytes.Repeat([]byte("x"), size)})
		if (first.Marks[1].Mark == api.MendRead) != (size <= long) || (first.Phase == api.MendLost) != (size > long) {
			t.Errorf("%d bytes: %.100s", size, words(first))
		}
		for _, next := range []int{0, 1, size - 1, size, size + 1, long, long + 1} {
			b := bytes.Repeat([]byte("y"), max(next, 0))
			m := tells(t, first, api.Errand{Index: 0, Op: api.AskRead, Version: 5}, api.Tell{Bytes: b})
			if (len(m.Shards) == 2) != (size <= long && len(b) == size) {
				t.Errorf("%d bytes, then %d: %.100s", size, len(b), words(m))
			}
		}
	}
}

// P14.3: mendings of 255 indexes, of which one, some or all shards are needed, told all that is wanted in an order by chance.
func TestToldMany(t *testing.T) {
	c := chance(5)
	for _, need := range []int{1, 100, 255} {
		for _, bad := range []int{0, 255 - need, 256 - need} {
			m, _ := mend.Begin(far, far-9, 255, need)
			for left := 3000; left > 0; left-- {
				l := mend.Wants(m)
				if len(l) == 0 {
					break
				}
				w := l[c.below(len(l))]
				x := api.Tell{Infos: []api.Info{{Stripe: far, Index: w.Index, Version: far - 9, State: api.Committed}, {Stripe: far, Index: w.Index, Version: far - c.below(9)}}, Bytes: c.bytes(3)}
				if w.Op == api.AskRead && w.Version > 0 && w.Index < bad {
					x.Err = api.ErrSum
				}
				m = tells(t, m, w, x)
			}
			want := api.MendDone
			if 255-bad < need {
				want = api.MendLost
			}
			if m.Phase != want {
				t.Errorf("%d needed, %d bad: phase %d, %d shards", need, bad, m.Phase, len(m.Shards))
			}
		}
	}
}

// P14.4: Lose of each index of all mendings of up to two indexes, right or not, and of three of some words.
func TestLoseOfAllSmall(t *testing.T) {
	each := func(m api.Mend) {
		for index := -1; index <= len(m.Marks); index++ {
			loses(t, m, index)
		}
	}
	small(1, 5, 1, allWords, each)
	small(2, 5, 1, strings.Fields(". : t T6 r R l b6 B"), each)
	small(2, 0, 0, noneWords, each)
	smallRight(3, 5, 1, strings.Fields(". t R r6 l b"), each)
}

// P14.4: Lose by the chapter's words.
func TestLoseByWords(t *testing.T) {
	for _, x := range []struct {
		from  string
		index int
		to    string
	}{
		{"going 2 v2 T3,4 l t", 0, "going 2 v2 . l t"},
		{"going 2 v2 R l t 0=a", 0, "going 2 v2 . l t 0=a"},
		{"going 2 v2 R l t 0=a", 1, "going 2 v2 R . t 0=a"},
		{"going 2 v2 R l6 t 0=a", 1, "going 2 v2 R . t 0=a"},
		{"going 2 v2 R b r 0=a 2=b", 1, "going 2 v2 R . r 0=a 2=b"},
		{"going 2 v2 R R r 0=a 2=b", 2, "going 2 v2 R R . 0=a 2=b"},
		{"going 2 v2 . . .", 1, "going 2 v2 . . ."},
		{"going 1 v0 r r1", 0, "going 1 v0 . r1"},
		{"going 1 v0 r r1,2", 1, "going 1 v0 r ."},
		{"done 2 v2 R R 0=a 1=b", 1, "done 2 v2 R R 0=a 1=b"},
		{"done 1 v0 r r", 1, "done 1 v0 r r"},
		{"lost 2 v2 R l 0=a", 1, "lost 2 v2 R l 0=a"},
		{"lost 2 v2 R6 t7 0=a", 1, "lost 2 v2 R6 t7 0=a"},
		{"lost 1 v0 r1 .", 0, "lost 1 v0 r1 ."},
	} {
		m, e := mend.Lose(at(x.from), x.index)
		is(t, x.from, m, e, at(x.to), api.OK)
	}
}

// P14.4, P14.3: an index of which a shard was read, and that another node has now, keeps the earlier shard, and that node's is read, too.
func TestLoseAndRead(t *testing.T) {
	m := at("going 2 v2 R l t 0=a")
	m = loses(t, m, 0)
	m = tells(t, m, api.Errand{Index: 0, Op: api.AskRead}, api.Tell{Infos: infos(0, "2")})
	m = tells(t, m, api.Errand{Index: 0, Op: api.AskRead, Version: 2}, api.Tell{Bytes: []byte("z")})
	is(t, "read again", m, api.OK, at("going 2 v2 r l t 0=a"), api.OK)
	m = tells(t, m, api.Errand{Index: 2, Op: api.AskRead, Version: 2}, api.Tell{Bytes: []byte("c")})
	is(t, "another one read", m, api.OK, at("going 2 v2 r l r 0=a 2=c"), api.OK)
}

// P14.4: Lose of no index but those that there are, and of none of a mending that is not right; it is told as it was.
func TestLoseWrong(t *testing.T) {
	for _, index := range []int{math.MinInt, -far, -2, -1, 3, 4, 255, 256, 1 << 32, 1<<32 + 1, far, math.MaxInt} {
		for _, text := range []string{"going 2 v2 T . l6", "done 2 v2 R R R 1=a 2=b", "lost 2 v2 R l l 0=a"} {
			m, e := mend.Lose(at(text), index)
			is(t, text, m, e, at(text), api.ErrMend)
		}
	}
	for _, m := range wrong() {
		for _, index := range []int{-1, 0, 1, 2, 255, len(m.Marks) - 1, len(m.Marks), math.MaxInt} {
			o, e := mend.Lose(m, index)
			is(t, "one that is not right", o, e, m, api.ErrMend)
		}
	}
}

// P14.4: Lose of each of 255 indexes.
func TestLoseMany(t *testing.T) {
	m := at("going 100 v5" + strings.Repeat(" T6", 50) + strings.Repeat(" l", 155) + strings.Repeat(" R", 50) + " 254=a 0=b")
	for index := range 255 {
		m = loses(t, m, index)
	}
	if len(mend.Wants(m)) != 255 || len(m.Shards) != 2 {
		t.Errorf("%s", words(m))
	}
}
