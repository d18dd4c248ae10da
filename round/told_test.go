package round_test

import (
	"math"
	"testing"

	"cooperage/api"
	"cooperage/round"
)

// P12.2: the chapter's examples.
func TestExamples(t *testing.T) {
	r, e := round.Begin(7, 1, 3, 2)
	is(t, "Begin", r, e, at("asking 2 ..."), api.OK)
	step := func(index int, op api.NodeOp, err api.Errno, want string) {
		t.Helper()
		r, e = round.Told(r, index, op, err)
		is(t, "Told", r, e, at(want), api.OK)
	}
	step(0, api.AskPrepare, api.OK, "asking 2 p..")
	step(2, api.AskPrepare, api.ErrSpace, "asking 2 p.r")
	step(1, api.AskPrepare, api.OK, "ready 2 ppr")
	r, e = round.Publish(r)
	is(t, "Publish", r, e, at("published 2 ppr"), api.OK)
	step(0, api.AskCommit, api.OK, "published 2 cpr")
	step(1, api.AskCommit, api.OK, "published 2 ccr")
	step(2, api.AskPrepare, api.OK, "published 2 ccp")
	step(2, api.AskCommit, api.OK, "done 2 ccc")
	r = at("asking 2 p..")
	step(2, api.AskPrepare, api.ErrSpace, "asking 2 p.r")
	step(1, api.AskPrepare, api.ErrSpace, "given 2 prr")
	step(0, api.AskAbort, api.OK, "given 2 grr")
	step(1, api.AskAbort, api.ErrStale, "given 2 ggr")
	step(2, api.AskAbort, api.OK, "gone 2 ggg")
}

// P12.2: each answer by the chapter's words, one by one; it is of the index 0.
func TestToldByWords(t *testing.T) {
	for _, x := range []struct {
		from string
		op   api.NodeOp
		e    api.Errno
		to   string
	}{
		{"asking 2 ...", api.AskPrepare, api.OK, "asking 2 p.."},
		{"asking 2 p..", api.AskPrepare, api.OK, "asking 2 p.."},
		{"asking 2 r..", api.AskPrepare, api.OK, "asking 2 p.."},
		{"asking 2 .p.", api.AskPrepare, api.OK, "ready 2 pp."},
		{"asking 2 rp.", api.AskPrepare, api.OK, "ready 2 pp."},
		{"asking 1 .rr", api.AskPrepare, api.OK, "ready 1 prr"},
		{"asking 2 ...", api.AskPrepare, api.ErrSlot, "asking 2 r.."},
		{"asking 2 ...", api.AskPrepare, api.ErrStale, "asking 2 r.."},
		{"asking 2 .r.", api.AskPrepare, api.ErrSpace, "given 2 rr."},
		{"asking 2 .rp", api.AskPrepare, api.ErrOld, "given 2 rrp"},
		{"asking 1 .", api.AskPrepare, api.ErrOld, "given 1 r"},
		{"asking 2 p..", api.AskPrepare, api.ErrStale, "asking 2 p.."},
		{"asking 2 r..", api.AskPrepare, api.ErrStale, "asking 2 r.."},
		{"asking 2 ...", api.AskCommit, api.OK, "asking 2 ..."},
		{"asking 2 p..", api.AskCommit, api.ErrSlot, "asking 2 p.."},
		{"asking 2 p..", api.AskAbort, api.OK, "asking 2 p.."},
		{"ready 1 .p", api.AskPrepare, api.OK, "ready 1 pp"},
		{"ready 1 rp", api.AskPrepare, api.OK, "ready 1 pp"},
		{"ready 1 .p", api.AskPrepare, api.ErrSpace, "ready 1 rp"},
		{"ready 1 .pr", api.AskPrepare, api.ErrSpace, "ready 1 rpr"},
		{"ready 1 p.", api.AskPrepare, api.ErrStale, "ready 1 p."},
		{"ready 1 p.", api.AskCommit, api.OK, "ready 1 p."},
		{"ready 1 p.", api.AskAbort, api.OK, "ready 1 p."},
		{"published 1 .p", api.AskPrepare, api.OK, "published 1 pp"},
		{"published 1 rp", api.AskPrepare, api.OK, "published 1 pp"},
		{"published 1 cp", api.AskPrepare, api.OK, "published 1 cp"},
		{"published 1 .p", api.AskPrepare, api.ErrStale, "published 1 cp"},
		{"published 1 rp", api.AskPrepare, api.ErrStale, "published 1 cp"},
		{"published 1 pp", api.AskPrepare, api.ErrStale, "published 1 cp"},
		{"published 1 .c", api.AskPrepare, api.ErrStale, "done 1 cc"},
		{"published 1 .p", api.AskPrepare, api.ErrSpace, "published 1 rp"},
		{"published 1 .p", api.AskPrepare, api.ErrSlot, "published 1 rp"},
		{"published 1 pp", api.AskPrepare, api.ErrSlot, "published 1 pp"},
		{"published 1 cp", api.AskPrepare, api.ErrSlot, "published 1 cp"},
		{"published 1 ..", api.AskPrepare, api.ErrOld, "published 1 r."},
		{"published 1 r", api.AskPrepare, api.ErrOld, "published 1 r"},
		{"published 1 pp", api.AskCommit, api.OK, "published 1 cp"},
		{"published 1 .p", api.AskCommit, api.OK, "published 1 cp"},
		{"published 1 rp", api.AskCommit, api.ErrStale, "published 1 cp"},
		{"published 1 pc", api.AskCommit, api.ErrStale, "done 1 cc"},
		{"published 1 p", api.AskCommit, api.OK, "done 1 c"},
		{"published 1 pp", api.AskCommit, api.ErrSlot, "published 1 .p"},
		{"published 1 rp", api.AskCommit, api.ErrSlot, "published 1 rp"},
		{"published 1 cp", api.AskCommit, api.ErrSlot, "published 1 cp"},
		{"published 1 pp", api.AskCommit, api.ErrOld, "published 1 pp"},
		{"published 1 pp", api.AskAbort, api.OK, "published 1 pp"},
		{"published 1 pp", api.AskDrop, api.OK, "published 1 pp"},
		{"given 1 ..", api.AskPrepare, api.OK, "given 1 p."},
		{"given 1 r.", api.AskPrepare, api.OK, "given 1 p."},
		{"given 1 g.", api.AskPrepare, api.OK, "given 1 p."},
		{"given 1 pp", api.AskPrepare, api.OK, "given 1 pp"},
		{"given 1 ..", api.AskPrepare, api.ErrStale, "given 1 .."},
		{"given 1 g.", api.AskPrepare, api.ErrSpace, "given 1 g."},
		{"given 1 p.", api.AskAbort, api.OK, "given 1 g."},
		{"given 1 ..", api.AskAbort, api.ErrStale, "given 1 g."},
		{"given 1 rg", api.AskAbort, api.OK, "gone 1 gg"},
		{"given 1 p.", api.AskAbort, api.ErrSlot, "given 1 p."},
		{"given 1 p.", api.AskAbort, api.ErrOld, "given 1 p."},
		{"given 1 p.", api.AskCommit, api.OK, "given 1 p."},
		{"done 1 cc", api.AskCommit, api.ErrSlot, "done 1 cc"},
		{"done 1 cc", api.AskPrepare, api.OK, "done 1 cc"},
		{"done 1 cc", api.AskAbort, api.OK, "done 1 cc"},
		{"gone 1 gg", api.AskPrepare, api.OK, "gone 1 gg"},
		{"gone 1 gg", api.AskCommit, api.OK, "gone 1 gg"},
	} {
		r, e := round.Told(at(x.from), 0, x.op, x.e)
		is(t, "Told("+x.from+", 0, "+ops[x.op]+")", r, e, at(x.to), api.OK)
	}
}

// P12.2: all right rounds of up to four indexes, with all answers.
func TestToldOfAllSmall(t *testing.T) {
	smallRight(4, func(r api.Round) {
		for index := range r.Marks {
			for op := range api.NodeOp(8) {
				for i, e := range errs {
					if i >= 4 && (op < api.AskPrepare || op > api.AskAbort) {
						break // of other asks no error is named
					}
					if q := tells(t, r, index, op, e); !round.Right(q) {
						t.Fatalf("Told(%s, %d, %d, %d): %s, which is not right", words(r), index, op, e, words(q))
					}
				}
			}
		}
	})
}

// P12.2: of an answer to what is no ask, or to one that is not named, nothing.
func TestToldOtherAsks(t *testing.T) {
	smallRight(3, func(r api.Round) {
		for op := range 256 {
			if op >= 1 && op <= 3 {
				continue
			}
			q, e := round.Told(r, 0, api.NodeOp(op), errs[op%len(errs)])
			is(t, "Told of another ask", q, e, r, api.OK)
		}
	})
}

// P12.2: ErrRound of an index that there is not, and of what is not right; it is the round as it was.
func TestToldWrong(t *testing.T) {
	smallRight(3, func(r api.Round) {
		n := len(r.Marks)
		for _, index := range []int{-1, -2, n, n + 1, 255, 256, 1 << 32, math.MinInt, math.MaxInt, -n} {
			q, e := round.Told(r, index, api.AskPrepare, api.OK)
			is(t, "Told of no index", q, e, r, api.ErrRound)
			q, e = round.Lose(r, index)
			is(t, "Lose of no index", q, e, r, api.ErrRound)
		}
	})
	for _, r := range wrong() {
		for index := -1; index <= 3; index++ {
			for op := api.AskPrepare; op <= api.AskAbort; op++ {
				q, e := round.Told(r, index, op, api.OK)
				is(t, "Told of what is not right", q, e, r, api.ErrRound)
			}
			q, e := round.Lose(r, index)
			is(t, "Lose of what is not right", q, e, r, api.ErrRound)
		}
	}
	small(3, -1, 5, func(r api.Round) {
		tells(t, r, 0, api.AskPrepare, api.OK)
		loses(t, r, 0)
	})
}

// P12.2: long ways with many indexes; Stripe, Version and Need stay.
func TestToldOfMany(t *testing.T) {
	c := chance(1)
	ends := map[int]int{}
	for range 80 {
		n := []int{1, 2, 5, 20, 254, 255}[c.below(6)]
		r, e := round.Begin(far, far, n, 1+c.below(n))
		if e != api.OK {
			t.Fatal(e)
		}
		for range 6 * n {
			op, err := c.answer()
			if l := round.Wants(r); len(l) > 0 && c.below(3) > 0 {
				op = l[c.below(len(l))].Op
			}
			r = tells(t, r, c.below(n), op, err)
			if c.below(20) == 0 {
				r = loses(t, r, c.below(n))
			}
			if q, e := round.Publish(r); e == api.OK && c.below(5) == 0 {
				r = q
			}
		}
		ends[r.Phase]++
	}
	if ends[api.RoundPublished]+ends[api.RoundDone] < 20 || ends[api.RoundGiven]+ends[api.RoundGone] < 20 {
		t.Errorf("so many ended in each phase: %v", ends)
	}
}
