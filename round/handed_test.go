package round_test

import (
	"slices"
	"testing"

	"cooperage/api"
	"cooperage/round"
)

// calls are all that are handed a round and tell one.
var calls = map[string]func(r api.Round) (api.Round, api.Errno){
	"prepared": func(r api.Round) (api.Round, api.Errno) { return round.Told(r, 0, api.AskPrepare, api.OK) },
	"refused":  func(r api.Round) (api.Round, api.Errno) { return round.Told(r, 0, api.AskPrepare, api.ErrSpace) },
	"stale":    func(r api.Round) (api.Round, api.Errno) { return round.Told(r, 0, api.AskPrepare, api.ErrStale) },
	"commit":   func(r api.Round) (api.Round, api.Errno) { return round.Told(r, 0, api.AskCommit, api.OK) },
	"slot":     func(r api.Round) (api.Round, api.Errno) { return round.Told(r, 0, api.AskCommit, api.ErrSlot) },
	"abort":    func(r api.Round) (api.Round, api.Errno) { return round.Told(r, 0, api.AskAbort, api.OK) },
	"nothing":  func(r api.Round) (api.Round, api.Errno) { return round.Told(r, 0, api.AskList, api.OK) },
	"no index": func(r api.Round) (api.Round, api.Errno) { return round.Told(r, len(r.Marks), api.AskPrepare, api.OK) },
	"lose":     func(r api.Round) (api.Round, api.Errno) { return round.Lose(r, 0) },
	"lose -1":  func(r api.Round) (api.Round, api.Errno) { return round.Lose(r, -1) },
	"publish":  round.Publish,
	"give":     round.Give,
}

// handed is a round whose Marks lie in a longer list, and that list; behind them stand 9s.
func handed(r api.Round) (api.Round, []int) {
	n := len(r.Marks)
	all := append(slices.Clone(r.Marks), 9, 9, 9)
	r.Marks = all[:n]
	return r, all
}

// R3: what is handed in is not changed, its spare room neither; what is told shares no memory with it, also beside an error, whatever becomes of it.
func TestHanded(t *testing.T) {
	small(3, -1, 5, func(plain api.Round) {
		for name, call := range calls {
			r, all := handed(plain)
			was := slices.Clone(all)
			right, want := round.Right(r), round.Wants(r)
			first, e := call(r)
			if !slices.Equal(all, was) || round.Right(r) != right || !slices.Equal(round.Wants(r), want) {
				t.Fatalf("%s of %s changed it: %v", name, words(plain), all)
			}
			second, again := call(r)
			is(t, name+" twice", second, again, first, e)
			told := slices.Clone(first.Marks)
			for i := range first.Marks {
				first.Marks[i] = 77
			}
			first.Marks = append(first.Marks, 78)
			if !slices.Equal(all, was) || !slices.Equal(second.Marks, told) {
				t.Fatalf("%s of %s shares memory: %v, %v", name, words(plain), all, second.Marks)
			}
			for i := range all {
				all[i] = 66
			}
			if !slices.Equal(second.Marks, told) {
				t.Fatalf("%s of %s keeps what was handed in: %v", name, words(plain), second.Marks)
			}
		}
	})
}

// R3: two rounds that were begun, and two lists of wants, share no memory.
func TestHandedOut(t *testing.T) {
	r, _ := round.Begin(7, 1, 3, 2)
	q, _ := round.Begin(7, 1, 3, 2)
	r.Marks[0] = api.MarkPrepared
	if !same(q, at("asking 2 ...")) {
		t.Errorf("%s", words(q))
	}
	first, second := round.Wants(q), round.Wants(q)
	first[0] = api.Want{Index: 9, Op: 9}
	if second[0] != (api.Want{Index: 0, Op: api.AskPrepare}) || round.Wants(q)[0] != second[0] {
		t.Errorf("%v, %v", second, round.Wants(q))
	}
}

// R6: a round of an empty list is one of none: it is not right.
func TestEmptyAndNone(t *testing.T) {
	for phase := range 8 {
		for need := range 2 {
			r := api.Round{Stripe: 7, Version: 1, Need: need, Phase: phase}
			q := r
			q.Marks = []int{}
			for _, x := range []api.Round{r, q} {
				if round.Right(x) || len(round.Wants(x)) > 0 {
					t.Errorf("%+v is right", x)
				}
				for name, call := range calls {
					got, e := call(x)
					is(t, name, got, e, x, api.ErrRound)
				}
			}
		}
	}
}
