package round_test

import (
	"slices"
	"testing"

	"cooperage/api"
	"cooperage/round"
)

// behind is all rounds that one step of any kind makes of r, but for r itself.
func behind(t *testing.T, r api.Round) []api.Round {
	var out []api.Round
	add := func(q api.Round, e api.Errno) {
		if e == api.OK && !same(q, r) {
			out = append(out, q)
		}
	}
	for index := range r.Marks {
		for op := api.AskPrepare; op <= api.AskDrop; op++ {
			for _, e := range errs[:5] {
				add(round.Told(r, index, op, e))
			}
		}
		add(round.Lose(r, index))
	}
	add(round.Publish(r))
	add(round.Give(r))
	return out
}

// P12.4: whatever comes to a round, step by step from its begin, it is right; it comes to no phase that it must not come to; nothing but its Phase and Marks changes.
func TestWays(t *testing.T) {
	may := map[string]bool{
		"asking ready": true, "asking given": true, "ready asking": true, "ready published": true, "ready given": true, "published done": true, "given gone": true,
	}
	for n := 1; n <= 4; n++ {
		for need := 1; need <= n; need++ {
			first, _ := round.Begin(7, 1, n, need)
			seen := map[string]bool{words(first): true}
			came := map[string]bool{}
			for work := []api.Round{first}; len(work) > 0; {
				r := work[len(work)-1]
				work = work[:len(work)-1]
				for _, q := range behind(t, r) {
					if !round.Right(q) || q.Stripe != 7 || q.Version != 1 || q.Need != need || len(q.Marks) != n {
						t.Fatalf("of %s came %s", words(r), words(q))
					}
					if q.Phase != r.Phase {
						came[phases[r.Phase]+" "+phases[q.Phase]] = true
					}
					if !seen[words(q)] {
						seen[words(q)] = true
						work = append(work, q)
					}
				}
			}
			for way := range came {
				if !may[way] {
					t.Errorf("%d of %d: %s", need, n, way)
				}
			}
			if len(came) != len(may) {
				t.Errorf("%d of %d: only %v", need, n, came)
			}
		}
	}
}

// P12.4: what is published is not given up, by any call; what is given up is not published, and nothing of it is committed, nor asked to be.
func TestNeverBoth(t *testing.T) {
	smallRight(4, func(r api.Round) {
		published := r.Phase == api.RoundPublished || r.Phase == api.RoundDone
		given := r.Phase == api.RoundGiven || r.Phase == api.RoundGone
		for _, x := range round.Wants(r) {
			if published && x.Op == api.AskAbort || !published && x.Op == api.AskCommit {
				t.Fatalf("Wants(%s): %v", words(r), x)
			}
		}
		for _, q := range behind(t, r) {
			if published && q.Phase != api.RoundPublished && q.Phase != api.RoundDone {
				t.Fatalf("of %s came %s", words(r), words(q))
			}
			if given && (q.Phase != api.RoundGiven && q.Phase != api.RoundGone || slices.Contains(q.Marks, api.MarkCommitted)) {
				t.Fatalf("of %s came %s", words(r), words(q))
			}
		}
	})
}

// P12.4: what is published was prepared by Need indexes at least, each of which told it, and was not lost since.
func TestPublishedWasPrepared(t *testing.T) {
	c := chance(2)
	many := 0
	for range 3000 {
		n := 1 + c.below(7)
		r, _ := round.Begin(7, 1, n, 1+c.below(n))
		holds := make([]int, n)
		for range 5 * n {
			index := c.below(n)
			op, err := c.answer()
			if op == api.AskPrepare && err == api.OK {
				holds[index] = 1
			}
			r = tells(t, r, index, op, err)
			if c.below(4) == 0 {
				index = c.below(n)
				holds[index] = 0
				r = loses(t, r, index)
			}
			sum := 0
			for _, one := range holds {
				sum += one
			}
			q, e := round.Publish(r)
			if e == api.OK && sum < r.Need {
				t.Fatalf("%s is published, and %d hold it", words(r), sum)
			}
			if e == api.OK && c.below(3) == 0 {
				r = q
				many++
				break
			}
		}
	}
	if many < 500 {
		t.Errorf("only %d were published", many)
	}
}

// met is r when every want is met with OK, in an order by chance, till there are none.
func met(t *testing.T, c *chance, r api.Round) api.Round {
	t.Helper()
	for range 3 * len(r.Marks) {
		l := round.Wants(r)
		if len(l) == 0 {
			break
		}
		x := l[c.below(len(l))]
		r = tells(t, r, x.Index, x.Op, api.OK)
	}
	if l := round.Wants(r); len(l) > 0 {
		t.Fatalf("%s wants still %v", words(r), l)
	}
	return r
}

// P12.4: if every want is met with OK, any right round comes to its end: what is asked is ready, and, published, done; what is given up is gone.
func TestMet(t *testing.T) {
	c := chance(3)
	ends := func(r api.Round) {
		t.Helper()
		q := met(t, &c, r)
		switch r.Phase {
		case api.RoundAsking, api.RoundReady:
			p, e := round.Publish(q)
			if q.Phase != api.RoundReady || e != api.OK || met(t, &c, p).Phase != api.RoundDone {
				t.Fatalf("%s came to %s, and then to %s", words(r), words(q), words(p))
			}
			if g, e := round.Give(r); e != api.OK || met(t, &c, g).Phase != api.RoundGone {
				t.Fatalf("%s, given up, is not gone", words(r))
			}
		case api.RoundPublished, api.RoundDone:
			if q.Phase != api.RoundDone {
				t.Fatalf("%s came to %s", words(r), words(q))
			}
		default:
			if q.Phase != api.RoundGone {
				t.Fatalf("%s came to %s", words(r), words(q))
			}
		}
	}
	smallRight(4, ends)
	for _, need := range []int{1, 100, 255} {
		r, _ := round.Begin(7, 1, 255, need)
		ends(r)
	}
}
