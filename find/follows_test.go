package find_test

import (
	"slices"
	"testing"

	"cooperage/api"
	"cooperage/find"
)

// behind is all finds that one step of any kind makes of f, but for f itself.
func behind(t *testing.T, f api.Find) []api.Find {
	t.Helper()
	var out []api.Find
	add := func(g api.Find, e api.Errno) {
		if e != api.OK {
			t.Fatalf("of %s: %d", words(f), e)
		}
		if !same(g, f) {
			out = append(out, g)
		}
	}
	for index := range f.Marks {
		add(find.Told(f, index, api.OK, []byte{byte('a' + index)}))
		add(find.Told(f, index, api.OK, []byte{byte('a' + index), 'x'}))
		add(find.Told(f, index, api.ErrSlot, nil))
		add(find.Lose(f, index))
	}
	return out
}

// P13.4: whatever comes to a find, step by step from its begin, it is right; nothing but its Phase, Marks, Which and Shards changes; what came stays in front; and what is done, or lost, stays as it is.
func TestWays(t *testing.T) {
	for n := 1; n <= 4; n++ {
		for need := 1; need <= n; need++ {
			first, _ := find.Begin(7, 1, n, need)
			seen := map[string]bool{words(first): true}
			came := map[int]bool{}
			for work := []api.Find{first}; len(work) > 0; {
				f := work[len(work)-1]
				work = work[:len(work)-1]
				came[f.Phase] = true
				for _, g := range behind(t, f) {
					if !find.Right(g) || g.Stripe != 7 || g.Version != 1 || g.Need != need || len(g.Marks) != n || f.Phase != api.FindAsking {
						t.Fatalf("of %s came %s", words(f), words(g))
					}
					if len(g.Which) < len(f.Which) || !slices.Equal(g.Which[:len(f.Which)], f.Which) || !sameShards(g.Shards[:len(f.Which)], f.Shards) {
						t.Fatalf("of %s came %s", words(f), words(g))
					}
					if !seen[words(g)] {
						seen[words(g)] = true
						work = append(work, g)
					}
				}
			}
			if len(came) != 3 {
				t.Errorf("%d of %d: only %v", need, n, came)
			}
		}
	}
}

// P13.4: a find is done just when as many as needed have told a shard, and lost just when so many lack it that these cannot come.
func TestDoneAndLost(t *testing.T) {
	c := chance(13)
	many := [4]int{}
	for range 4000 {
		n := 1 + c.below(7)
		f, _ := find.Begin(7, 1, n, 1+c.below(n))
		brought, lacking := map[int]bool{}, map[int]bool{}
		for range 4 * n {
			over := f.Phase != api.FindAsking
			index := c.below(n)
			switch c.below(5) {
			case 0, 1:
				f = tells(t, f, index, api.OK, c.bytes(2))
				if !over && !lacking[index] {
					brought[index] = true
				}
			case 2, 3:
				f = tells(t, f, index, odd[c.below(len(odd))], c.bytes(2))
				if !over && !brought[index] {
					lacking[index] = true
				}
			case 4:
				f = loses(t, f, index)
				if !over {
					delete(lacking, index)
				}
			}
			want := api.FindAsking
			if len(brought) >= f.Need {
				want = api.FindDone
			} else if n-len(lacking) < f.Need {
				want = api.FindLost
			}
			if f.Phase != want || len(f.Which) != len(brought) || len(find.Lacks(f)) != len(lacking) {
				t.Fatalf("%d brought it, %d lack it: %s", len(brought), len(lacking), words(f))
			}
		}
		many[f.Phase]++
	}
	if min(many[api.FindAsking], many[api.FindDone], many[api.FindLost]) < 50 {
		t.Errorf("only so many of each phase: %v", many)
	}
}

// met is f when every want is met, in an order by chance, till there are none: with a shard by so many of ten.
func met(t *testing.T, c *chance, f api.Find, often int) api.Find {
	t.Helper()
	for range len(f.Marks) {
		l := find.Wants(f)
		if len(l) == 0 {
			break
		}
		x := l[c.below(len(l))]
		size := 1
		if len(f.Shards) > 0 {
			size = len(f.Shards[0])
		}
		if c.below(10) < often {
			f = tells(t, f, x.Index, api.OK, c.bytes(size))
		} else {
			f = tells(t, f, x.Index, api.ErrSlot, nil)
		}
	}
	if l := find.Wants(f); len(l) > 0 {
		t.Fatalf("%s wants still %v", words(f), l)
	}
	return f
}

// P13.4: if every want is met, any right find comes to be done or lost, whatever it is met with; done, if with a shard each time.
func TestMet(t *testing.T) {
	c := chance(17)
	ends := func(f api.Find) {
		t.Helper()
		for _, often := range []int{0, 5, 10} {
			g := met(t, &c, f, often)
			if g.Phase != api.FindDone && g.Phase != api.FindLost || f.Phase != api.FindAsking && !same(f, g) {
				t.Fatalf("%s came to %s", words(f), words(g))
			}
			if f.Phase == api.FindAsking && often != 5 && (g.Phase == api.FindDone) != (often == 10) {
				t.Fatalf("%s came to %s", words(f), words(g))
			}
		}
	}
	smallRight(4, 1, ends)
	for _, need := range []int{1, 100, 255} {
		f, _ := find.Begin(7, 1, 255, need)
		ends(f)
	}
}

// P13.4: a stripe is told by its finds, whatever of it lacks, is lost, comes late or is of another length, in any order, as long as what is told with OK and of that length is of it.
func TestWritten(t *testing.T) {
	c := chance(19)
	done := 0
	for range 600 {
		n := 1 + c.below(9)
		k := 1 + c.below(n)
		x, size := made(k, n), c.below(4)
		data := c.stripe(k, size)
		shards, _ := x.Encode(data)
		f, _ := find.Begin(c.below(9), 1+c.below(9), n, k)
		for range 3 * n {
			index := c.below(n)
			switch {
			case c.below(4) > 0:
				f, _ = find.Told(f, index, api.OK, shards[index])
			case len(f.Which) > 0 && c.below(2) == 0:
				f, _ = find.Told(f, index, api.OK, c.bytes(size+1))
			case c.below(2) == 0:
				f, _ = find.Told(f, index, api.ErrSum, shards[index])
			default:
				f, _ = find.Lose(f, index)
			}
		}
		if f.Phase == api.FindDone {
			done++
			datas(t, x, f, data, api.OK)
		}
	}
	if done < 200 {
		t.Errorf("only %d were done", done)
	}
}
