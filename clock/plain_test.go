package clock_test

import (
	"fmt"
	"math"
	"slices"
	"testing"

	"cooperage/api"
	"cooperage/clock"
)

// far is the greatest time of all.
const far = 1 << 60

// made is a clock that has to be.
func made(t *testing.T, most int) *clock.Clock {
	t.Helper()
	c, e := clock.New(most)
	if c == nil || e != api.OK {
		t.Fatalf("New(%d): %d", most, e)
	}
	return c
}

// is holds an error against the one that has to be.
func is(t *testing.T, what string, e, want api.Errno) {
	t.Helper()
	if e != want {
		t.Fatalf("%s: %d, want %d", what, e, want)
	}
}

// set is a Set that has to be done.
func set(t *testing.T, c *clock.Clock, id int, in int64) {
	t.Helper()
	is(t, fmt.Sprintf("Set(%d, %d)", id, in), c.Set(id, in), api.OK)
}

// timers is a list of some, of pairs of a Due and an Id.
func timers(pairs ...int) []api.Timer {
	var out []api.Timer
	for i := 0; i+1 < len(pairs); i += 2 {
		out = append(out, api.Timer{Due: int64(pairs[i]), Id: pairs[i+1]})
	}
	return out
}

// tells holds what was told against what has to be.
func tells(t *testing.T, what string, l []api.Timer, pairs ...int) {
	t.Helper()
	if !slices.Equal(l, timers(pairs...)) {
		t.Fatalf("%s: %v, want %v", what, l, timers(pairs...))
	}
}

// stands holds a clock against the time and the timers that it has to have, as pairs of a Due and an Id, by all that asks for them.
func stands(t *testing.T, c *clock.Clock, now int64, pairs ...int) {
	t.Helper()
	if why := differs(c, &plain{now: now, list: timers(pairs...)}); why != "" {
		t.Fatal(why)
	}
}

// plain is a clock by the chapter's words, in another way: timers in a list without an order, looked through each time.
type plain struct {
	most int
	now  int64
	list []api.Timer
}

// where is the timer of an Id in the list, or -1.
func (p *plain) where(id int) int {
	return slices.IndexFunc(p.list, func(x api.Timer) bool { return x.Id == id })
}

func (p *plain) set(id int, in int64) api.Errno {
	if in < 1 || in > far || p.now > far-in {
		return api.ErrArg
	}
	if i := p.where(id); i >= 0 {
		p.list[i].Due = p.now + in
		return api.OK
	}
	if len(p.list) == p.most {
		return api.ErrTimer
	}
	p.list = append(p.list, api.Timer{Due: p.now + in, Id: id})
	return api.OK
}

func (p *plain) unset(id int) bool {
	i := p.where(id)
	if i >= 0 {
		last := len(p.list) - 1
		p.list[i] = p.list[last]
		p.list = p.list[:last]
	}
	return i >= 0
}

// ahead is how many timers are ahead of that one.
func (p *plain) ahead(x api.Timer) int {
	many := 0
	for _, y := range p.list {
		if y.Due < x.Due || y.Due == x.Due && y.Id < x.Id {
			many++
		}
	}
	return many
}

// all puts each timer to the place that as many are ahead of it.
func (p *plain) all() []api.Timer {
	out := make([]api.Timer, len(p.list))
	for _, x := range p.list {
		out[p.ahead(x)] = x
	}
	return out
}

// to turns the plain clock to a time, and is what is due by it.
func (p *plain) to(now int64) []api.Timer {
	var told []api.Timer
	for _, x := range p.all() {
		if x.Due <= now {
			told = append(told, x)
			p.unset(x.Id)
		}
	}
	p.now = now
	return told
}

func (p *plain) tick() []api.Timer {
	if p.now == far {
		return nil
	}
	return p.to(p.now + 1)
}

func (p *plain) skip() []api.Timer {
	if len(p.list) == 0 {
		return nil
	}
	return p.to(p.all()[0].Due)
}

// differs tells by what a clock differs from the plain one; nothing, if by nothing.
func differs(c *clock.Clock, p *plain) string {
	all := p.all()
	if c.Now() != p.now {
		return fmt.Sprintf("Now: %d, want %d", c.Now(), p.now)
	}
	if l := c.All(); !slices.Equal(l, all) {
		return fmt.Sprintf("All: %v, want %v", l[:min(len(l), 20)], all[:min(len(all), 20)])
	}
	first := api.Timer{}
	if len(all) > 0 {
		first = all[0]
	}
	if x, some := c.Next(); x != first || some != (len(all) > 0) {
		return fmt.Sprintf("Next: %v, %v, want %v", x, some, first)
	}
	for _, x := range all {
		if due, there := c.Due(x.Id); due != x.Due || !there {
			return fmt.Sprintf("Due(%d): %d, %v, want %d", x.Id, due, there, x.Due)
		}
	}
	for _, id := range []int{-1, 0, 1, 2, 3, 99, math.MinInt, math.MaxInt} {
		if due, there := c.Due(id); p.where(id) < 0 && (due != 0 || there) {
			return fmt.Sprintf("Due(%d): %d, %v, and there is none", id, due, there)
		}
	}
	return ""
}

// chance is numbers by a rule from a seed.
type chance uint32

// below is the next one, from 0 on and below n.
func (c *chance) below(n int) int {
	*c = *c*1664525 + 1013904223
	return int(*c>>8) % n
}
