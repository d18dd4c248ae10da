package slots_test

import (
	"slices"
	"strings"
	"testing"

	"cooperage/api"
	"cooperage/disk"
	"cooperage/slots"
)

// walk goes through all media that some calls, and crashes at any operation of theirs and of opening, can lead to.
type walk struct {
	t             *testing.T
	table         *api.Table
	sectors, size int
	calls         []func(s *slots.Slots) api.Errno
	drops         []bool // which of the calls may be done by halves
	left          []string
	seen          map[string]bool
}

// medium is all bytes of a disk.
func (w *walk) medium(d *disk.Disk) string {
	var b strings.Builder
	for i := range w.sectors {
		b.Write(sector(w.t, d, i))
	}
	return b.String()
}

// disk is one of these bytes.
func (w *walk) disk(medium string) *disk.Disk {
	d := made(w.t, w.sectors)
	for i := range w.sectors {
		d.Write(i, []byte(medium[64*i:64*i+64]))
	}
	d.Flush()
	return d
}

// reach comes to a medium, once; bytes that no header names are of no account.
func (w *walk) reach(medium string) {
	p := &plain{d: w.disk(medium), table: w.table, size: w.size}
	var what []string
	for place := range w.sectors / p.wide() {
		first := 64 * place * p.wide()
		x, _, _ := p.kept(place)
		what = append(what, medium[first:first+64]+string(x.Bytes))
	}
	if key := strings.Join(what, "/"); !w.seen[key] {
		w.seen[key] = true
		w.left = append(w.left, medium)
	}
}

// crash is a disk that is down, behind its crash, in each way: what the cache had is kept or not.
func (w *walk) crash(again func() *disk.Disk) []*disk.Disk {
	var all []*disk.Disk
	many := len(again().Cached())
	for choice := range 1 << many {
		d := again()
		d.Crash(bits(choice, many))
		all = append(all, d)
	}
	return all
}

// counts is what counts on a medium, none of which may be bad; then it is come to.
func (w *walk) counts(medium string) []api.Slot {
	w.reach(medium)
	s := opened(w.t, w.disk(medium), w.table, w.size)
	if s.Bad() != 0 {
		w.t.Errorf("%d places are bad, of %v", s.Bad(), s.All())
	}
	return s.All()
}

// wants asks whether what counts is one of those that may be.
func (w *walk) wants(what string, got []api.Slot, may [][]api.Slot) {
	if !slices.ContainsFunc(may, func(all []api.Slot) bool { return slices.EqualFunc(all, got, same) }) {
		w.t.Errorf("%s: %v counts, want one of %v", what, got, may)
	}
}

// opening lets the power fail at each operation of Open.
func (w *walk) opening(medium string, base []api.Slot) {
	for n := 0; ; n++ {
		done := false
		open := func() *disk.Disk {
			d := w.disk(medium)
			d.Arm(n)
			_, e := slots.Open(d, w.table, w.size)
			done = e == api.OK
			return d
		}
		for _, d := range w.crash(open) {
			w.wants("Open", w.counts(w.medium(d)), [][]api.Slot{base})
		}
		if done {
			return
		}
	}
}

// halves is what may count behind some steps of a call: of what counts no more behind it the greatest goes first.
func halves(before, after []api.Slot) [][]api.Slot {
	var all [][]api.Slot
	left := slices.Clone(before)
	for i := len(before) - 1; i >= 0; i-- {
		if !slices.ContainsFunc(after, func(x api.Slot) bool { return same(x, before[i]) }) {
			left = slices.Delete(left, i, i+1)
			all = append(all, slices.Clone(left))
		}
	}
	return all
}

// calling lets the power fail at each operation of a call.
func (w *walk) calling(medium string, base []api.Slot, k int) {
	whole := w.disk(medium)
	s := opened(w.t, whole, w.table, w.size)
	w.calls[k](s)
	may := [][]api.Slot{base, s.All()}
	if w.drops[k] {
		may = append(may, halves(base, s.All())...)
	}
	whole.Crash(nil)
	w.wants("a call that was done", w.counts(w.medium(whole)), [][]api.Slot{s.All()})
	for n, down := 0, true; down; n++ {
		call := func() *disk.Disk {
			d := w.disk(medium)
			s := opened(w.t, d, w.table, w.size)
			d.Arm(n)
			w.calls[k](s)
			down = d.Down()
			return d
		}
		for _, d := range w.crash(call) {
			w.wants("a call that was going on", w.counts(w.medium(d)), may)
		}
	}
}

// all goes on until nothing new is come to.
func (w *walk) all() {
	w.seen = map[string]bool{}
	w.reach(strings.Repeat("\x00", 64*w.sectors))
	for len(w.left) > 0 && !w.t.Failed() {
		medium := w.left[0]
		w.left = w.left[1:]
		base := w.counts(medium)
		w.opening(medium, base)
		for k := range w.calls {
			w.calling(medium, base, k)
		}
	}
}

// does puts a call to those that are gone through.
func (w *walk) does(call func(s *slots.Slots) api.Errno) {
	w.calls, w.drops = append(w.calls, call), append(w.drops, false)
}

// P6.5: behind any crash, at any operation, whatever is kept: what counts is what counted ahead of the call that was going on, or behind it; also by a table by which all long bytes have one sum.
func TestFollowsCrash(t *testing.T) {
	for _, table := range []*api.Table{crc(), {}} {
		w := &walk{t: t, table: table, sectors: 9, size: 100}
		for version := 1; version <= 3; version++ {
			w.does(func(s *slots.Slots) api.Errno {
				return s.Prepare(7, 0, version, of(version, []int{0, 70, 9, 100}[version]))
			})
			w.does(func(s *slots.Slots) api.Errno { return s.Commit(7, 0, version) })
			w.does(func(s *slots.Slots) api.Errno { return s.Abort(7, 0, version) })
			w.does(func(s *slots.Slots) api.Errno { return s.Drop(7, 0, version) })
			w.drops[len(w.drops)-1] = true
		}
		w.all()
		if len(w.seen) < 100 {
			t.Errorf("%d media alone were come to", len(w.seen))
		}
	}
}

// P6.5: likewise with two shards.
func TestFollowsCrashTwo(t *testing.T) {
	w := &walk{t: t, table: crc(), sectors: 6, size: 64}
	for _, stripe := range []int{7, 8} {
		for version := 1; version <= 2; version++ {
			w.does(func(s *slots.Slots) api.Errno { return s.Prepare(stripe, 0, version, of(stripe+version, 40)) })
			w.does(func(s *slots.Slots) api.Errno { return s.Commit(stripe, 0, version) })
		}
		w.does(func(s *slots.Slots) api.Errno { return s.Abort(stripe, 0, 2) })
		w.does(func(s *slots.Slots) api.Errno { return s.Drop(stripe, 0, 2) })
		w.drops[len(w.drops)-1] = true
	}
	w.all()
	if len(w.seen) < 50 {
		t.Errorf("%d media alone were come to", len(w.seen))
	}
}

// P6.5, P6.2: behind a call's error, as behind its end, all other places have headers of noughts, as long as nothing is under way; and Room tells of them.
func TestFreeIsBlank(t *testing.T) {
	c := chance(3)
	d := made(t, 12)
	s := opened(t, d, crc(), 64)
	for k := range 3000 {
		stripe, version := 7+c.below(2), 1+k/40+c.below(6)
		switch c.below(6) {
		case 0, 1, 2:
			s.Prepare(stripe, 0, version, of(version, version%65))
		case 3:
			s.Commit(stripe, 0, version)
		case 4:
			s.Abort(stripe, 0, version)
		case 5:
			s.Drop(stripe, 0, version-4)
		}
		d.Crash(nil)
		taken := 0
		for place := range 6 {
			b := sector(t, d, 2*place)
			if slices.Max(b) == 0 {
				continue
			}
			taken++
			x, _, _, ok := parsed(crc(), b)
			y, there := s.Get(x.Stripe, x.Index, x.Version)
			if !ok || !there || x.State != y.State {
				t.Fatalf("behind step %d: the header of %v, %v is not free", k, x, ok)
			}
		}
		if taken != len(s.All()) || s.Room() != 6-taken {
			t.Fatalf("behind step %d: %d places are taken, Room %d, All %v", k, taken, s.Room(), s.All())
		}
	}
}

// P6.5: each call twice, with nothing between, changes nothing the second time.
func TestTwice(t *testing.T) {
	c := chance(11)
	for k := range 400 {
		d := made(t, 12)
		s := opened(t, d, crc(), 64)
		for range 8 {
			stripe, version := 7+c.below(2), 1+c.below(4)
			call := []func() api.Errno{
				func() api.Errno { return s.Prepare(stripe, 0, version, of(version, version)) },
				func() api.Errno { return s.Commit(stripe, 0, version) },
				func() api.Errno { return s.Abort(stripe, 0, version) },
				func() api.Errno { return s.Drop(stripe, 0, version) },
			}[c.below(20)*3/19]
			first, all := call(), s.All()
			d.Arm(0)
			second := call()
			if second != first || d.Down() || !slices.EqualFunc(s.All(), all, same) {
				t.Fatalf("way %d: %d, then %d, Down %v", k, first, second, d.Down())
			}
			d.Crash(nil)
		}
	}
}
