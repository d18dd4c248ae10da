package mend_test

import (
	"slices"
	"testing"

	"cooperage/api"
	"cooperage/mend"
)

// errand is what the index 0 is to be asked; of one that is to be asked nothing, nothing.
func errand(m api.Mend) api.Errand {
	for _, w := range wants(m) {
		if w.Index == 0 {
			return w
		}
	}
	return api.Errand{}
}

// tell is a call of Told with an answer to what the index 0 is to be asked.
func tell(x api.Tell) func(m api.Mend) (api.Mend, api.Errno) {
	return func(m api.Mend) (api.Mend, api.Errno) { return mend.Told(m, errand(m), x) }
}

// calls are all that are handed a mending and tell one.
var calls = map[string]func(m api.Mend) (api.Mend, api.Errno){
	"done":     tell(api.Tell{Bytes: []byte("z"), Infos: infos(0, "5c 6 7")}),
	"longer":   tell(api.Tell{Bytes: []byte("zz"), Infos: infos(0, "6 7")}),
	"none":     tell(api.Tell{Err: api.ErrSlot}),
	"stale":    tell(api.Tell{Err: api.ErrStale}),
	"unwanted": func(m api.Mend) (api.Mend, api.Errno) { return mend.Told(m, api.Errand{Op: api.AskList}, api.Tell{}) },
	"no index": func(m api.Mend) (api.Mend, api.Errno) {
		return mend.Told(m, api.Errand{Index: len(m.Marks), Op: api.AskRead}, api.Tell{})
	},
	"lose":    func(m api.Mend) (api.Mend, api.Errno) { return mend.Lose(m, 0) },
	"lose -1": func(m api.Mend) (api.Mend, api.Errno) { return mend.Lose(m, -1) },
}

// memory is the lists in which a mending's lie, with what stands behind it there.
type memory struct {
	marks         []api.MendMark
	extras, which []int
	shards        [][]byte
	bytes         []byte
}

// clone is y in memory of its own.
func (y memory) clone() memory {
	y.marks, y.extras, y.which, y.bytes = slices.Clone(y.marks), slices.Clone(y.extras), slices.Clone(y.which), slices.Clone(y.bytes)
	for i := range y.marks {
		y.marks[i].Extra = slices.Clone(y.marks[i].Extra)
	}
	shards := make([][]byte, len(y.shards))
	for i, shard := range y.shards {
		shards[i] = slices.Clone(shard)
	}
	y.shards = shards
	return y
}

// same tells whether y and z are the same.
func (y memory) same(z memory) bool {
	return slices.EqualFunc(y.marks, z.marks, sameMark) && slices.Equal(y.extras, z.extras) && slices.Equal(y.which, z.which) &&
		slices.Equal(y.bytes, z.bytes) && sameShards(y.shards, z.shards)
}

// spoil writes over all of it.
func (y memory) spoil() {
	for i := range y.marks {
		y.marks[i] = api.MendMark{Mark: 66, Committed: true}
	}
	for i := range y.extras {
		y.extras[i] = 65
	}
	for i := range y.which {
		y.which[i] = 67
	}
	for i := range y.bytes {
		y.bytes[i] = '!'
	}
	for i := range y.shards {
		y.shards[i] = nil
	}
}

// handed is a mending whose lists lie in longer ones, as the shards' bytes and the marks' versions do, one behind the other, and these.
func handed(m api.Mend) (api.Mend, memory) {
	y := memory{which: append(slices.Clone(m.Which), 8, 8), bytes: append(slices.Concat(m.Shards...), "spare"...)}
	for _, k := range m.Marks {
		y.extras = append(y.extras, k.Extra...)
	}
	y.extras = append(y.extras, 5, 5)
	at := 0
	for _, k := range m.Marks {
		k.Extra = y.extras[at : at+len(k.Extra)]
		at += len(k.Extra)
		y.marks = append(y.marks, k)
	}
	y.marks = append(y.marks, api.MendMark{Mark: 9}, api.MendMark{Mark: 9})
	at = 0
	for _, shard := range m.Shards {
		y.shards = append(y.shards, y.bytes[at:at+len(shard)])
		at += len(shard)
	}
	y.shards = append(y.shards, []byte("7"), []byte("7"))
	m.Marks, m.Which, m.Shards = y.marks[:len(m.Marks)], y.which[:len(m.Which)], y.shards[:len(m.Shards)]
	return m, y
}

// write writes over all that a mending has, and behind it.
func write(m api.Mend) {
	for i := range m.Marks {
		for j := range m.Marks[i].Extra {
			m.Marks[i].Extra[j] = 76
		}
		m.Marks[i] = api.MendMark{Mark: 77, Committed: true, Extra: append(m.Marks[i].Extra, 75)}
	}
	for i := range m.Which {
		m.Which[i] = 78
	}
	for i, shard := range m.Shards {
		for j := range shard {
			shard[j] = '?'
		}
		m.Shards[i] = append(shard, "more"...)
	}
	_, _, _ = append(m.Marks, api.MendMark{Mark: 79}), append(m.Which, 79), append(m.Shards, []byte("79"))
}

// handsOver holds what a call does with the memory of a mending that it is handed.
func handsOver(t *testing.T, name string, plain api.Mend, call func(m api.Mend) (api.Mend, api.Errno)) {
	t.Helper()
	m, y := handed(plain)
	was := y.clone()
	right, wanted := mend.Right(m), mend.Wants(m)
	first, e := call(m)
	if !y.same(was) || mend.Right(m) != right || !slices.Equal(mend.Wants(m), wanted) {
		t.Fatalf("%s of %s changed it: %v", name, words(plain), y)
	}
	second, again := call(m)
	third, _ := call(m)
	if e != again || !same(first, second) {
		t.Fatalf("%s of %s: %s, %d, and then %s, %d", name, words(plain), words(first), e, words(second), again)
	}
	write(first)
	if !y.same(was) || !same(second, third) {
		t.Fatalf("%s of %s shares memory: %v, %s", name, words(plain), y, words(second))
	}
	want, _ := call(plain)
	y.spoil()
	if !same(second, want) || !same(third, want) {
		t.Fatalf("%s of %s keeps what was handed in: %s, not %s", name, words(plain), words(second), words(want))
	}
}

// P14.3, P14.4, R3: what is handed in is not changed, its spare room neither; what is told shares no memory with it, also beside an error, whatever becomes of it.
func TestHanded(t *testing.T) {
	for name, call := range calls {
		each := func(m api.Mend) { handsOver(t, name, m, call) }
		small(1, 5, 1, allWords, each)
		small(2, 5, 1, []string{".", "t6,7", "R", "r", "l6", "b", "L"}, each)
		small(2, 0, 0, noneWords, each)
		for _, m := range wrong() {
			if len(m.Marks) < 10 && len(slices.Concat(m.Shards...)) < 10 {
				each(m)
			}
		}
	}
}

// R3: the bytes and infos that an index told are not kept, nor changed, nor what stands behind them.
func TestToldMemory(t *testing.T) {
	for _, from := range []string{"going 1 v5 . t", "going 1 v5 T", "going 2 v5 t . R 2=ab", "going 2 v5 T R 0=ab", "going 2 v5 T R 1=a", "going 1 v5 l R 1=ab", "going 1 v0 . r", "done 1 v5 R 0=ab", "going 0 v5 T"} {
		for _, e := range named {
			all, its := []byte("xyspare"), infos(0, "7 5c 9 6 6c 99 98")
			wasInfos := slices.Clone(its)
			x := api.Tell{Err: e, Bytes: all[:2], Infos: its[:5]}
			m, _ := mend.Told(at(from), errand(at(from)), x)
			n, _ := mend.Told(at(from), errand(at(from)), x)
			want, _ := told(at(from), errand(at(from)), api.Tell{Err: e, Bytes: []byte("xy"), Infos: infos(0, "7 5c 9 6 6c")})
			write(m)
			if string(all) != "xyspare" || !slices.Equal(its, wasInfos) || !same(n, want) {
				t.Fatalf("%s: %s, %v, %s", from, all, its, words(n))
			}
			copy(all, "!!!!!!!")
			clear(its)
			if !same(n, want) {
				t.Fatalf("%s keeps what was told: %s", from, words(n))
			}
		}
	}
}

// R3: what is told of one mending is of no memory of the lists that were told ahead of it.
func TestSteps(t *testing.T) {
	m, _ := mend.Begin(7, 5, 3, 3)
	read := func(m api.Mend, index int, list string) api.Mend {
		m, _ = mend.Told(m, api.Errand{Index: index, Op: api.AskRead}, api.Tell{Infos: infos(index, list)})
		return m
	}
	fetch := func(m api.Mend, index int, b string) api.Mend {
		m, _ = mend.Told(m, api.Errand{Index: index, Op: api.AskRead, Version: 5}, api.Tell{Bytes: []byte(b)})
		return m
	}
	a := read(read(read(m, 0, "5c"), 1, "5"), 2, "5c 6 7 8")
	b := fetch(a, 0, "a")
	c := fetch(b, 1, "b")
	d, _ := mend.Told(b, api.Errand{Index: 2, Op: api.AskAbort, Version: 8}, api.Tell{})
	f, _ := mend.Lose(d, 2)
	all := []struct {
		m    api.Mend
		want string
	}{{m, "going 3 v5 . . ."}, {a, "going 3 v5 T t T6,7,8"}, {b, "going 3 v5 R t T6,7,8 0=a"}, {c, "going 3 v5 R r T6,7,8 0=a 1=b"}, {d, "going 3 v5 R t T6,7 0=a"}, {f, "going 3 v5 R t . 0=a"}}
	for i, x := range all {
		for _, y := range all[i:] {
			is(t, "a step", y.m, api.OK, at(y.want), api.OK)
		}
		write(x.m)
	}
}

// R3: what was begun, what is wanted, and bytes share no memory with one another, nor with what was handed in.
func TestHandedOut(t *testing.T) {
	m, _ := mend.Begin(7, 5, 3, 2)
	n, _ := mend.Begin(7, 5, 3, 2)
	m.Marks[0].Mark = api.MendLacks
	is(t, "begun", n, api.OK, at("going 2 v5 . . ."), api.OK)
	first, second := mend.Wants(n), mend.Wants(n)
	first[0] = api.Errand{Index: 9, Op: 9}
	if second[0] != (api.Errand{Index: 0, Op: api.AskRead}) || mend.Wants(n)[0] != second[0] {
		t.Errorf("%v, %v", second, mend.Wants(n))
	}
	for _, text := range []string{"going 2 v5 R l r 2=cd 0=ab", "done 2 v5 R R R 1=cd 2=ef", "lost 2 v5 . . R6 0=ab 1=cd"} {
		for index := range 3 {
			m, y := handed(at(text))
			was := y.clone()
			x := made(2, 3)
			b, e := mend.Bytes(x, m, index)
			want, _ := mend.Bytes(x, at(text), index)
			if e != api.OK || !y.same(was) {
				t.Fatalf("Bytes changed what it was handed: %v", y)
			}
			b[0] = '#'
			_ = append(b, "more"...)
			if again, _ := mend.Bytes(x, m, index); !y.same(was) || !slices.Equal(again, want) {
				t.Fatalf("Bytes shares memory: %v, %q", y, again)
			}
			b, _ = mend.Bytes(x, m, index)
			y.spoil()
			if !slices.Equal(b, want) {
				t.Fatalf("Bytes keeps what it was handed: %q", b)
			}
		}
	}
}

// R6: a list that is empty, and none, are the same.
func TestEmptyAndNone(t *testing.T) {
	for phase := range 5 {
		for need := range 2 {
			for version := range 2 {
				m := api.Mend{Stripe: 7, Version: version, Need: need, Phase: phase}
				n := m
				n.Marks, n.Which, n.Shards = []api.MendMark{}, []int{}, [][]byte{}
				for _, x := range []api.Mend{m, n} {
					if mend.Right(x) || len(mend.Wants(x)) > 0 {
						t.Errorf("%+v is right", x)
					}
					for name, call := range calls {
						got, e := call(x)
						is(t, name, got, e, x, api.ErrMend)
					}
				}
			}
		}
	}
	empty := at("going 1 v5 . t")
	empty.Which, empty.Shards, empty.Marks[0].Extra, empty.Marks[1].Extra = []int{}, [][]byte{}, []int{}, []int{}
	for _, b := range [][]byte{nil, {}} {
		for _, l := range [][]api.Info{nil, {}} {
			for _, m := range []api.Mend{at("going 1 v5 . t"), empty} {
				n := tells(t, m, api.Errand{Index: 1, Op: api.AskRead, Version: 5}, api.Tell{Bytes: b, Infos: l})
				is(t, "no bytes", n, api.OK, at("going 1 v5 . r 1="), api.OK)
				n = tells(t, n, api.Errand{Index: 0, Op: api.AskRead}, api.Tell{Bytes: b, Infos: l})
				is(t, "no infos", n, api.OK, at("going 1 v5 l r 1="), api.OK)
			}
		}
	}
	none := at("going 2 v5 R T 0=")
	none.Shards = [][]byte{nil}
	n := tells(t, none, api.Errand{Index: 1, Op: api.AskRead, Version: 5}, api.Tell{Bytes: []byte{}})
	is(t, "no bytes", n, api.OK, at("done 2 v5 R R 0= 1="), api.OK)
}
