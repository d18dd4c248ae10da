package find_test

import (
	"slices"
	"testing"

	"cooperage/api"
	"cooperage/find"
)

// calls are all that are handed a find and tell one.
var calls = map[string]func(f api.Find) (api.Find, api.Errno){
	"shard":    func(f api.Find) (api.Find, api.Errno) { return find.Told(f, 0, api.OK, []byte("z")) },
	"longer":   func(f api.Find) (api.Find, api.Errno) { return find.Told(f, 0, api.OK, []byte("zz")) },
	"none":     func(f api.Find) (api.Find, api.Errno) { return find.Told(f, 0, api.ErrSlot, nil) },
	"no index": func(f api.Find) (api.Find, api.Errno) { return find.Told(f, len(f.Marks), api.OK, []byte("z")) },
	"lose":     func(f api.Find) (api.Find, api.Errno) { return find.Lose(f, 0) },
	"lose -1":  func(f api.Find) (api.Find, api.Errno) { return find.Lose(f, -1) },
}

// memory is the lists in which a find's lie, with what stands behind it there.
type memory struct {
	marks, which []int
	shards       [][]byte
	bytes        []byte
}

// clone is m in memory of its own.
func (m memory) clone() memory {
	m.marks, m.which, m.bytes = slices.Clone(m.marks), slices.Clone(m.which), slices.Clone(m.bytes)
	shards := make([][]byte, len(m.shards))
	for i, shard := range m.shards {
		shards[i] = slices.Clone(shard)
	}
	m.shards = shards
	return m
}

// same tells whether m and o are the same.
func (m memory) same(o memory) bool {
	return slices.Equal(m.marks, o.marks) && slices.Equal(m.which, o.which) && slices.Equal(m.bytes, o.bytes) && sameShards(m.shards, o.shards)
}

// spoil writes over all of it.
func (m memory) spoil() {
	for i := range m.marks {
		m.marks[i] = 66
	}
	for i := range m.which {
		m.which[i] = 67
	}
	for i := range m.bytes {
		m.bytes[i] = '!'
	}
	for i := range m.shards {
		m.shards[i] = nil
	}
}

// handed is a find whose lists lie in longer ones, as the shards' bytes do one behind the other, and these.
func handed(f api.Find) (api.Find, memory) {
	m := memory{marks: append(slices.Clone(f.Marks), 9, 9), which: append(slices.Clone(f.Which), 8, 8)}
	m.bytes = append(slices.Concat(f.Shards...), "spare"...)
	at := 0
	for _, shard := range f.Shards {
		m.shards = append(m.shards, m.bytes[at:at+len(shard)])
		at += len(shard)
	}
	m.shards = append(m.shards, []byte("7"), []byte("7"))
	f.Marks, f.Which, f.Shards = m.marks[:len(f.Marks)], m.which[:len(f.Which)], m.shards[:len(f.Shards)]
	return f, m
}

// write writes over all that a find has, and behind it.
func write(f api.Find) {
	for i := range f.Marks {
		f.Marks[i] = 77
	}
	for i := range f.Which {
		f.Which[i] = 78
	}
	for i, shard := range f.Shards {
		for j := range shard {
			shard[j] = '?'
		}
		f.Shards[i] = append(shard, "more"...)
	}
	_, _, _ = append(f.Marks, 79), append(f.Which, 79), append(f.Shards, []byte("79"))
}

// handsOver holds what a call does with the memory of a find that it is handed.
func handsOver(t *testing.T, name string, plain api.Find, call func(f api.Find) (api.Find, api.Errno)) {
	t.Helper()
	f, m := handed(plain)
	was := m.clone()
	right, wanted, lacking := find.Right(f), find.Wants(f), find.Lacks(f)
	first, e := call(f)
	if !m.same(was) || find.Right(f) != right || !slices.Equal(find.Wants(f), wanted) || !slices.Equal(find.Lacks(f), lacking) {
		t.Fatalf("%s of %s changed it: %v", name, words(plain), m)
	}
	second, again := call(f)
	third, _ := call(f)
	if e != again || !same(first, second) {
		t.Fatalf("%s of %s: %s, %d, and then %s, %d", name, words(plain), words(first), e, words(second), again)
	}
	write(first)
	if !m.same(was) || !same(second, third) {
		t.Fatalf("%s of %s shares memory: %v, %s", name, words(plain), m, words(second))
	}
	m.spoil()
	want, _ := call(plain)
	if !same(second, want) || !same(third, want) {
		t.Fatalf("%s of %s keeps what was handed in: %s, not %s", name, words(plain), words(second), words(want))
	}
}

// R3: what is handed in is not changed, its spare room neither; what is told shares no memory with it, also beside an error, whatever becomes of it.
func TestHanded(t *testing.T) {
	for name, call := range calls {
		small(3, -1, 3, 1, func(f api.Find) { handsOver(t, name, f, call) })
		for _, f := range wrong() {
			if len(f.Marks) < 10 && len(slices.Concat(f.Shards...)) < 10 {
				handsOver(t, name, f, call)
			}
		}
	}
}

// R3: the bytes that an index told are not kept, nor changed, nor what stands behind them.
func TestToldBytes(t *testing.T) {
	for _, from := range []string{"asking 1 .", "asking 2 .g. 1=ab", "asking 3 .g. 1=ab", "asking 2 .g. 1=a", "done 1 .g 1=ab", "asking 0 .."} {
		for _, e := range []api.Errno{api.OK, api.ErrSlot} {
			all := []byte("xyspare")
			b := all[:2]
			f, _ := find.Told(at(from), 0, e, b)
			g, _ := find.Told(at(from), 0, e, b)
			want, _ := told(at(from), 0, e, []byte("xy"))
			if string(all) != "xyspare" {
				t.Fatalf("%s: %s", from, all)
			}
			write(f)
			if string(all) != "xyspare" || !same(g, want) {
				t.Fatalf("%s: %s, %s", from, all, words(g))
			}
			copy(all, "!!!!!!!")
			if !same(g, want) {
				t.Fatalf("%s keeps what was told: %s", from, words(g))
			}
		}
	}
}

// R3: what is told of one find is of no memory of the lists that were told ahead of it.
func TestSteps(t *testing.T) {
	f, _ := find.Begin(7, 1, 4, 3)
	a, _ := find.Told(f, 1, api.OK, []byte("a"))
	b, _ := find.Told(a, 2, api.OK, []byte("b"))
	c, _ := find.Told(a, 3, api.OK, []byte("c"))
	d, _ := find.Told(b, 0, api.ErrSlot, nil)
	g, _ := find.Lose(d, 0)
	for _, x := range []struct {
		f    api.Find
		want string
	}{{f, "asking 3 ...."}, {a, "asking 3 .g.. 1=a"}, {b, "asking 3 .gg. 1=a 2=b"}, {c, "asking 3 .g.g 1=a 3=c"}, {d, "asking 3 lgg. 1=a 2=b"}, {g, "asking 3 .gg. 1=a 2=b"}} {
		is(t, "a step", x.f, api.OK, at(x.want), api.OK)
	}
	write(a)
	write(c)
	write(d)
	is(t, "another one's", b, api.OK, at("asking 3 .gg. 1=a 2=b"), api.OK)
	is(t, "another one's", g, api.OK, at("asking 3 .gg. 1=a 2=b"), api.OK)
}

// R3: what was begun, what is wanted, what lacks, and the data share no memory with one another, nor with what was handed in.
func TestHandedOut(t *testing.T) {
	f, _ := find.Begin(7, 1, 3, 2)
	g, _ := find.Begin(7, 1, 3, 2)
	f.Marks[0] = api.MarkLacks
	is(t, "begun", g, api.OK, at("asking 2 ..."), api.OK)
	first, second := find.Wants(g), find.Wants(g)
	first[0] = api.Want{Index: 9, Op: 9}
	if second[0] != (api.Want{Index: 0, Op: api.AskRead}) || find.Wants(g)[0] != second[0] {
		t.Errorf("%v, %v", second, find.Wants(g))
	}
	lacking, others := find.Lacks(f), find.Lacks(f)
	lacking[0] = 9
	if !slices.Equal(others, []int{0}) || !slices.Equal(find.Lacks(f), others) {
		t.Errorf("%v, %v", others, find.Lacks(f))
	}
	for _, text := range []string{"done 2 gg. 1=cd 0=ab", "done 2 .gg 1=cd 2=ef", "done 2 gg. 0=ab 1=cd"} {
		done, m := handed(at(text))
		was := m.clone()
		x := made(2, 3)
		data, e := find.Data(x, done)
		want, _ := find.Data(x, at(text))
		if e != api.OK || !m.same(was) {
			t.Fatalf("Data changed what it was handed: %v", m)
		}
		data[0][0], data[1] = '#', append(data[1], "more"...)
		if again, _ := find.Data(x, done); !m.same(was) || !sameShards(again, want) {
			t.Fatalf("Data shares memory: %v, %q", m, again)
		}
		data, _ = find.Data(x, done)
		m.spoil()
		if !sameShards(data, want) {
			t.Fatalf("Data keeps what it was handed: %q", data)
		}
	}
}

// R6: a list that is empty, and none, are the same.
func TestEmptyAndNone(t *testing.T) {
	for phase := range 5 {
		for need := range 2 {
			f := api.Find{Stripe: 7, Version: 1, Need: need, Phase: phase}
			g := f
			g.Marks, g.Which, g.Shards = []int{}, []int{}, [][]byte{}
			for _, x := range []api.Find{f, g} {
				if find.Right(x) || len(find.Wants(x)) > 0 || len(find.Lacks(x)) > 0 {
					t.Errorf("%+v is right", x)
				}
				for name, call := range calls {
					got, e := call(x)
					is(t, name, got, e, x, api.ErrFind)
				}
			}
		}
	}
	f := at("asking 1 ..")
	g := at("asking 1 ..")
	g.Which, g.Shards = []int{}, [][]byte{}
	for _, b := range [][]byte{nil, {}} {
		for _, x := range []api.Find{f, g} {
			got, e := find.Told(x, 1, api.OK, b)
			is(t, "no bytes", got, e, at("done 1 .g 1="), api.OK)
		}
	}
	h := at("asking 3 g.. 0=")
	h.Shards = [][]byte{nil}
	got, e := find.Told(h, 1, api.OK, []byte{})
	is(t, "no bytes", got, e, at("asking 3 gg. 0= 1="), api.OK)
}
