package bytes_test

import (
	"slices"
	"testing"

	"cooperage/api"
	own "cooperage/bytes"
)

// roomy is those bytes with spare room behind them, and all of that memory.
func roomy(s string) (b, all []byte) {
	all = append([]byte(s), "spare room, enough for what could be put there"...)
	return all[:len(s)], all
}

// spoil changes all of an answer, its spare room too.
func spoil(b []byte) {
	for i := range b[:cap(b)] {
		b[:cap(b)][i] ^= 0xff
	}
}

// handed is what is handed in to the calls below.
type handed struct {
	out, b, sealed []byte
	table          *api.Table
}

// calls is each call that answers a list, in a case where it does.
func calls() map[string]func(h handed) []byte {
	return map[string]func(h handed) []byte{
		"Uint":    func(h handed) []byte { return own.Uint(h.out, 300) },
		"Blob":    func(h handed) []byte { return own.Blob(h.out, h.b) },
		"Blob b":  func(h handed) []byte { return own.Blob(nil, h.b) },
		"Blob bb": func(h handed) []byte { return own.Blob(h.b, h.b) },
		"GetBlob": func(h handed) []byte { got, _, _ := own.GetBlob(h.b, 0, 9); return got },
		"Seal":    func(h handed) []byte { return own.Seal(h.table, h.b) },
		"Unseal":  func(h handed) []byte { got, _ := own.Unseal(h.table, h.sealed); return got },
	}
}

// R3: what is handed in stays, its spare room too; answers share no memory with it, nor with one another.
func TestHandedIn(t *testing.T) {
	table := own.Table()
	for _, blob := range []string{"\x02ab", "\x00"} {
		for name, call := range calls() {
			out, allOut := roomy("ahead")
			b, allB := roomy(blob)
			sealed, allSealed := roomy(string(own.Seal(&table, []byte(blob))))
			copyOut, copyB, copySealed := slices.Clone(allOut), slices.Clone(allB), slices.Clone(allSealed)
			by := table
			h := handed{out, b, sealed, &by}
			first := call(h)
			want := string(first)
			second := call(h)
			spoil(first)
			if string(second) != want {
				t.Errorf("%s: two answers share memory, or differ: %q, %q", name, second, want)
			}
			spoil(second)
			if !slices.Equal(allOut, copyOut) || !slices.Equal(allB, copyB) || !slices.Equal(allSealed, copySealed) || by != table {
				t.Errorf("%s: what was handed in has changed", name)
			}
		}
	}
}

// R3: what was refused stays, too.
func TestHandedInRefused(t *testing.T) {
	table := own.Table()
	b, all := roomy("\x09ab\x80\x00")
	before := slices.Clone(all)
	for at := -1; at <= len(b)+1; at++ {
		own.GetUint(b, at)
		own.GetBlob(b, at, 5)
		own.GetBlob(b, at, 9)
		own.GetBlob(b, at, -1)
	}
	own.Unseal(&table, b)
	own.Unseal(&table, b[:3])
	own.Unseal(nil, b)
	own.Sum(&table, b)
	own.Sum(nil, b)
	if !slices.Equal(all, before) || table != own.Table() {
		t.Error("what was handed in has changed")
	}
}

// R6: an empty list and none are the same.
func TestNone(t *testing.T) {
	table := own.Table()
	none, _ := roomy("")
	pairs := [][2][]byte{
		{own.Uint(nil, 7), own.Uint(none, 7)},
		{own.Blob(nil, nil), own.Blob(none, none)},
		{own.Seal(&table, nil), own.Seal(&table, none)},
		{own.Seal(nil, nil), own.Seal(nil, none)},
	}
	for i, p := range pairs {
		if !slices.Equal(p[0], p[1]) {
			t.Errorf("pair %d: %v, %v", i, p[0], p[1])
		}
	}
}
