package find_test

import (
	"bytes"
	"fmt"
	"math"
	"slices"
	"strings"
	"testing"

	"cooperage/api"
	"cooperage/code"
	"cooperage/find"
)

// datas holds a Data against what it has to be.
func datas(t *testing.T, c *code.Code, f api.Find, want [][]byte, refused api.Errno) {
	t.Helper()
	if l, e := find.Data(c, f); e != refused || !sameShards(l, want) {
		t.Fatalf("Data(%d of %d, %s): %.100q, %d, want %.100q, %d", c.Need(), c.All(), words(f), l, e, want, refused)
	}
}

// got is the find of n indexes to which those shards came, in that order, and of whose others no one has any.
func got(need int, which []int, shards [][]byte) api.Find {
	f := api.Find{Stripe: 7, Version: 1, Need: need, Phase: api.FindDone, Marks: make([]int, len(shards))}
	for index := range shards {
		f.Marks[index] = api.MarkLacks
	}
	for _, index := range which {
		f.Marks[index] = api.MarkGot
		f.Which, f.Shards = append(f.Which, index), append(f.Shards, shards[index])
	}
	return f
}

// choices calls what it is handed with all choices of k numbers below n, in all orders.
func choices(n, k int, call func(which []int)) {
	var lay func(which []int)
	lay = func(which []int) {
		if len(which) == k {
			call(slices.Clone(which))
			return
		}
		for i := range n {
			if !slices.Contains(which, i) {
				lay(append(slices.Clone(which), i))
			}
		}
	}
	lay(nil)
}

// P13.3, P13.4: all small codes, with all choices of shards, in all orders: the data are those that were written, whichever shards there are.
func TestDataOfAllChoices(t *testing.T) {
	c := chance(7)
	for n := 1; n <= 6; n++ {
		for k := 1; k <= min(n, 4); k++ {
			x := made(k, n)
			data := c.stripe(k, 3)
			shards, _ := x.Encode(data)
			choices(n, k, func(which []int) { datas(t, x, got(k, which, shards), data, api.OK) })
		}
	}
}

// P13.3: shards of no byte, and of the most; a code of 255 shards; the data are code.Decode's.
func TestDataEdges(t *testing.T) {
	c := chance(8)
	for _, x := range []struct{ k, n, size int }{{1, 1, 0}, {1, 1, long}, {2, 3, 0}, {2, 3, long}, {1, 255, 9}, {100, 255, 9}, {255, 255, 9}, {128, 255, 1}} {
		a := made(x.k, x.n)
		data := c.stripe(x.k, x.size)
		shards, _ := a.Encode(data)
		var which []int
		for len(which) < x.k {
			if i := c.below(x.n); !slices.Contains(which, i) {
				which = append(which, i)
			}
		}
		f := got(x.k, which, shards)
		datas(t, a, f, data, api.OK)
		decoded, e := a.Decode(f.Which, f.Shards)
		datas(t, a, f, decoded, e)
	}
}

// P13.3: Which and Shards are Decode's whatever they are: shards of no one stripe are decoded too.
func TestDataOfAnyShards(t *testing.T) {
	c := chance(9)
	for range 300 {
		n := 1 + c.below(6)
		k := 1 + c.below(n)
		x := made(k, n)
		shards := c.stripe(n, c.below(4))
		var which []int
		for _, i := range c.stripe(1, 40)[0] {
			if index := int(i) % n; len(which) < k && !slices.Contains(which, index) {
				which = append(which, index)
			}
		}
		if len(which) < k {
			continue
		}
		f := got(k, which, shards)
		want, e := x.Decode(which, f.Shards)
		datas(t, x, f, want, e)
	}
}

// P13.3: the chapter's example.
func TestDataByWords(t *testing.T) {
	x := made(2, 3)
	datas(t, x, at("done 2 glg 2=\x7a 0=\x01"), [][]byte{{1}, {1}}, api.OK)
	datas(t, x, at("done 2 gg. 1=cd 0=ab"), [][]byte{[]byte("ab"), []byte("cd")}, api.OK)
	datas(t, x, at("done 2 gg. 1= 0="), [][]byte{{}, {}}, api.OK)
	datas(t, made(1, 1), at("done 1 g 0=abc"), [][]byte{[]byte("abc")}, api.OK)
}

// codes are codes, and what is none.
func codes() map[string]*code.Code {
	out := map[string]*code.Code{"none": nil, "not made": {}, "fresh": new(code.Code)}
	for n := 1; n <= 5; n++ {
		for k := 1; k <= n; k++ {
			out[fmt.Sprint(k, " of ", n)] = made(k, n)
		}
	}
	return out
}

// P13.3: ErrFind of a find that is not right, whatever the code; ErrNow of one that is not done, whatever the code; ErrShards of another code, and of none: nothing beside them.
func TestDataRefused(t *testing.T) {
	for _, x := range codes() {
		for _, f := range wrong() {
			datas(t, x, f, nil, api.ErrFind)
		}
		smallRight(3, 1, func(f api.Find) {
			want := api.OK
			if f.Phase != api.FindDone {
				want = api.ErrNow
			} else if x.Need() != f.Need || x.All() != len(f.Marks) {
				want = api.ErrShards
			}
			l, e := find.Data(x, f)
			if e != want || (e == api.OK) != (len(l) == f.Need) || e != api.OK && len(l) > 0 {
				t.Fatalf("Data(%d of %d, %s): %q, %d, want %d", x.Need(), x.All(), words(f), l, e, want)
			}
		})
	}
	f := at("done 1 g" + strings.Repeat("l", 254) + " 0=a")
	datas(t, made(1, 254), f, nil, api.ErrShards)
	datas(t, made(2, 255), f, nil, api.ErrShards)
	datas(t, made(1, 255), f, [][]byte{[]byte("a")}, api.OK)
}

// P13.3: of any wrong numbers Data is refused ahead of asking for the code.
func TestDataOrder(t *testing.T) {
	for _, v := range []int{-1, math.MinInt, math.MaxInt, far + 1} {
		f := at("done 2 gg 0=a 1=b")
		f.Stripe = v
		datas(t, nil, f, nil, api.ErrFind)
		f = at("asking 2 .g 1=b")
		f.Need = v
		datas(t, made(2, 2), f, nil, api.ErrFind)
	}
	datas(t, nil, at("asking 2 .g 1=b"), nil, api.ErrNow)
	datas(t, nil, at("lost 2 lg 1=b"), nil, api.ErrNow)
	datas(t, made(1, 2), at("lost 2 lg 1=b"), nil, api.ErrNow)
	datas(t, nil, at("done 2 gg 1=b 0=a"), nil, api.ErrShards)
}

// R4: a code answers the same, however often it is asked, and finds of other versions, and of other orders, beside.
func TestDataTwice(t *testing.T) {
	c := chance(11)
	x := made(3, 5)
	first, second := c.stripe(3, 8), c.stripe(3, 8)
	l, _ := x.Encode(first)
	m, _ := x.Encode(second)
	for range 3 {
		datas(t, x, got(3, []int{4, 0, 2}, l), first, api.OK)
		datas(t, x, got(3, []int{4, 0, 2}, m), second, api.OK)
		datas(t, x, got(3, []int{1, 3, 4}, l), first, api.OK)
	}
	if !bytes.Equal(l[0], first[0]) {
		t.Error("the shards were changed")
	}
}
