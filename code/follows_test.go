package code_test

import (
	"bytes"
	"testing"

	"cooperage/api"
	"cooperage/code"
)

// mixed is the numbers from 0 on, so many, in an order that comes by a rule from a seed.
func mixed(many int, seed uint32) []int {
	out := numbers(0, many)
	for i := many - 1; i > 0; i-- {
		seed = seed*1664525 + 1013904223
		j := int(seed>>8) % (i + 1)
		out[i], out[j] = out[j], out[i]
	}
	return out
}

// P4.4: any shards, as many as needed, tell the stripe, and each other shard: some of all kinds of great codes.
func TestAnyTell(t *testing.T) {
	for _, s := range [][2]int{{1, 255}, {3, 10}, {6, 9}, {16, 48}, {64, 255}, {128, 255}, {191, 255}} {
		k, n := s[0], s[1]
		c := made(t, k, n)
		data := some(k, 4, uint32(n))
		all, _ := c.Encode(data)
		for seed := range uint32(5) {
			which := mixed(n, seed)[:k]
			told := picked(all, which...)
			if got, e := c.Decode(which, told); e != api.OK || !same(got, data) {
				t.Fatalf("code of %d and %d, places %v: another stripe, %d", k, n, which, e)
			}
			for _, i := range mixed(n, seed+9)[:min(n, 5)] {
				if got, e := c.Rebuild(which, told, i); e != api.OK || !bytes.Equal(got, all[i]) {
					t.Fatalf("code of %d and %d, places %v: Rebuild %d: another shard, %d", k, n, which, i, e)
				}
			}
		}
	}
}

// through is a stripe that was encoded, lost but for those places, and decoded.
func through(t *testing.T, c *code.Code, data [][]byte, which []int) [][]byte {
	t.Helper()
	all, e := c.Encode(data)
	if e != api.OK || !c.Fits(all) {
		t.Fatalf("Encode: %d, or shards that do not fit", e)
	}
	back, e := c.Decode(which, picked(all, which...))
	if e != api.OK {
		t.Fatalf("Decode of %v: %d", which, e)
	}
	return back
}

// P4.4: what is split, encoded, lost but for any of each stripe, decoded and joined is as it was.
func TestThere(t *testing.T) {
	for i, s := range [][4]int{{2, 3, 2, 5}, {2, 3, 2, 0}, {1, 1, 1, 9}, {1, 3, 16, 100}, {3, 7, 5, 1000}, {4, 6, 64, 256}, {4, 6, 64, 257}, {100, 200, 3, 999}, {2, 5, api.MaxShard, 3 * api.MaxShard}} {
		k, n, size, long := s[0], s[1], s[2], s[3]
		c := made(t, k, n)
		b := some(1, long, uint32(i))[0]
		split, e := c.Split(b, size)
		if e != api.OK {
			t.Fatalf("code of %d and %d: Split: %d", k, n, e)
		}
		var back [][][]byte
		for j, data := range split {
			back = append(back, through(t, c, data, mixed(n, uint32(j))[:k]))
		}
		if got, e := c.Join(back, long); e != api.OK || !bytes.Equal(got, b) {
			t.Errorf("code of %d and %d, %d bytes by %d: other bytes, %d", k, n, long, size, e)
		}
	}
}

// sum is two lists of shards added, byte by byte.
func sum(a, b [][]byte) [][]byte {
	out := make([][]byte, len(a))
	for i := range a {
		out[i] = make([]byte, len(a[i]))
		for j := range a[i] {
			out[i][j] = a[i][j] ^ b[i][j]
		}
	}
	return out
}

// P4.4: a sum of stripes has the sums of shards, and the sums of shards tell it.
func TestSums(t *testing.T) {
	for i, s := range [][3]int{{1, 2, 5}, {2, 3, 4}, {5, 9, 7}, {100, 255, 2}, {3, 3, 3}} {
		c := made(t, s[0], s[1])
		a, b := some(s[0], s[2], uint32(i)), some(s[0], s[2], uint32(i+100))
		as, _ := c.Encode(a)
		bs, _ := c.Encode(b)
		sums, e := c.Encode(sum(a, b))
		if e != api.OK || !same(sums, sum(as, bs)) || !c.Fits(sum(as, bs)) {
			t.Errorf("code of %d and %d: other shards than the sums, %d", s[0], s[1], e)
		}
		which := mixed(s[1], uint32(i))[:s[0]]
		if got, e := c.Decode(which, picked(sum(as, bs), which...)); e != api.OK || !same(got, sum(a, b)) {
			t.Errorf("code of %d and %d: sums of shards tell another stripe, %d", s[0], s[1], e)
		}
	}
}
