package net_test

import (
	"math"
	"testing"

	"cooperage/api"
	"cooperage/net"
)

// odd is numbers that no station, and no datagram, has.
var odd = []int{-1, -2, -300, -10000, 10000, 10001, 1 << 16, 1 << 31, 1 << 32, -1 << 32, math.MinInt, math.MaxInt}

// P7.1: a new net has nothing lying about, and takes what is sent between its stations, the first and the last one too.
func TestNew(t *testing.T) {
	for _, ends := range []int{1, 2, 3, 255, 256, 299, 300} {
		for _, most := range []int{1, 2, 9999, 10000} {
			n := made(t, ends, most)
			lies(t, n)
			last := ends - 1
			send(t, n, last, last, "a")
			lies(t, n, datum(last, last, "a"))
			n.Drop(0)
			send(t, n, 0, last, "b")
			lies(t, n, datum(0, last, "b"))
			n.Drop(0)
			send(t, n, last, 0, "c")
			lies(t, n, datum(last, 0, "c"))
		}
	}
}

// P7.1: numbers of which there is no net, and nothing beside the error.
func TestNewRefused(t *testing.T) {
	ends := []int{0, -1, -2, -300, 301, 302, 600, 10000, 1 << 32, 1<<32 + 1, math.MinInt, math.MaxInt}
	most := []int{0, -1, -2, -10000, 10001, 10002, 20000, 1 << 32, 1<<32 + 1, math.MinInt, math.MaxInt}
	refused := func(ends, most int) {
		if n, e := net.New(ends, most); n != nil || e != api.ErrArg {
			t.Errorf("New(%d, %d): %v, %d", ends, most, n, e)
		}
	}
	for _, x := range ends {
		refused(x, 1)
		refused(x, 10000)
		for _, y := range most {
			refused(x, y)
		}
	}
	for _, y := range most {
		refused(1, y)
		refused(300, y)
	}
}

// P7.1: what is sent lies behind all others, from whom and to whom ever; to itself, too.
func TestSend(t *testing.T) {
	n := made(t, 3, 100)
	var want []api.Datum
	for from := range 3 {
		for to := range 3 {
			for _, text := range []string{"", "a", "a", "\x00\xff", "a longer one"} {
				send(t, n, from, to, text)
				want = append(want, datum(from, to, text))
				lies(t, n, want...)
			}
		}
	}
}

// P7.1: each byte may be, and as many of them as may.
func TestSendBytes(t *testing.T) {
	n := made(t, 1, 10)
	for _, long := range []int{0, 1, 2, 255, 256, 65535, 65536, 131071, 131072} {
		b := of(long, long)
		is(t, "Send", n.Send(0, 0, b), api.OK)
		lies(t, n, api.Datum{Bytes: b})
		n.Drop(0)
	}
	var every []byte
	for b := range 256 {
		every = append(every, byte(b))
	}
	is(t, "Send", n.Send(0, 0, every), api.OK)
	is(t, "Send of none", n.Send(0, 0, nil), api.OK)
	lies(t, n, api.Datum{Bytes: every}, api.Datum{})
}

// P7.1, R7: no station, on either side, ahead of bytes that are too many and of no room; nothing has changed.
func TestSendNoStation(t *testing.T) {
	for _, ends := range []int{1, 2, 300} {
		n := made(t, ends, 1)
		send(t, n, 0, 0, "a")
		for _, none := range append([]int{ends, ends + 1, -ends}, odd...) {
			for _, long := range []int{0, 1, 131072, 131073} {
				b := make([]byte, long)
				is(t, "Send from none", n.Send(none, 0, b), api.ErrArg)
				is(t, "Send to none", n.Send(0, none, b), api.ErrArg)
				is(t, "Send between none", n.Send(none, none, b), api.ErrArg)
			}
		}
		lies(t, n, datum(0, 0, "a"))
	}
}

// P7.1: bytes that are too many, ahead of no room; nothing has changed.
func TestSendLong(t *testing.T) {
	n := made(t, 2, 1)
	send(t, n, 0, 1, "a")
	for _, long := range []int{131073, 131074, 1 << 18, 1 << 20} {
		b := make([]byte, long)
		is(t, "Send, free", n.Send(0, 0, b), api.ErrLong)
		is(t, "Send, full", n.Send(0, 1, b), api.ErrLong)
	}
	is(t, "Send, full", n.Send(0, 1, make([]byte, 131072)), api.ErrFull)
	is(t, "Send with spare room", n.Send(0, 0, make([]byte, 131072, 131080)), api.OK)
	lies(t, n, datum(0, 1, "a"), datum(0, 0, string(make([]byte, 131072))))
}

// P7.1: as many lie about for a station as may, sent or copied, and no more; for the others there is room.
func TestFullForStation(t *testing.T) {
	for _, most := range []int{1, 2, 3, 7} {
		n := made(t, 3, most)
		var want []api.Datum
		for k := range most {
			if k%2 == 1 {
				is(t, "Copy", n.Copy(0), api.OK)
			} else {
				send(t, n, k%3, 1, "a")
			}
			want = append(want, datum(k%3*(1-k%2), 1, "a"))
		}
		lies(t, n, want...)
		for range 2 {
			for from := range 3 {
				is(t, "Send, full", n.Send(from, 1, nil), api.ErrFull)
			}
			is(t, "Copy, full", n.Copy(0), api.ErrFull)
			is(t, "Copy, full", n.Copy(most-1), api.ErrFull)
		}
		lies(t, n, want...)
		for k := range most {
			send(t, n, 1, 0, "b")
			send(t, n, 1, 2, "c")
			want = append(want, datum(1, 0, "b"), datum(1, 2, "c"))
			is(t, "Send, full", n.Send(1, 1, nil), api.ErrFull)
			is(t, "Copy, full", n.Copy(k), api.ErrFull)
		}
		lies(t, n, want...)
		for to := range 3 {
			is(t, "Send, full", n.Send(0, to, nil), api.ErrFull)
		}
	}
}

// P7.1: what goes makes room for one, whichever way it goes; what goes for another station does not.
func TestRoomAgain(t *testing.T) {
	ways := map[string]func(n *net.Net) bool{
		"Take": func(n *net.Net) bool { _, ok := n.Take(1); return ok },
		"Drop": func(n *net.Net) bool { return n.Drop(1) },
	}
	for name, goes := range ways {
		n := made(t, 2, 2)
		send(t, n, 0, 1, "a")
		send(t, n, 0, 0, "b")
		send(t, n, 0, 1, "c")
		send(t, n, 0, 0, "d")
		if !goes(n) {
			t.Error(name)
		}
		is(t, name+": Send, full", n.Send(1, 1, nil), api.ErrFull)
		is(t, name+": Copy, full", n.Copy(0), api.ErrFull)
		is(t, name+": Copy", n.Copy(2), api.OK)
		is(t, name+": Copy, full again", n.Copy(2), api.ErrFull)
		lies(t, n, datum(0, 1, "a"), datum(0, 1, "c"), datum(0, 0, "d"), datum(0, 0, "d"))
		if !goes(n) {
			t.Error(name)
		}
		is(t, name+": Send, full", n.Send(1, 0, nil), api.ErrFull)
		send(t, n, 1, 1, "e")
		is(t, name+": Send, full again", n.Send(1, 1, nil), api.ErrFull)
		lies(t, n, datum(0, 1, "a"), datum(0, 0, "d"), datum(0, 0, "d"), datum(1, 1, "e"))
	}
}

// P7.1: what is forgotten makes room for as many.
func TestRoomBehindForget(t *testing.T) {
	n := made(t, 2, 3)
	for range 3 {
		for to := range 2 {
			for range 3 {
				send(t, n, 0, to, "a")
			}
		}
		is(t, "Send, full", n.Send(0, 1, nil), api.ErrFull)
		if n.Forget(1) != 3 {
			t.Error("Forget")
		}
		is(t, "Send, full", n.Send(0, 0, nil), api.ErrFull)
		for range 3 {
			send(t, n, 0, 1, "b")
		}
		is(t, "Send, full", n.Send(0, 1, nil), api.ErrFull)
		n.Forget(0)
		n.Forget(1)
		lies(t, n)
	}
}

// P7.1: no i-th, ahead of no room; nothing has changed.
func TestCopyNone(t *testing.T) {
	n := made(t, 2, 2)
	for _, i := range append([]int{0, 1, 2, 3}, odd...) {
		is(t, "Copy of nothing", n.Copy(i), api.ErrArg)
	}
	send(t, n, 0, 1, "a")
	for _, i := range append([]int{1, 2, 3}, odd...) {
		is(t, "Copy of none", n.Copy(i), api.ErrArg)
	}
	send(t, n, 0, 1, "b")
	for _, i := range append([]int{2, 3}, odd...) {
		is(t, "Copy of none, full", n.Copy(i), api.ErrArg)
	}
	is(t, "Copy, full", n.Copy(1), api.ErrFull)
	lies(t, n, datum(0, 1, "a"), datum(0, 1, "b"))
}

// P7.1: another one like the i-th, whichever that is, behind all others; one that is a copy itself, too.
func TestCopy(t *testing.T) {
	first := []api.Datum{datum(0, 1, "a"), datum(2, 2, ""), datum(1, 0, "bc"), datum(0, 1, "a")}
	for i, x := range first {
		n := made(t, 3, 10)
		for _, y := range first {
			send(t, n, y.From, y.To, string(y.Bytes))
		}
		is(t, "Copy", n.Copy(i), api.OK)
		lies(t, n, append(first[:4:4], x)...)
		is(t, "Copy of the copy", n.Copy(4), api.OK)
		lies(t, n, append(first[:4:4], x, x)...)
		n.Drop(i)
		is(t, "Copy, the first one gone", n.Copy(3), api.OK)
		left := append(append([]api.Datum{}, first[:i]...), first[i+1:]...)
		lies(t, n, append(left, x, x, x)...)
	}
}

// P7.1, Limits: 10000 for all stations, and no more, sent or copied; what goes makes room for any station.
func TestFullForAll(t *testing.T) {
	for _, ends := range []int{1, 2, 7, 50, 300} {
		n := made(t, ends, 10000)
		for k := range 10000 {
			if k%3 == 2 {
				is(t, "Copy", n.Copy(k-1), api.OK)
			} else {
				send(t, n, k%ends, k*k%ends, "a")
			}
		}
		want := all(n)
		for k := range ends {
			is(t, "Send, full", n.Send(k, k, nil), api.ErrFull)
		}
		for _, i := range []int{0, 5000, 9999} {
			is(t, "Copy, full", n.Copy(i), api.ErrFull)
		}
		is(t, "Copy of none", n.Copy(10000), api.ErrArg)
		lies(t, n, want...)
		for _, i := range []int{9999, 0, 5000} {
			if !n.Drop(i) || n.Flying() != 9999 {
				t.Errorf("Drop(%d): %d", i, n.Flying())
			}
			send(t, n, 0, ends-1, "b")
			is(t, "Send, full", n.Send(0, 0, nil), api.ErrFull)
			is(t, "Copy, full", n.Copy(0), api.ErrFull)
		}
	}
}

// P7.1: each of 300 stations full by its own number.
func TestFullForEach(t *testing.T) {
	n := made(t, 300, 33)
	for k := range 300 * 33 {
		send(t, n, 0, k*7%300, "")
	}
	for to := range 300 {
		if n.Waiting(to) != 33 {
			t.Errorf("Waiting(%d): %d", to, n.Waiting(to))
		}
		is(t, "Send, full", n.Send(0, to, nil), api.ErrFull)
	}
}
