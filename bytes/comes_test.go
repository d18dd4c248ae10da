package bytes_test

import (
	"encoding/binary"
	"math"
	"strings"
	"testing"

	"cooperage/api"
	own "cooperage/bytes"
)

// nine is nine bytes that go on, each of them with the remainder 127.
const nine = "\xff\xff\xff\xff\xff\xff\xff\xff\xff"

// nineNoughts is nine bytes that go on, each of them with the remainder 0.
const nineNoughts = "\x80\x80\x80\x80\x80\x80\x80\x80\x80"

type numberCase struct {
	b    string
	at   int
	n    uint64
	next int
	e    api.Errno
}

func checkNumbers(t *testing.T, cases []numberCase) {
	t.Helper()
	for _, c := range cases {
		n, next, e := own.GetUint([]byte(c.b), c.at)
		if n != c.n || next != c.next || e != c.e {
			t.Errorf("GetUint(%q, %d) = %d %d %d, want %d %d %d", c.b, c.at, n, next, e, c.n, c.next, c.e)
		}
	}
}

// P1.2, numbers that come.
func TestGetUint(t *testing.T) {
	checkNumbers(t, []numberCase{
		{"\xac\x02", 0, 300, 2, api.OK},
		{"\x00", 0, 0, 1, api.OK},
		{"\x00\x00", 1, 0, 2, api.OK},
		{"\x7f\xff", 0, 127, 1, api.OK},
		{"\x80\x01", 0, 128, 2, api.OK},
		{"xy\xac\x02z", 2, 300, 4, api.OK},
		{"\xac\x02", 1, 2, 2, api.OK},
		{"\x80\x80\x01", 0, 16384, 3, api.OK},
		{nine[:8] + "\x7f", 0, math.MaxInt64, 9, api.OK},
		{nine + "\x01", 0, math.MaxUint64, 10, api.OK},
		{nineNoughts + "\x01", 0, 1 << 63, 10, api.OK},
		{"q" + nine + "\x01\x05", 1, math.MaxUint64, 11, api.OK},
	})
}

// P1.2, bytes that no number has, and a number that ends too soon.
func TestGetUintRefused(t *testing.T) {
	checkNumbers(t, []numberCase{
		{"\x80\x00", 0, 0, 0, api.ErrBytes},
		{"\xac\x80\x00", 0, 0, 0, api.ErrBytes},
		{"\x80\x00\x01", 0, 0, 0, api.ErrBytes},
		{"\x05\xff\x00", 1, 0, 0, api.ErrBytes},
		{nine + "\x00", 0, 0, 0, api.ErrBytes},
		{nine + "\x02", 0, 0, 0, api.ErrBytes},
		{nine + "\x7f", 0, 0, 0, api.ErrBytes},
		{nine + "\x80", 0, 0, 0, api.ErrBytes},
		{nine + "\x81\x01", 0, 0, 0, api.ErrBytes},
		{nine + "\xff", 0, 0, 0, api.ErrBytes},
		{nineNoughts + "\x02\x01", 0, 0, 0, api.ErrBytes},
		{nine, 0, 0, 0, api.ErrShort},
		{nineNoughts, 0, 0, 0, api.ErrShort},
		{"\x80", 0, 0, 0, api.ErrShort},
		{"\x00\x80\x80", 1, 0, 0, api.ErrShort},
		{"", 0, 0, 0, api.ErrShort},
		{"\x01", 1, 0, 0, api.ErrShort},
	})
}

// P1.2, places that are none.
func TestGetUintPlace(t *testing.T) {
	checkNumbers(t, []numberCase{
		{"\x01", -1, 0, 0, api.ErrArg},
		{"\x01", 2, 0, 0, api.ErrArg},
		{"", -1, 0, 0, api.ErrArg},
		{"", 1, 0, 0, api.ErrArg},
		{"\x80\x00", 3, 0, 0, api.ErrArg},
		{"\x80", -1, 0, 0, api.ErrArg},
		{"\x01", math.MinInt, 0, 0, api.ErrArg},
		{"\x01", math.MaxInt, 0, 0, api.ErrArg},
	})
	if n, next, e := own.GetUint(nil, 0); n != 0 || next != 0 || e != api.ErrShort {
		t.Errorf("GetUint(nil, 0) = %d %d %d", n, next, e)
	}
}

// P1.2: of any three bytes exactly those are a number that a number is sent as.
func TestGetUintAll(t *testing.T) {
	for bits := range 1 << 24 {
		b := []byte{byte(bits >> 16), byte(bits >> 8), byte(bits)}
		n, next, e := own.GetUint(b, 0)
		want, length := binary.Uvarint(b)
		switch {
		case length > 1 && b[length-1] == 0:
			want, length = 0, 0
			if e != api.ErrBytes {
				t.Fatalf("%v: %d, want ErrBytes", b, e)
			}
		case length == 0:
			if e != api.ErrShort {
				t.Fatalf("%v: %d, want ErrShort", b, e)
			}
		case e != api.OK:
			t.Fatalf("%v: %d, want OK", b, e)
		}
		if n != want || next != length {
			t.Fatalf("%v: %d %d, want %d %d", b, n, next, want, length)
		}
	}
}

type stringCase struct {
	b        string
	at, most int
	s        string
	next     int
	e        api.Errno
}

func checkStrings(t *testing.T, cases []stringCase) {
	t.Helper()
	for _, c := range cases {
		s, next, e := own.GetBlob([]byte(c.b), c.at, c.most)
		if string(s) != c.s || next != c.next || e != c.e {
			t.Errorf("GetBlob(%q, %d, %d) = %q %d %d, want %q %d %d", c.b, c.at, c.most, s, next, e, c.s, c.next, c.e)
		}
	}
}

// P1.2, strings that come.
func TestGetBlob(t *testing.T) {
	long := strings.Repeat("z", 128)
	checkStrings(t, []stringCase{
		{"\x02ab", 0, 2, "ab", 3, api.OK},
		{"\x02ab", 0, math.MaxInt, "ab", 3, api.OK},
		{"\x02abc", 0, 9, "ab", 3, api.OK},
		{"xy\x02ab", 2, 2, "ab", 5, api.OK},
		{"\x00", 0, 0, "", 1, api.OK},
		{"q\x00\x00", 1, 5, "", 2, api.OK},
		{"\x01\x00", 0, 1, "\x00", 2, api.OK},
		{"\x80\x01" + long, 0, 128, long, 130, api.OK},
	})
}

// P1.2: where the length is no number, that counts, whatever most is.
func TestGetBlobLength(t *testing.T) {
	checkStrings(t, []stringCase{
		{"\x02ab", -1, 2, "", 0, api.ErrArg},
		{"\x02ab", 4, 2, "", 0, api.ErrArg},
		{"\x02ab", 4, -1, "", 0, api.ErrArg},
		{"\x02ab", math.MinInt, 2, "", 0, api.ErrArg},
		{"\x02ab", math.MaxInt, 2, "", 0, api.ErrArg},
		{"\x02ab", 3, 2, "", 0, api.ErrShort},
		{"", 0, 0, "", 0, api.ErrShort},
		{"", 0, -1, "", 0, api.ErrShort},
		{"\x82", 0, -1, "", 0, api.ErrShort},
		{"\x82\x00ab", 0, 2, "", 0, api.ErrBytes},
		{"\x82\x00ab", 0, -1, "", 0, api.ErrBytes},
		{nine + "\x02ab", 0, 0, "", 0, api.ErrBytes},
	})
}

// P1.2: a length above most, and then one that is more than there is.
func TestGetBlobRefused(t *testing.T) {
	checkStrings(t, []stringCase{
		{"\x02ab", 0, 1, "", 0, api.ErrLong},
		{"\x02ab", 0, 0, "", 0, api.ErrLong},
		{"\x02ab", 0, -1, "", 0, api.ErrLong},
		{"\x02ab", 0, math.MinInt, "", 0, api.ErrLong},
		{"\x00", 0, -1, "", 0, api.ErrLong},
		{"\x03ab", 0, 2, "", 0, api.ErrLong},
		{"\x03ab", 0, -1, "", 0, api.ErrLong},
		{"\x03ab", 0, 3, "", 0, api.ErrShort},
		{"xyz\x03ab", 3, 3, "", 0, api.ErrShort},
		{"\x01", 0, 1, "", 0, api.ErrShort},
		{"\x01", 0, math.MaxInt, "", 0, api.ErrShort},
		{nine[:8] + "\x7fab", 0, math.MaxInt, "", 0, api.ErrShort},
		{nine[:8] + "\x7fab", 0, math.MaxInt - 1, "", 0, api.ErrLong},
		{nineNoughts + "\x01ab", 0, math.MaxInt, "", 0, api.ErrLong},
		{nine + "\x01ab", 0, math.MaxInt, "", 0, api.ErrLong},
	})
	if s, next, e := own.GetBlob(nil, 0, 0); len(s) != 0 || next != 0 || e != api.ErrShort {
		t.Errorf("GetBlob(nil, 0, 0) = %q %d %d", s, next, e)
	}
}
