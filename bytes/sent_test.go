package bytes_test

import (
	"encoding/binary"
	"math"
	"strings"
	"testing"

	own "cooperage/bytes"
)

// sample is numbers about each of the places where one byte more is needed, and some between.
func sample() []uint64 {
	all := []uint64{0, 1, 2, 100, 300, 65535, 1 << 40, math.MaxInt64, math.MaxUint64 - 1, math.MaxUint64}
	for i := range 64 {
		edge := uint64(1) << i
		all = append(all, edge-1, edge, edge+1, edge*3/2)
	}
	return all
}

// P1.1, examples and edges of numbers.
func TestUint(t *testing.T) {
	for _, c := range []struct {
		out  string
		n    uint64
		want string
	}{
		{"", 0, "\x00"},
		{"", 1, "\x01"},
		{"", 127, "\x7f"},
		{"", 128, "\x80\x01"},
		{"", 300, "\xac\x02"},
		{"", 16383, "\xff\x7f"},
		{"", 16384, "\x80\x80\x01"},
		{"", 1<<63 - 1, "\xff\xff\xff\xff\xff\xff\xff\xff\x7f"},
		{"", 1 << 63, "\x80\x80\x80\x80\x80\x80\x80\x80\x80\x01"},
		{"", math.MaxUint64, "\xff\xff\xff\xff\xff\xff\xff\xff\xff\x01"},
		{"ahead", 0, "ahead\x00"},
		{"\x80", 300, "\x80\xac\x02"},
	} {
		if got := own.Uint([]byte(c.out), c.n); string(got) != c.want {
			t.Errorf("Uint(%q, %d) = %q, want %q", c.out, c.n, got, c.want)
		}
	}
	if got := own.Uint(nil, 300); string(got) != "\xac\x02" {
		t.Errorf("Uint(nil, 300) = %q", got)
	}
}

// P1.1 against another program of the same form.
func TestUintSample(t *testing.T) {
	for _, n := range sample() {
		want := binary.AppendUvarint([]byte("x"), n)
		if got := own.Uint([]byte("x"), n); string(got) != string(want) {
			t.Errorf("Uint(x, %d) = %q, want %q", n, got, want)
		}
	}
}

// P1.1, examples and edges of strings.
func TestBlob(t *testing.T) {
	long := strings.Repeat("z", 127)
	for _, c := range []struct{ out, b, want string }{
		{"", "", "\x00"},
		{"", "ab", "\x02ab"},
		{"", "\x00", "\x01\x00"},
		{"ahead", "", "ahead\x00"},
		{"ahead", "\xff\x80", "ahead\x02\xff\x80"},
		{"", long, "\x7f" + long},
		{"q", long + "y", "q\x80\x01" + long + "y"},
	} {
		if got := own.Blob([]byte(c.out), []byte(c.b)); string(got) != c.want {
			t.Errorf("Blob(%q, %q) = %q, want %q", c.out, c.b, got, c.want)
		}
	}
	if got := own.Blob(nil, nil); string(got) != "\x00" {
		t.Errorf("Blob(nil, nil) = %q", got)
	}
}
