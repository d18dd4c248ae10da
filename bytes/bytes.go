// Package bytes is layer 1: numbers, strings and sums as bytes; see shared/doc/01-bytes.md.
package bytes

import (
	"slices"

	"cooperage/api"
)

const (
	turned    = 2197175160 // what halving xors where there was a rest: CRC-32C, turned about
	lastDigit = 9          // the place of a number's tenth byte, which has room for one bit of 64
	sumSize   = 4
)

// Table is the table that sums are made by.
//
// Halving eight times turns a xor of bytes into the xor of what comes of them.
// So eight bytes of one bit each are enough: each of them doubles what is known.
func Table() api.Table {
	var t api.Table
	halved := uint32(1)
	for i := range 8 {
		halved = halve(halved)
		bit := 128 >> i
		for j := range 1 << i {
			known := 2 * bit * j
			t[known+bit] = t[known] ^ halved
		}
	}
	return t
}

func halve(n uint32) uint32 {
	if n%2 == 1 {
		return n/2 ^ turned
	}
	return n / 2
}

// Uint is out, and n behind it.
func Uint(out []byte, n uint64) []byte {
	return slices.Concat(out, digits(n))
}

func digits(n uint64) []byte {
	var d []byte
	for n >= 128 {
		d = append(d, byte(n%128+128))
		n /= 128
	}
	return append(d, byte(n))
}

// GetUint is the number that begins at a place, and the place behind it.
func GetUint(b []byte, at int) (uint64, int, api.Errno) {
	if at < 0 || at > len(b) {
		return 0, 0, api.ErrArg
	}
	var n uint64
	for i, d := range b[at:] {
		if i > 0 && d == 0 || i == lastDigit && d > 1 {
			return 0, 0, api.ErrBytes
		}
		n += uint64(d%128) << (7 * i)
		if d < 128 {
			return n, at + i + 1, api.OK
		}
	}
	return 0, 0, api.ErrShort
}

// Blob is out, and the string b behind it.
func Blob(out, b []byte) []byte {
	return slices.Concat(out, digits(uint64(len(b))), b)
}

// GetBlob is the string of at most so many bytes that begins at a place, and the place behind it.
func GetBlob(b []byte, at, most int) ([]byte, int, api.Errno) {
	n, from, e := GetUint(b, at)
	if e != api.OK {
		return nil, 0, e
	}
	// Held against each other as they came: a length may be above what an int has.
	if most < 0 || n > uint64(most) {
		return nil, 0, api.ErrLong
	}
	if n > uint64(len(b)-from) {
		return nil, 0, api.ErrShort
	}
	next := from + int(n)
	return append([]byte(nil), b[from:next]...), next, api.OK
}

// Sum is the sum of bytes by a table; without one it is 0.
func Sum(t *api.Table, b []byte) uint32 {
	if t == nil {
		return 0
	}
	s := ^uint32(0)
	for _, c := range b {
		s = s/256 ^ t[byte(s)^c]
	}
	return ^s
}

// Seal is b, and its sum behind it.
func Seal(t *api.Table, b []byte) []byte {
	s := Sum(t, b)
	return slices.Concat(b, []byte{byte(s >> 24), byte(s >> 16), byte(s >> 8), byte(s)})
}

// Unseal is what was sealed.
func Unseal(t *api.Table, b []byte) ([]byte, api.Errno) {
	n := len(b) - sumSize
	if n < 0 {
		return nil, api.ErrShort
	}
	sealed := Seal(t, b[:n])
	if !slices.Equal(sealed, b) {
		return nil, api.ErrSum
	}
	return slices.Clip(sealed[:n]), api.OK
}
