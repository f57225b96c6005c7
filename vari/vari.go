// Package vari is layer 1: see shared/doc/01-vari.md. It writes numbers as few bytes, and reads them.
package vari

import "gossamer/api"

const (
	digitBits = 7
	base      = 1 << digitBits // what is added to a digit that another one follows
	mostPlain = 9              // the most bytes of a number that is not below 0
	mostWide  = 10             // the most bytes of one that may be: it has 64 bits
	mostTop   = 1              // the most that the 64th bit's byte can be
)

// Put are a number's bytes.
func Put(n int) string { return All(n) }

// Take is the number that bytes begin with, and how many bytes it has.
func Take(s string) (int, int, api.Errno) {
	u, size, err := take(s, mostPlain)
	return int(u), size, err
}

// PutSigned are the bytes of a number that may be below 0.
func PutSigned(n int) string {
	u := uint64(n) << 1
	if n < 0 {
		// Minus twice n, less 1, is all bits of twice n turned round: so it can't overflow.
		u = ^u
	}
	return string(put(nil, u))
}

// TakeSigned is such a number that bytes begin with, and how many bytes it has.
func TakeSigned(s string) (int, int, api.Errno) {
	u, size, err := take(s, mostWide)
	if size == mostWide && s[mostWide-1] > mostTop {
		return 0, 0, api.ErrForm
	}
	n := int(u >> 1)
	if u&1 == 1 {
		n = ^n
	}
	return n, size, err
}

// All are the bytes of numbers, one behind the other.
func All(l ...int) string {
	var b []byte
	for _, n := range l {
		if n >= 0 {
			b = put(b, uint64(n))
		}
	}
	return string(b)
}

// put adds the digits of u, the lowest one first.
func put(b []byte, u uint64) []byte {
	for ; u >= base; u >>= digitBits {
		b = append(b, byte(u%base)+base)
	}
	return append(b, byte(u))
}

// take is the number of at most so many bytes that s begins with, and how many bytes it has.
func take(s string, most int) (uint64, int, api.Errno) {
	var u uint64
	size := 0
digits:
	for i := range min(len(s), most) {
		c := s[i]
		u |= uint64(c%base) << (digitBits * i)
		switch {
		case c >= base:
			continue
		case c == 0 && i > 0:
			// A highest digit of 0 is one more than needed.
			return 0, 0, api.ErrForm
		}
		size = i + 1
		break digits
	}
	switch {
	case size > 0:
		return u, size, api.OK
	case len(s) < most:
		return 0, 0, api.ErrShort
	}
	return 0, 0, api.ErrForm
}
