// Package varint has numbers as few bytes as may be. See ../../shared/doc/01-varint.md.
package varint

import (
	"iter"
	"math/bits"

	"rescript/api"
)

const (
	// more is what a byte has behind which another one of its number stands.
	more = 0x80
	// longest is how many bytes a number has at most.
	longest = 10
	// lastMost is the greatest last byte of so many: nine sevens leave one bit of 64.
	lastMost = 1
)

// sevens gives a number's sevens, the lowest first, and whether another one stands behind.
func sevens(n uint64) iter.Seq2[byte, bool] {
	return func(yield func(byte, bool) bool) {
		for rest := n; ; rest >>= 7 {
			if rest < more {
				yield(byte(rest), false)
				return
			}
			if !yield(byte(rest%more), true) {
				return
			}
		}
	}
}

// Put is a number's bytes.
func Put(n uint64) []byte {
	out := make([]byte, 0, longest)
	for seven, behind := range sevens(n) {
		if behind {
			seven += more
		}
		out = append(out, seven)
	}
	return out
}

// Get is the number with which bytes begin, and how many it has.
func Get(b []byte) (uint64, int, api.Errno) {
	n, size := uint64(0), 0
reading:
	for i, x := range b {
		last := i == longest-1
		switch {
		case last && x >= more:
			return 0, 0, api.ErrLong
		case last && x > lastMost:
			return 0, 0, api.ErrRange
		case x < more:
			n += uint64(x) << (7 * i)
			size = i + 1
			break reading
		}
		n += uint64(x-more) << (7 * i)
	}
	if size == 0 {
		return 0, 0, api.ErrShort
	}
	return n, size, api.OK
}

// Size is how many bytes a number has.
func Size(n uint64) int {
	// 0 has a byte, too, though it has no bit that is 1.
	return (max(bits.Len64(n), 1) + 6) / 7
}

// Short tells whether the number with which bytes begin has as few as may be.
func Short(b []byte) bool {
	n, size, e := Get(b)
	return e == api.OK && size == Size(n)
}

// Zig is a number with a sign, as one without.
func Zig(n int64) uint64 {
	if n >= 0 {
		return uint64(n) * 2
	}
	// -(n+1), for -n itself may be beyond the type's end.
	return uint64(-(n+1))*2 + 1
}

// Zag is the number with a sign of one without.
func Zag(n uint64) int64 {
	half := int64(n / 2)
	if n%2 == 0 {
		return half
	}
	return -half - 1
}

// All is the numbers of bytes, one behind the other.
func All(b []byte) ([]uint64, api.Fault) {
	var out []uint64
	for at := 0; at < len(b); {
		n, size, e := Get(b[at:])
		if e != api.OK {
			return nil, api.Fault{Errno: e, At: at}
		}
		out = append(out, n)
		at += size
	}
	return out, api.Fault{}
}
