// Package tag has the tags of fields, and numbers of four and eight bytes. See ../../shared/doc/02-tag.md.
package tag

import (
	"iter"

	"rescript/api"
	"rescript/varint"
)

// The wire types.
const (
	Varint = 0
	Eight  = 1
	Bytes  = 2
	Four   = 5
)

// Most is the greatest number of a field.
const Most = 1<<29 - 1

// fold is how many tags a field's number has room for: as many as there are wire types, known or not.
const fold = 8

// Make is the tag of a field.
func Make(num int, wire uint8) (uint64, api.Errno) {
	if num < 1 || num > Most {
		return 0, api.ErrRange
	}
	if _, known := Width(wire); !known {
		return 0, api.ErrKind
	}
	return uint64(num)*fold + uint64(wire), api.OK
}

// Split is the field's number and wire type of a tag.
func Split(n uint64) (int, uint8, api.Errno) {
	num, wire := n/fold, uint8(n%fold)
	// Held as uint64, for an int may be too short for it.
	if num < 1 || num > Most {
		return 0, 0, api.ErrRange
	}
	if _, known := Width(wire); !known {
		return 0, 0, api.ErrKind
	}
	return int(num), wire, api.OK
}

// Head is a tag's bytes.
func Head(num int, wire uint8) []byte {
	n, e := Make(num, wire)
	if e != api.OK {
		return nil
	}
	return varint.Put(n)
}

// lowest gives so many of a number's bytes, the lowest first.
func lowest(n uint64, width int) iter.Seq[byte] {
	return func(yield func(byte) bool) {
		for i := range width {
			if !yield(byte(n >> (8 * i))) {
				return
			}
		}
	}
}

// fixed is so many of a number's bytes.
func fixed(n uint64, width int) []byte {
	out := make([]byte, 0, width)
	for x := range lowest(n, width) {
		out = append(out, x)
	}
	return out
}

// Fix32 is four bytes.
func Fix32(n uint32) []byte { return fixed(uint64(n), 4) }

// Fix64 is eight bytes.
func Fix64(n uint64) []byte { return fixed(n, 8) }

// number is the number of so many bytes with which others begin.
func number(b []byte, width int) (uint64, api.Errno) {
	if len(b) < width {
		return 0, api.ErrShort
	}
	n := uint64(0)
	for i, x := range b[:width] {
		n += uint64(x) << (8 * i)
	}
	return n, api.OK
}

// Get32 is the number of four bytes with which others begin.
func Get32(b []byte) (uint32, api.Errno) {
	n, e := number(b, 4)
	return uint32(n), e
}

// Get64 is the number of eight bytes with which others begin.
func Get64(b []byte) (uint64, api.Errno) { return number(b, 8) }

// Width is how many bytes a wire type's value has (0: it tells itself).
func Width(wire uint8) (int, bool) {
	width := 0
	switch wire {
	case Eight: // four bytes more than Four
		width += 4
		fallthrough
	case Four:
		width += 4
		fallthrough
	case Varint, Bytes:
		return width, true
	}
	return 0, false
}
