package tag_test

import (
	"bytes"
	"encoding/binary"
	"math"
	"testing"

	"rescript/api"
	"rescript/tag"
	"rescript/varint"
)

// edges is numbers about each power of two, and the greatest ones.
func edges() []uint64 {
	l := []uint64{0, 1, 258, 0x01020304, 0x0102030405060708, math.MaxUint32, math.MaxUint64}
	for shift := 1; shift < 64; shift++ {
		p := uint64(1) << shift
		l = append(l, p-1, p, p+1)
	}
	return l
}

// known tells whether a wire type is one of the four.
func known(wire uint8) bool {
	return bytes.IndexByte([]byte{tag.Varint, tag.Eight, tag.Bytes, tag.Four}, wire) >= 0
}

func TestMake(t *testing.T) { // P2.1
	for _, c := range []struct {
		num  int
		wire uint8
		n    uint64
		e    api.Errno
	}{
		{1, tag.Varint, 8, api.OK},
		{1, tag.Eight, 9, api.OK},
		{1, tag.Bytes, 10, api.OK},
		{1, tag.Four, 13, api.OK},
		{2, tag.Four, 21, api.OK},
		{16, tag.Varint, 128, api.OK},
		{tag.Most, tag.Varint, 1<<32 - 8, api.OK},
		{tag.Most, tag.Four, 1<<32 - 3, api.OK},
		{0, tag.Varint, 0, api.ErrRange},
		{-1, tag.Bytes, 0, api.ErrRange},
		{math.MinInt, tag.Bytes, 0, api.ErrRange},
		{tag.Most + 1, tag.Bytes, 0, api.ErrRange},
		{math.MaxInt, tag.Bytes, 0, api.ErrRange},
		{1, 3, 0, api.ErrKind},
		{1, 4, 0, api.ErrKind},
		{1, 6, 0, api.ErrKind},
		{1, 7, 0, api.ErrKind},
		{1, 8, 0, api.ErrKind},
		{tag.Most, 255, 0, api.ErrKind},
		{0, 3, 0, api.ErrRange},
		{-1, 255, 0, api.ErrRange},
		{tag.Most + 1, 7, 0, api.ErrRange},
	} {
		if n, e := tag.Make(c.num, c.wire); n != c.n || e != c.e {
			t.Errorf("Make(%d, %d): %d, %d, not %d, %d", c.num, c.wire, n, e, c.n, c.e)
		}
	}
}

func TestMostIsTwentyNineBits(t *testing.T) { // P2.1
	if tag.Most != 536870911 {
		t.Errorf("Most: %d", tag.Most)
	}
}

func TestHead(t *testing.T) { // P2.1
	for _, c := range []struct {
		num  int
		wire uint8
		want string
	}{
		{1, tag.Bytes, "\x0A"},
		{1, tag.Varint, "\x08"},
		{15, tag.Four, "\x7D"},
		{16, tag.Varint, "\x80\x01"},
		{tag.Most, tag.Four, "\xFD\xFF\xFF\xFF\x0F"},
		{0, tag.Bytes, ""},
		{-1, tag.Bytes, ""},
		{tag.Most + 1, tag.Bytes, ""},
		{1, 3, ""},
		{1, 255, ""},
	} {
		if got := string(tag.Head(c.num, c.wire)); got != c.want {
			t.Errorf("Head(%d, %d): % X, not % X", c.num, c.wire, got, c.want)
		}
	}
}

func TestSplit(t *testing.T) { // P2.2
	for _, c := range []struct {
		n    uint64
		num  int
		wire uint8
		e    api.Errno
	}{
		{8, 1, tag.Varint, api.OK},
		{10, 1, tag.Bytes, api.OK},
		{21, 2, tag.Four, api.OK},
		{1<<32 - 8, tag.Most, tag.Varint, api.OK},
		{1<<32 - 7, tag.Most, tag.Eight, api.OK},
		{1<<32 - 3, tag.Most, tag.Four, api.OK},
		{0, 0, 0, api.ErrRange},
		{2, 0, 0, api.ErrRange},
		{7, 0, 0, api.ErrRange},
		{1 << 32, 0, 0, api.ErrRange},
		{1<<32 + 7, 0, 0, api.ErrRange},
		{1<<35 + 8, 0, 0, api.ErrRange},
		{1<<63 + 10, 0, 0, api.ErrRange},
		{math.MaxUint64, 0, 0, api.ErrRange},
		{11, 0, 0, api.ErrKind},
		{12, 0, 0, api.ErrKind},
		{14, 0, 0, api.ErrKind},
		{15, 0, 0, api.ErrKind},
		{1<<32 - 1, 0, 0, api.ErrKind},
	} {
		if num, wire, e := tag.Split(c.n); num != c.num || wire != c.wire || e != c.e {
			t.Errorf("Split(%d): %d, %d, %d, not %d, %d, %d", c.n, num, wire, e, c.num, c.wire, c.e)
		}
	}
}

func TestFix(t *testing.T) { // P2.3
	if got := string(tag.Fix32(258)); got != "\x02\x01\x00\x00" {
		t.Errorf("Fix32(258): % X", got)
	}
	if got := string(tag.Fix64(258)); got != "\x02\x01\x00\x00\x00\x00\x00\x00" {
		t.Errorf("Fix64(258): % X", got)
	}
	for _, n := range edges() {
		if got, want := tag.Fix32(uint32(n)), binary.LittleEndian.AppendUint32(nil, uint32(n)); !bytes.Equal(got, want) {
			t.Errorf("Fix32(%d): % X, not % X", uint32(n), got, want)
		}
		if got, want := tag.Fix64(n), binary.LittleEndian.AppendUint64(nil, n); !bytes.Equal(got, want) {
			t.Errorf("Fix64(%d): % X, not % X", n, got, want)
		}
	}
}

func TestGetFixed(t *testing.T) { // P2.3
	b := []byte{1, 2, 3, 4, 5, 6, 7, 0xF8, 9}
	for k := range len(b) + 1 {
		n, e := tag.Get32(b[:k])
		if k < 4 && (n != 0 || e != api.ErrShort) || k >= 4 && (n != 0x04030201 || e != api.OK) {
			t.Errorf("Get32 of %d bytes: %X, %d", k, n, e)
		}
		m, f := tag.Get64(b[:k])
		if k < 8 && (m != 0 || f != api.ErrShort) || k >= 8 && (m != 0xF807060504030201 || f != api.OK) {
			t.Errorf("Get64 of %d bytes: %X, %d", k, m, f)
		}
	}
	if n, e := tag.Get32(nil); n != 0 || e != api.ErrShort {
		t.Errorf("Get32(nil): %d, %d", n, e)
	}
	if n, e := tag.Get64(nil); n != 0 || e != api.ErrShort {
		t.Errorf("Get64(nil): %d, %d", n, e)
	}
}

func TestWidth(t *testing.T) { // P2.3
	for wire := range 256 {
		want := 0
		switch wire {
		case tag.Eight:
			want = 8
		case tag.Four:
			want = 4
		}
		if n, ok := tag.Width(uint8(wire)); n != want || ok != known(uint8(wire)) {
			t.Errorf("Width(%d): %d, %t", wire, n, ok)
		}
	}
}

func TestTagsAreSplitAsTheyWereMade(t *testing.T) { // P2.1, P2.2, P2.4
	for _, num := range []int{1, 2, 15, 16, 2047, 2048, 1 << 28, tag.Most - 1, tag.Most} {
		for wire := range 256 {
			n, e := tag.Make(num, uint8(wire))
			if !known(uint8(wire)) {
				if n != 0 || e != api.ErrKind {
					t.Errorf("Make(%d, %d): %d, %d", num, wire, n, e)
				}
				continue
			}
			num2, wire2, f := tag.Split(n)
			if e != api.OK || f != api.OK || num2 != num || int(wire2) != wire {
				t.Errorf("Split of Make(%d, %d): %d, %d, %d", num, wire, num2, wire2, f)
			}
			if got := tag.Head(num, uint8(wire)); !bytes.Equal(got, varint.Put(n)) {
				t.Errorf("Head(%d, %d): % X", num, wire, got)
			}
		}
	}
}

func TestWhatIsSplitIsMadeAgain(t *testing.T) { // P2.2, P2.4
	for n := range uint64(1 << 16) {
		num, wire, e := tag.Split(n)
		if e != api.OK {
			continue
		}
		if got, f := tag.Make(num, wire); got != n || f != api.OK {
			t.Fatalf("Make of Split(%d): %d, %d", n, got, f)
		}
	}
}

func TestNumbersAreReadAsWritten(t *testing.T) { // P2.4
	for _, n := range edges() {
		for _, behind := range [][]byte{nil, {0}, {0xFF, 0xFF}} {
			if got, e := tag.Get32(append(tag.Fix32(uint32(n)), behind...)); got != uint32(n) || e != api.OK {
				t.Errorf("Get32 of Fix32(%d): %d, %d", uint32(n), got, e)
			}
			if got, e := tag.Get64(append(tag.Fix64(n), behind...)); got != n || e != api.OK {
				t.Errorf("Get64 of Fix64(%d): %d, %d", n, got, e)
			}
		}
	}
}

func TestAnswersAreNewMemory(t *testing.T) { // P3, P5
	for _, c := range []struct {
		name string
		make func() []byte
		want string
	}{
		{"Head", func() []byte { return tag.Head(16, tag.Bytes) }, "\x82\x01"},
		{"Fix32", func() []byte { return tag.Fix32(0xFFFEFDFC) }, "\xFC\xFD\xFE\xFF"},
		{"Fix64", func() []byte { return tag.Fix64(1) }, "\x01\x00\x00\x00\x00\x00\x00\x00"},
	} {
		clear(c.make())
		if got := string(c.make()); got != c.want {
			t.Errorf("%s behind a write to its answer: % X", c.name, got)
		}
	}
	in := []byte{1, 2, 3, 4, 5, 6, 7, 8}
	tag.Get32(in)
	tag.Get64(in)
	if string(in) != "\x01\x02\x03\x04\x05\x06\x07\x08" {
		t.Errorf("what was handed in is % X", in)
	}
}
