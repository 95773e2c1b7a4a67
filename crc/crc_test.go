package crc_test

import (
	"bytes"
	"hash/crc32"
	"math"
	"strings"
	"testing"

	"rescript/api"
	"rescript/crc"
)

// told is the document's reading of a sum, bit by bit, of bytes behind others whose sum is known.
func told(sum uint32, b []byte) uint32 {
	s := sum ^ math.MaxUint32
	for _, x := range b {
		for i := 0; i < 8; i++ {
			unlike := s&1 != uint32(x>>i&1)
			s /= 2
			if unlike {
				s ^= 0xEDB88320
			}
		}
	}
	return s ^ math.MaxUint32
}

// some is bytes of which no two next to each other are alike.
func some(n int) []byte {
	out := make([]byte, n)
	for i := range out {
		out[i] = byte(i*i*7 + i*31 + 5)
	}
	return out
}

// samples is bytes of many kinds.
func samples() [][]byte {
	out := [][]byte{nil, {}, []byte("123456789"), make([]byte, 9000), bytes.Repeat([]byte{0xFF}, 9000), some(8201)}
	for n := range 40 {
		out = append(out, some(n), make([]byte, n), bytes.Repeat([]byte{0xFF}, n))
	}
	for x := range 256 {
		out = append(out, []byte{byte(x)}, []byte{0, byte(x)}, []byte{byte(x), 0})
	}
	return out
}

func TestStep(t *testing.T) { // P7.1
	for _, c := range []struct {
		s    uint32
		bit  bool
		want uint32
	}{
		{0, false, 0},
		{0, true, 0xEDB88320},
		{1, false, 0xEDB88320},
		{1, true, 0},
		{2, false, 1},
		{2, true, 0xEDB88321},
		{3, false, 0xEDB88321},
		{3, true, 1},
		{0x80000000, false, 0x40000000},
		{0x80000000, true, 0xADB88320},
		{0xEDB88320, false, 0x76DC4190},
		{0xEDB88320, true, 0x9B64C2B0},
		{0xFFFFFFFE, false, 0x7FFFFFFF},
		{0xFFFFFFFE, true, 0x92477CDF},
		{0xFFFFFFFF, false, 0x92477CDF},
		{0xFFFFFFFF, true, 0x7FFFFFFF},
	} {
		if s := crc.Step(c.s, c.bit); s != c.want {
			t.Errorf("Step of %08X by %v: %08X, not %08X", c.s, c.bit, s, c.want)
		}
	}
}

func TestASumIsSteps(t *testing.T) { // P7.1
	for _, b := range samples() {
		s := uint32(math.MaxUint32)
		for _, x := range b {
			for i := range 8 {
				s = crc.Step(s, x>>i&1 == 1)
			}
		}
		if got := crc.Of(b); got != ^s {
			t.Fatalf("Of of %d bytes, % X: %08X, by steps %08X", len(b), b[:min(len(b), 40)], got, ^s)
		}
	}
}

func TestOf(t *testing.T) { // P7.1, the example
	for _, c := range []struct {
		b    string
		want uint32
	}{
		{"", 0},
		{"123456789", 0xCBF43926},
		{"a", 0xE8B7BE43},
		{"abc", 0x352441C2},
		{"\x00", 0xD202EF8D},
		{"\xFF", 0xFF000000},
		{"\xFF\xFF\xFF\xFF", 0xFFFFFFFF},
		{"\x00\x00\x00\x00", 0x2144DF1C},
		{strings.Repeat("\x00", 32), 0x190A55AD},
		{strings.Repeat("\xFF", 32), 0xFF6CAB0B},
		{"The quick brown fox jumps over the lazy dog", 0x414FA339},
	} {
		if sum := crc.Of([]byte(c.b)); sum != c.want {
			t.Errorf("Of of %q: %08X, not %08X", c.b, sum, c.want)
		}
	}
	if sum := crc.Of(nil); sum != 0 {
		t.Errorf("Of of nil: %08X", sum)
	}
}

func TestOfIsTheCommonSum(t *testing.T) { // P7.1
	for _, b := range samples() {
		if sum, want := crc.Of(b), crc32.ChecksumIEEE(b); sum != want || told(0, b) != want {
			t.Fatalf("Of of %d bytes, % X: %08X, not %08X", len(b), b[:min(len(b), 40)], sum, want)
		}
	}
}

func TestMore(t *testing.T) { // P7.1, P7.3
	for _, b := range samples() {
		want := crc.Of(b)
		for at := 0; at <= len(b); at += 1 + len(b)/50 {
			if sum := crc.More(crc.Of(b[:at]), b[at:]); sum != want {
				t.Fatalf("More of %d bytes behind %d: %08X, not %08X", len(b)-at, at, sum, want)
			}
		}
		if sum := crc.More(0, b); sum != want {
			t.Fatalf("More of %d bytes behind none: %08X, not %08X", len(b), sum, want)
		}
	}
}

func TestMoreOfAnySum(t *testing.T) { // P7.1: each number is the sum of some bytes
	for _, sum := range []uint32{0, 1, 0x12345678, 0x7FFFFFFF, 0x80000000, 0xCBF43926, 0xEDB88320, 0xFFFFFFFE, math.MaxUint32} {
		if got := crc.More(sum, nil); got != sum {
			t.Errorf("More of nothing behind %08X: %08X", sum, got)
		}
		if got := crc.More(sum, []byte{}); got != sum {
			t.Errorf("More of none behind %08X: %08X", sum, got)
		}
		for _, b := range samples() {
			if got, want := crc.More(sum, b), crc32.Update(sum, crc32.IEEETable, b); got != want || told(sum, b) != want {
				t.Fatalf("More of %d bytes behind %08X: %08X, not %08X", len(b), sum, got, want)
			}
		}
	}
}

func TestPartsHaveTheSumOfAll(t *testing.T) { // P7.3
	b := some(1000)
	for _, size := range []int{1, 2, 3, 7, 64, 999, 1000, 2000} {
		sum := crc.Of(nil)
		for at := 0; at < len(b); at += size {
			sum = crc.More(sum, b[at:min(at+size, len(b))])
			sum = crc.More(sum, nil)
		}
		if sum != crc.Of(b) {
			t.Errorf("in parts of %d: %08X, not %08X", size, sum, crc.Of(b))
		}
	}
}

// turned is bytes with the bits of a pattern turned, from a bit's place on.
func turned(b []byte, at int, pattern uint32) []byte {
	out := bytes.Clone(b)
	for i := range 32 {
		if pattern>>i&1 == 1 {
			out[(at+i)/8] ^= 1 << ((at + i) % 8)
		}
	}
	return out
}

func TestAChangeOfUpTo32BitsIsSeen(t *testing.T) { // P7.3
	b := some(300)
	was, sealed := crc.Of(b), crc.Seal(b)
	pattern := uint32(1)
	for n := range 20000 {
		pattern = pattern*1664525 + 1013904223
		p := pattern >> (n % 32)
		if n%3 == 0 {
			p = 1 << (n % 32)
		}
		if p == 0 {
			continue
		}
		if at := n % (8*len(b) - 31); crc.Of(turned(b, at, p)) == was {
			t.Fatalf("with %08X turned at %d the sum is the same", p, at)
		}
		at := n * 7 % (8*len(sealed) - 31)
		if l, e := crc.Open(turned(sealed, at, p)); len(l) != 0 || e != api.ErrSum {
			t.Fatalf("Open with %08X turned at %d: %d bytes, %v", p, at, len(l), e)
		}
	}
}

func TestSeal(t *testing.T) { // P7.2
	for _, c := range []struct{ b, want string }{
		{"", "\x00\x00\x00\x00"},
		{"123456789", "123456789\x26\x39\xF4\xCB"},
		{"a", "a\x43\xBE\xB7\xE8"},
		{"\xFF", "\xFF\x00\x00\x00\xFF"},
	} {
		if b := crc.Seal([]byte(c.b)); string(b) != c.want {
			t.Errorf("Seal of %q: % X, not % X", c.b, b, c.want)
		}
	}
	if b := crc.Seal(nil); string(b) != "\x00\x00\x00\x00" {
		t.Errorf("Seal of nil: % X", b)
	}
}

func TestOpen(t *testing.T) { // P7.2
	for _, b := range samples() {
		sealed := crc.Seal(b)
		if len(sealed) != len(b)+4 || !bytes.HasPrefix(sealed, b) {
			t.Fatalf("Seal of %d bytes has %d", len(b), len(sealed))
		}
		if l, e := crc.Open(sealed); !bytes.Equal(l, b) || e != api.OK {
			t.Fatalf("Open of a Seal of %d bytes: %d, %v", len(b), len(l), e)
		}
		twice := crc.Seal(sealed)
		if l, e := crc.Open(twice); !bytes.Equal(l, sealed) || e != api.OK {
			t.Fatalf("Open of a Seal of a Seal of %d bytes: %d, %v", len(b), len(l), e)
		}
	}
}

func TestOpenOfWhatIsNoSeal(t *testing.T) { // P7.2
	for _, c := range []struct {
		name, b string
		e       api.Errno
	}{
		{"nothing", "", api.ErrShort},
		{"one byte", "\x00", api.ErrShort},
		{"three bytes", "\x00\x00\x00", api.ErrShort},
		{"four bytes of another sum than none's", "\x01\x00\x00\x00", api.ErrSum},
		{"four bytes of another sum than none's, the last one", "\x00\x00\x00\x01", api.ErrSum},
		{"five noughts", "\x00\x00\x00\x00\x00", api.ErrSum},
		{"a sum with the highest byte first", "123456789\xCB\xF4\x39\x26", api.ErrSum},
		{"a sum whose bits aren't turned", "123456789\xD9\xC6\x0B\x34", api.ErrSum},
		{"a sum ahead", "\x26\x39\xF4\xCB123456789", api.ErrSum},
		{"a byte behind", "123456789\x26\x39\xF4\xCB\x00", api.ErrSum},
		{"a byte too few", "123456789\x26\x39\xF4", api.ErrSum},
		{"a byte ahead", "\x00123456789\x26\x39\xF4\xCB", api.ErrSum},
		{"the first byte gone", "23456789\x26\x39\xF4\xCB", api.ErrSum},
		{"bytes without a sum", "123456789", api.ErrSum},
	} {
		if l, e := crc.Open([]byte(c.b)); len(l) != 0 || e != c.e {
			t.Errorf("Open of %s: %q, %v, not %v", c.name, l, e, c.e)
		}
	}
	if l, e := crc.Open(nil); len(l) != 0 || e != api.ErrShort {
		t.Errorf("Open of nil: %q, %v", l, e)
	}
	sealed := crc.Seal([]byte("123456789"))
	for i := range 8 * len(sealed) {
		changed := bytes.Clone(sealed)
		changed[i/8] ^= 1 << (i % 8)
		if l, e := crc.Open(changed); len(l) != 0 || e != api.ErrSum {
			t.Errorf("Open with the bit %d turned: %q, %v", i, l, e)
		}
	}
}

func TestTheEndOfAListIsItsEnd(t *testing.T) { // P3
	b := []byte("123456789\x26\x39\xF4\xCB and more")
	if sum := crc.Of(b[:9]); sum != 0xCBF43926 {
		t.Errorf("Of: %08X", sum)
	}
	if sum := crc.More(0, b[:9]); sum != 0xCBF43926 {
		t.Errorf("More: %08X", sum)
	}
	if l := crc.Seal(b[:9]); string(l) != "123456789\x26\x39\xF4\xCB" {
		t.Errorf("Seal: %q", l)
	}
	if l, e := crc.Open(b[:13]); string(l) != "123456789" || e != api.OK {
		t.Errorf("Open: %q, %v", l, e)
	}
	if l, e := crc.Open(b[:3]); len(l) != 0 || e != api.ErrShort {
		t.Errorf("Open of three bytes: %q, %v", l, e)
	}
	if string(b) != "123456789\x26\x39\xF4\xCB and more" {
		t.Errorf("what was handed in is %q", b)
	}
}

func TestAnswersAreNewMemory(t *testing.T) { // P7.2, P3
	b := []byte("123456789")
	sealed := crc.Seal(b)
	open, _ := crc.Open(sealed)
	again, _ := crc.Open(sealed)
	copy(b, "changed !")
	if string(sealed) != "123456789\x26\x39\xF4\xCB" {
		t.Errorf("Seal behind a write to what was handed in: %q", sealed)
	}
	copy(sealed, "changed ! too")
	if string(open) != "123456789" {
		t.Errorf("Open behind a write to what was handed in: %q", open)
	}
	copy(open, "changed ?")
	_ = append(open, "behind it"...)
	if string(sealed) != "changed ! too" || string(again) != "123456789" {
		t.Errorf("behind a write to what was answered: %q, %q", sealed, again)
	}
}

// FuzzSums holds any bytes against the document's words, and what follows.
func FuzzSums(f *testing.F) {
	f.Add([]byte("123456789"), 3, uint32(1), 5)
	f.Add([]byte("123456789\x26\x39\xF4\xCB"), 9, uint32(0xFFFFFFFF), 40)
	f.Add([]byte{}, 0, uint32(0), 0)
	f.Fuzz(func(t *testing.T, b []byte, at int, pattern uint32, bit int) {
		want := told(0, b)
		if sum := crc.Of(b); sum != want {
			t.Fatalf("Of of % X: %08X, not %08X", b, sum, want)
		}
		at = min(max(at, 0), len(b))
		if sum := crc.More(crc.Of(b[:at]), b[at:]); sum != want {
			t.Fatalf("More of % X at %d: %08X, not %08X", b, at, sum, want)
		}
		if sum := crc.More(pattern, b); sum != told(pattern, b) {
			t.Fatalf("More of % X behind %08X: %08X", b, pattern, sum)
		}
		sealed := crc.Seal(b)
		if l, e := crc.Open(sealed); !bytes.Equal(l, b) || e != api.OK {
			t.Fatalf("Open of a Seal of % X: % X, %v", b, l, e)
		}
		if most := 8*len(sealed) - 32; pattern != 0 && bit >= 0 && bit <= most {
			if l, e := crc.Open(turned(sealed, bit, pattern)); len(l) != 0 || e != api.ErrSum {
				t.Fatalf("Open of a Seal of % X with %08X turned at %d: % X, %v", b, pattern, bit, l, e)
			}
		}
		holdOpen(t, b)
	})
}

// holdOpen holds Open of any bytes against the document's words.
func holdOpen(t *testing.T, b []byte) {
	l, e := crc.Open(b)
	switch {
	case len(b) < 4:
		if e != api.ErrShort || len(l) != 0 {
			t.Fatalf("Open of % X: % X, %v", b, l, e)
		}
	case e == api.OK:
		if !bytes.Equal(crc.Seal(l), b) {
			t.Fatalf("Open of % X: % X, whose Seal it isn't", b, l)
		}
	default:
		if e != api.ErrSum || len(l) != 0 || bytes.Equal(crc.Seal(b[:len(b)-4]), b) {
			t.Fatalf("Open of % X: % X, %v", b, l, e)
		}
	}
}
