package varint_test

import (
	"bytes"
	"encoding/binary"
	"math"
	"slices"
	"testing"

	"rescript/api"
	"rescript/varint"
)

// edges is numbers about each place where one more byte is needed, and the greatest ones.
func edges() []uint64 {
	l := []uint64{0, 1, 2, 5, 300, math.MaxInt64, math.MaxInt64 + 1, math.MaxUint64 - 1, math.MaxUint64}
	for shift := 1; shift < 64; shift++ {
		p := uint64(1) << shift
		l = append(l, p-1, p, p+1)
	}
	return l
}

// mixed is a row of numbers of all lengths, from a fixed rule.
func mixed(n int) []uint64 {
	l, x := make([]uint64, n), uint64(0x9E3779B97F4A7C15)
	for i := range l {
		x ^= x << 13
		x ^= x >> 7
		x ^= x << 17
		l[i] = x >> (i % 64)
	}
	return l
}

// long is nine bytes that go on, and those handed in.
func long(behind ...byte) []byte {
	return append(bytes.Repeat([]byte{0x80}, 9), behind...)
}

func TestPutWritesSevensLowestFirst(t *testing.T) { // P1.1
	for _, c := range []struct {
		n    uint64
		want string
	}{
		{0, "\x00"},
		{1, "\x01"},
		{127, "\x7F"},
		{128, "\x80\x01"},
		{255, "\xFF\x01"},
		{300, "\xAC\x02"},
		{16383, "\xFF\x7F"},
		{16384, "\x80\x80\x01"},
		{1 << 32, "\x80\x80\x80\x80\x10"},
		{1<<63 - 1, "\xFF\xFF\xFF\xFF\xFF\xFF\xFF\xFF\x7F"},
		{1 << 63, "\x80\x80\x80\x80\x80\x80\x80\x80\x80\x01"},
		{math.MaxUint64, "\xFF\xFF\xFF\xFF\xFF\xFF\xFF\xFF\xFF\x01"},
	} {
		if got := string(varint.Put(c.n)); got != c.want {
			t.Errorf("Put(%d): % X, not % X", c.n, got, c.want)
		}
	}
}

func TestPutAndSizeOfAllLengths(t *testing.T) { // P1.1
	for _, n := range append(edges(), mixed(5000)...) {
		want := binary.AppendUvarint(nil, n)
		if got := varint.Put(n); !bytes.Equal(got, want) {
			t.Errorf("Put(%d): % X, not % X", n, got, want)
		}
		if got := varint.Size(n); got != len(want) {
			t.Errorf("Size(%d): %d, not %d", n, got, len(want))
		}
	}
}

func TestSizeAtEachEdge(t *testing.T) { // P1.1
	for k := 1; k <= 9; k++ {
		if got := varint.Size(1<<(7*k) - 1); got != k {
			t.Errorf("Size(2^%d - 1): %d, not %d", 7*k, got, k)
		}
		if got := varint.Size(1 << (7 * k)); got != k+1 {
			t.Errorf("Size(2^%d): %d, not %d", 7*k, got, k+1)
		}
	}
	if varint.Size(0) != 1 || varint.Size(math.MaxUint64) != 10 {
		t.Errorf("Size of the least and the greatest: %d, %d", varint.Size(0), varint.Size(math.MaxUint64))
	}
}

func TestGet(t *testing.T) { // P1.2
	for _, c := range []struct {
		name  string
		b     []byte
		n     uint64
		size  int
		e     api.Errno
		short bool
	}{
		{"nothing, nil", nil, 0, 0, api.ErrShort, false},
		{"nothing", []byte{}, 0, 0, api.ErrShort, false},
		{"0", []byte{0}, 0, 1, api.OK, true},
		{"127", []byte{127}, 127, 1, api.OK, true},
		{"128", []byte{0x80, 1}, 128, 2, api.OK, true},
		{"300, and more", []byte{0xAC, 2, 0xFF, 9}, 300, 2, api.OK, true},
		{"0 of two bytes", []byte{0x80, 0}, 0, 2, api.OK, false},
		{"1 of three bytes", []byte{0x81, 0x80, 0}, 1, 3, api.OK, false},
		{"0 of ten bytes", long(0), 0, 10, api.OK, false},
		{"2^63", long(1), 1 << 63, 10, api.OK, true},
		{"2^63, and more", long(1, 0xFF), 1 << 63, 10, api.OK, true},
		{"the greatest", append(bytes.Repeat([]byte{0xFF}, 9), 1), math.MaxUint64, 10, api.OK, true},
		{"nine bytes", append(bytes.Repeat([]byte{0xFF}, 8), 0x7F), math.MaxInt64, 9, api.OK, true},
		{"one that goes on", []byte{0x80}, 0, 0, api.ErrShort, false},
		{"255 that goes on", []byte{0xFF}, 0, 0, api.ErrShort, false},
		{"nine that go on", long(), 0, 0, api.ErrShort, false},
		{"a tenth of 2", long(2), 0, 0, api.ErrRange, false},
		{"a tenth of 127", long(127), 0, 0, api.ErrRange, false},
		{"a tenth of 127, and more", long(127, 0), 0, 0, api.ErrRange, false},
		{"a tenth of 128", long(128), 0, 0, api.ErrLong, false},
		{"a tenth of 129", long(129), 0, 0, api.ErrLong, false},
		{"a tenth of 255", long(255), 0, 0, api.ErrLong, false},
		{"a tenth of 128, and 0", long(128, 0), 0, 0, api.ErrLong, false},
	} {
		n, size, e := varint.Get(c.b)
		if n != c.n || size != c.size || e != c.e {
			t.Errorf("Get of %s: %d, %d, %d, not %d, %d, %d", c.name, n, size, e, c.n, c.size, c.e)
		}
		if got := varint.Short(c.b); got != c.short {
			t.Errorf("Short of %s: %t", c.name, got)
		}
	}
}

func TestGetOfEachTenthByte(t *testing.T) { // P1.2
	for x := range 256 {
		want := api.OK
		if x >= 128 {
			want = api.ErrLong
		} else if x > 1 {
			want = api.ErrRange
		}
		if _, _, e := varint.Get(long(byte(x))); e != want {
			t.Errorf("a tenth byte of %d: %d, not %d", x, e, want)
		}
	}
}

func TestGetOfAllTwoBytes(t *testing.T) { // P1.2
	for x := range 256 {
		for y := range 256 {
			b := []byte{byte(x), byte(y)}
			n, size, e := varint.Get(b)
			want, k := binary.Uvarint(b)
			if k == 0 && (n != 0 || size != 0 || e != api.ErrShort) {
				t.Errorf("Get of % X: %d, %d, %d, not ErrShort", b, n, size, e)
			}
			if k > 0 && (n != want || size != k || e != api.OK) {
				t.Errorf("Get of % X: %d, %d, %d, not %d, %d", b, n, size, e, want, k)
			}
		}
	}
}

func TestGetReadsNothingBehindTheEnd(t *testing.T) { // P1.2, P3
	b := []byte{0x80, 0x80, 1}
	if n, size, e := varint.Get(b[:2]); n != 0 || size != 0 || e != api.ErrShort {
		t.Errorf("Get of a list cut off: %d, %d, %d", n, size, e)
	}
	if l, f := varint.All(b[:2]); len(l) != 0 || f != (api.Fault{Errno: api.ErrShort}) {
		t.Errorf("All of a list cut off: %v, %v", l, f)
	}
}

func TestZigAndZag(t *testing.T) { // P1.3
	for _, c := range []struct {
		n int64
		z uint64
	}{
		{0, 0}, {-1, 1}, {1, 2}, {-2, 3}, {2, 4}, {63, 126}, {-64, 127}, {64, 128},
		{math.MaxInt32, 1<<32 - 2}, {math.MinInt32, 1<<32 - 1},
		{math.MaxInt64, math.MaxUint64 - 1}, {math.MinInt64 + 1, math.MaxUint64 - 2}, {math.MinInt64, math.MaxUint64},
	} {
		if got := varint.Zig(c.n); got != c.z {
			t.Errorf("Zig(%d): %d, not %d", c.n, got, c.z)
		}
		if got := varint.Zag(c.z); got != c.n {
			t.Errorf("Zag(%d): %d, not %d", c.z, got, c.n)
		}
	}
}

func TestZagTurnsZigBack(t *testing.T) { // P1.3
	for _, n := range append(edges(), mixed(5000)...) {
		if got := varint.Zag(varint.Zig(int64(n))); got != int64(n) {
			t.Errorf("Zag of Zig(%d): %d", int64(n), got)
		}
		if got := varint.Zig(varint.Zag(n)); got != n {
			t.Errorf("Zig of Zag(%d): %d", n, got)
		}
	}
}

func TestAll(t *testing.T) { // P1.4
	for _, c := range []struct {
		name string
		b    []byte
		want []uint64
		f    api.Fault
	}{
		{"nothing, nil", nil, nil, api.Fault{}},
		{"nothing", []byte{}, nil, api.Fault{}},
		{"one", []byte{7}, []uint64{7}, api.Fault{}},
		{"three", []byte{0, 0xAC, 2, 127}, []uint64{0, 300, 127}, api.Fault{}},
		{"one of too many bytes", []byte{0x80, 0, 1}, []uint64{0, 1}, api.Fault{}},
		{"one that ends too soon", []byte{0xAC, 2, 1, 0x80}, nil, api.Fault{Errno: api.ErrShort, At: 3}},
		{"the first one ends too soon", []byte{0x80}, nil, api.Fault{Errno: api.ErrShort}},
		{"one too long", append([]byte{1, 2}, long(0x80)...), nil, api.Fault{Errno: api.ErrLong, At: 2}},
		{"one too great", append([]byte{0xAC, 2}, long(2)...), nil, api.Fault{Errno: api.ErrRange, At: 2}},
		{"the first of two that are wrong", append(long(2), 0x80), nil, api.Fault{Errno: api.ErrRange}},
	} {
		l, f := varint.All(c.b)
		if !slices.Equal(l, c.want) || f != c.f {
			t.Errorf("All of %s: %v, %v, not %v, %v", c.name, l, f, c.want, c.f)
		}
	}
}

func TestAllReadsWhatWasPut(t *testing.T) { // P1.4, P1.5
	var b []byte
	want := append(edges(), mixed(1000)...)
	for _, n := range want {
		b = append(b, varint.Put(n)...)
	}
	if l, f := varint.All(b); !slices.Equal(l, want) || f != (api.Fault{}) {
		t.Errorf("All of %d numbers: %d, %v", len(want), len(l), f)
	}
	if l, f := varint.All(append(b, 0xFF)); len(l) != 0 || f != (api.Fault{Errno: api.ErrShort, At: len(b)}) {
		t.Errorf("All with one that ends too soon: %d, %v", len(l), f)
	}
}

func TestReadAsWritten(t *testing.T) { // P1.5
	for _, n := range append(edges(), mixed(5000)...) {
		for _, behind := range [][]byte{nil, {0}, {0x80}, {0xFF, 0xFF}, long(0xFF)} {
			b := append(varint.Put(n), behind...)
			got, size, e := varint.Get(b)
			if got != n || size != varint.Size(n) || e != api.OK || !varint.Short(b) {
				t.Errorf("Get of Put(%d), and % X: %d, %d, %d", n, behind, got, size, e)
			}
		}
	}
}

func TestWhatIsShortIsWrittenAgain(t *testing.T) { // P1.5
	checked := 0
	for x := range 1 << 24 {
		b := []byte{byte(x), byte(x >> 8), byte(x >> 16)}
		n, size, e := varint.Get(b)
		if e != api.OK {
			continue
		}
		checked++
		if same := bytes.Equal(varint.Put(n), b[:size]); same != varint.Short(b) {
			t.Fatalf("% X: Short is %t, written again alike is %t", b, varint.Short(b), same)
		}
	}
	if checked == 0 {
		t.Error("nothing was read")
	}
}

func TestAGreaterNumberHasNoFewerBytes(t *testing.T) { // P1.5
	l := append(edges(), mixed(5000)...)
	slices.Sort(l)
	for i, n := range l[1:] {
		if varint.Size(n) < varint.Size(l[i]) || len(varint.Put(n)) < len(varint.Put(l[i])) {
			t.Errorf("%d has fewer bytes than %d", n, l[i])
		}
	}
}

func TestAnswersAreNewMemory(t *testing.T) { // P3, P5
	b := varint.Put(300)
	b[0], b[1] = 9, 9
	if got := varint.Put(300); string(got) != "\xAC\x02" {
		t.Errorf("Put behind a write to its answer: % X", got)
	}
	in := []byte{0xAC, 2, 1, 0x80}
	varint.Get(in)
	varint.Short(in)
	varint.All(in)
	l, _ := varint.All(in[:3])
	l[0] = 5
	if string(in) != "\xAC\x02\x01\x80" {
		t.Errorf("what was handed in is % X", in)
	}
	if again, _ := varint.All(in[:3]); !slices.Equal(again, []uint64{300, 1}) {
		t.Errorf("All behind a write to its answer: %v", again)
	}
}

// told is the error that the document's words give these bytes.
func told(b []byte) api.Errno {
	first := b[:min(len(b), 10)]
	end := slices.IndexFunc(first, func(x byte) bool { return x < 128 })
	switch {
	case end < 0 && len(first) < 10:
		return api.ErrShort
	case end < 0:
		return api.ErrLong
	case end == 9 && first[9] > 1:
		return api.ErrRange
	}
	return api.OK
}

// FuzzGet holds any bytes against the document's words, the library's reader, and what follows.
func FuzzGet(f *testing.F) {
	for _, b := range [][]byte{nil, {0}, {0x80}, {0xAC, 2}, {0x80, 0}, long(1), long(2), long(0x80), long(0xFF, 1)} {
		f.Add(b)
	}
	f.Fuzz(func(t *testing.T, b []byte) {
		n, size, e := varint.Get(b)
		if e != told(b) {
			t.Fatalf("Get of % X: %d, not %d", b, e, told(b))
		}
		want, k := binary.Uvarint(b)
		if e == api.OK && (n != want || size != k) || e != api.OK && (n != 0 || size != 0) {
			t.Fatalf("Get of % X: %d, %d", b, n, size)
		}
		l, at := varint.All(b)
		if at.At > len(b) || at.Errno != api.OK && (len(l) != 0 || told(b[at.At:]) != at.Errno) || at.Errno == api.OK && at.At != 0 {
			t.Fatalf("All of % X: %v", b, at)
		}
	})
}
