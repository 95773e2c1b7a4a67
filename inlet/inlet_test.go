package inlet_test

import (
	"bytes"
	"math"
	"testing"

	"rescript/api"
	"rescript/inlet"
	"rescript/tag"
	"rescript/varint"
)

// got is all that a read answers: the number or the field's, the wire type, the bytes, and the fault.
type got struct {
	n    uint64
	wire uint8
	b    string
	f    api.Fault
}

// read is one read of a reader.
type read func(*inlet.In) got

func number(i *inlet.In) got {
	n, f := i.Varint()
	return got{n: n, f: f}
}

func field(i *inlet.In) got {
	num, wire, f := i.Tag()
	return got{n: uint64(num), wire: wire, f: f}
}

func four(i *inlet.In) got {
	n, f := i.Four()
	return got{n: uint64(n), f: f}
}

func eight(i *inlet.In) got {
	n, f := i.Eight()
	return got{n: n, f: f}
}

func counted(most int) read {
	return func(i *inlet.In) got {
		b, f := i.Bytes(most)
		return got{b: string(b), f: f}
	}
}

func take(n int) read {
	return func(i *inlet.In) got {
		b, f := i.Take(n)
		return got{b: string(b), f: f}
	}
}

// long is nine bytes that go on, and those handed in.
func long(behind ...byte) []byte { return append(bytes.Repeat([]byte{0x80}, 9), behind...) }

// reads is one read of each kind, some at their edges.
func reads() map[string]read {
	return map[string]read{
		"Varint": number, "Tag": field, "Four": four, "Eight": eight,
		"Bytes(9)": counted(9), "Bytes(0)": counted(0), "Bytes(-1)": counted(-1), "Bytes(MaxInt)": counted(math.MaxInt), "Bytes(MinInt)": counted(math.MinInt),
		"Take(0)": take(0), "Take(3)": take(3), "Take(-1)": take(-1), "Take(MaxInt)": take(math.MaxInt), "Take(MinInt)": take(math.MinInt),
	}
}

func TestNew(t *testing.T) { // P4.1
	for _, b := range [][]byte{nil, {}, {1}, {1, 2, 3}} {
		i := inlet.New(b)
		if i == nil || i.At() != 0 || i.Left() != len(b) {
			t.Errorf("New of % X: %d, %d", b, i.At(), i.Left())
		}
	}
}

func TestNil(t *testing.T) { // P4.1, P1
	var none *inlet.In
	for name, do := range reads() {
		if g := do(none); g != (got{f: api.Fault{Errno: api.ErrShort}}) {
			t.Errorf("%s of nil: %v", name, g)
		}
	}
	if none.At() != 0 || none.Left() != 0 {
		t.Errorf("nil: %d, %d", none.At(), none.Left())
	}
}

// TestReads holds one read against what the document asks: of these bytes, two others being ahead of them.
func TestReads(t *testing.T) { // P4.2, P4.3
	for _, c := range []struct {
		name string
		b    []byte
		do   read
		want got
		size int
	}{
		{"a number", []byte{0xAC, 2, 9}, number, got{n: 300}, 2},
		{"a number of more bytes than it needs", []byte{0x80, 0, 9}, number, got{}, 2},
		{"the greatest number", append(bytes.Repeat([]byte{0xFF}, 9), 1), number, got{n: math.MaxUint64}, 10},
		{"no number", nil, number, got{f: api.Fault{Errno: api.ErrShort}}, 0},
		{"a number that ends too soon", []byte{0x80}, number, got{f: api.Fault{Errno: api.ErrShort}}, 0},
		{"a number too long", long(0x80), number, got{f: api.Fault{Errno: api.ErrLong}}, 0},
		{"a number too great", long(2), number, got{f: api.Fault{Errno: api.ErrRange}}, 0},

		{"a tag", []byte{21, 9}, field, got{n: 2, wire: tag.Four}, 1},
		{"a tag of two bytes", []byte{0x82, 1}, field, got{n: 16, wire: tag.Bytes}, 2},
		{"a tag of more bytes than it needs", []byte{0x88, 0x80, 0}, field, got{n: 1, wire: tag.Varint}, 3},
		{"the greatest tag", []byte{0xFD, 0xFF, 0xFF, 0xFF, 0x0F}, field, got{n: tag.Most, wire: tag.Four}, 5},
		{"a tag of the field 0", []byte{2, 9}, field, got{f: api.Fault{Errno: api.ErrRange}}, 0},
		{"a tag of a field too great", []byte{0x80, 0x80, 0x80, 0x80, 0x10}, field, got{f: api.Fault{Errno: api.ErrRange}}, 0},
		{"a tag of no wire type", []byte{11, 9}, field, got{f: api.Fault{Errno: api.ErrKind}}, 0},
		{"no tag", nil, field, got{f: api.Fault{Errno: api.ErrShort}}, 0},
		{"a tag that ends too soon", []byte{0x80}, field, got{f: api.Fault{Errno: api.ErrShort}}, 0},
		{"a tag too long", long(0xFF), field, got{f: api.Fault{Errno: api.ErrLong}}, 0},
		{"a tag too great", long(2), field, got{f: api.Fault{Errno: api.ErrRange}}, 0},

		{"four bytes", []byte{1, 2, 3, 0xF4}, four, got{n: 0xF4030201}, 4},
		{"four bytes and more", []byte{2, 1, 0, 0, 9}, four, got{n: 258}, 4},
		{"three bytes of four", []byte{1, 2, 3}, four, got{f: api.Fault{Errno: api.ErrShort}}, 0},
		{"none of four", nil, four, got{f: api.Fault{Errno: api.ErrShort}}, 0},
		{"eight bytes", []byte{1, 2, 3, 4, 5, 6, 7, 0xF8}, eight, got{n: 0xF807060504030201}, 8},
		{"eight bytes and more", []byte{2, 1, 0, 0, 0, 0, 0, 0, 9}, eight, got{n: 258}, 8},
		{"seven bytes of eight", []byte{1, 2, 3, 4, 5, 6, 7}, eight, got{f: api.Fault{Errno: api.ErrShort}}, 0},
		{"none of eight", nil, eight, got{f: api.Fault{Errno: api.ErrShort}}, 0},

		{"Take of none", []byte{1}, take(0), got{}, 0},
		{"Take of none of none", nil, take(0), got{}, 0},
		{"Take of some", []byte{1, 2, 3}, take(2), got{b: "\x01\x02"}, 2},
		{"Take of all", []byte{1, 2, 3}, take(3), got{b: "\x01\x02\x03"}, 3},
		{"Take of one more", []byte{1, 2, 3}, take(4), got{f: api.Fault{Errno: api.ErrShort}}, 0},
		{"Take of the most", []byte{1, 2, 3}, take(math.MaxInt), got{f: api.Fault{Errno: api.ErrShort}}, 0},
		{"Take of fewer than none", []byte{1, 2, 3}, take(-1), got{f: api.Fault{Errno: api.ErrRange}}, 0},
		{"Take of the fewest", nil, take(math.MinInt), got{f: api.Fault{Errno: api.ErrRange}}, 0},

		{"Bytes", []byte{3, 'a', 'b', 'c'}, counted(9), got{b: "abc"}, 4},
		{"Bytes, and more", []byte{3, 'a', 'b', 'c', 'd'}, counted(9), got{b: "abc"}, 4},
		{"Bytes of as many as may be", []byte{3, 'a', 'b', 'c'}, counted(3), got{b: "abc"}, 4},
		{"Bytes of one too many", []byte{3, 'a', 'b', 'c'}, counted(2), got{f: api.Fault{Errno: api.ErrLong}}, 0},
		{"Bytes of none", []byte{0, 'a'}, counted(0), got{}, 1},
		{"Bytes of none, none may be", []byte{0, 'a'}, counted(-1), got{f: api.Fault{Errno: api.ErrLong}}, 0},
		{"Bytes, the fewest may be", []byte{0, 'a'}, counted(math.MinInt), got{f: api.Fault{Errno: api.ErrLong}}, 0},
		{"Bytes, a length of more bytes than it needs", []byte{0x82, 0, 'a', 'b'}, counted(2), got{b: "ab"}, 4},
		{"Bytes of a length of two bytes", append([]byte{0x80, 1}, make([]byte, 128)...), counted(128), got{b: string(make([]byte, 128))}, 130},
		{"Bytes that end too soon", []byte{3, 'a', 'b'}, counted(3), got{f: api.Fault{Errno: api.ErrShort}}, 0},
		{"Bytes that end too soon, and are too many", []byte{3, 'a', 'b'}, counted(2), got{f: api.Fault{Errno: api.ErrLong}}, 0},
		{"Bytes of a length alone", []byte{1}, counted(math.MaxInt), got{f: api.Fault{Errno: api.ErrShort}}, 0},
		{"Bytes of the greatest int", varint.Put(math.MaxInt), counted(math.MaxInt), got{f: api.Fault{Errno: api.ErrShort}}, 0},
		{"Bytes of more than an int", varint.Put(math.MaxInt + 1), counted(math.MaxInt), got{f: api.Fault{Errno: api.ErrLong}}, 0},
		{"Bytes of the greatest number", varint.Put(math.MaxUint64), counted(math.MaxInt), got{f: api.Fault{Errno: api.ErrLong}}, 0},
		{"Bytes of the greatest number, none may be", varint.Put(math.MaxUint64), counted(-1), got{f: api.Fault{Errno: api.ErrLong}}, 0},
		{"Bytes without a length", nil, counted(9), got{f: api.Fault{Errno: api.ErrShort}}, 0},
		{"Bytes without a length, none may be", nil, counted(-1), got{f: api.Fault{Errno: api.ErrShort}}, 0},
		{"Bytes, a length that ends too soon", []byte{0x83}, counted(-1), got{f: api.Fault{Errno: api.ErrShort}}, 0},
		{"Bytes, a length too long", long(0x80), counted(-1), got{f: api.Fault{Errno: api.ErrLong}}, 0},
		{"Bytes, a length too great", long(2), counted(-1), got{f: api.Fault{Errno: api.ErrRange}}, 0},
	} {
		for _, ahead := range []int{0, 2} {
			i := inlet.New(append(make([]byte, ahead), c.b...))
			i.Take(ahead)
			want := c.want
			if want.f != (api.Fault{}) {
				want.f.At = ahead
			}
			if g := c.do(i); g != want {
				t.Errorf("%s, behind %d: %v, not %v", c.name, ahead, g, want)
			}
			if i.At() != ahead+c.size || i.Left() != len(c.b)-c.size {
				t.Errorf("%s, behind %d: at %d, %d left", c.name, ahead, i.At(), i.Left())
			}
		}
	}
}

func TestExample(t *testing.T) { // P4.3
	b := []byte{3, 'a', 'b', 'c'}
	if g := counted(9)(inlet.New(b)); g != (got{b: "abc"}) {
		t.Errorf("Bytes(9): %v", g)
	}
	i := inlet.New(b)
	if g := counted(2)(i); g != (got{f: api.Fault{Errno: api.ErrLong}}) || i.At() != 0 {
		t.Errorf("Bytes(2): %v, at %d", g, i.At())
	}
	if g := counted(9)(i); g != (got{b: "abc"}) || i.At() != 4 {
		t.Errorf("Bytes(9) behind an error: %v, at %d", g, i.At())
	}
}

func TestAnErrorChangesNothing(t *testing.T) { // P4.2, P4.3, P2
	for _, b := range [][]byte{{0x80}, {0xFF, 0xFF}, long(2), long(0x80), {11}, {2}, {9, 1, 2}} {
		i := inlet.New(append([]byte{7}, b...))
		i.Varint()
		for name, do := range reads() {
			before := i.At()
			g := do(i)
			if g.f == (api.Fault{}) {
				i = inlet.New(append([]byte{7}, b...))
				i.Varint()
				continue
			}
			if g != (got{f: api.Fault{Errno: g.f.Errno, At: 1}}) || before != 1 || i.At() != 1 || i.Left() != len(b) {
				t.Errorf("%s of % X: %v, at %d, %d left", name, b, g, i.At(), i.Left())
			}
		}
	}
}

func TestReadAsWritten(t *testing.T) { // P4.4
	var b []byte
	b = append(b, varint.Put(300)...)
	b = append(b, tag.Head(5, tag.Bytes)...)
	b = append(b, varint.Put(4)...)
	b = append(b, "text"...)
	b = append(b, tag.Fix32(1<<31)...)
	b = append(b, tag.Fix64(1<<63)...)
	b = append(b, "end"...)
	i := inlet.New(b)
	for k, c := range []struct {
		do   read
		want got
		at   int
	}{
		{number, got{n: 300}, 2},
		{field, got{n: 5, wire: tag.Bytes}, 3},
		{counted(api.MaxText), got{b: "text"}, 8},
		{four, got{n: 1 << 31}, 12},
		{eight, got{n: 1 << 63}, 20},
		{take(2), got{b: "en"}, 22},
		{take(2), got{f: api.Fault{Errno: api.ErrShort, At: 22}}, 22},
		{take(1), got{b: "d"}, 23},
		{take(0), got{}, 23},
		{number, got{f: api.Fault{Errno: api.ErrShort, At: 23}}, 23},
	} {
		if g := c.do(i); g != c.want || i.At() != c.at || i.At()+i.Left() != len(b) {
			t.Errorf("read %d: %v, at %d, %d left", k, g, i.At(), i.Left())
		}
	}
}

func TestNothingIsReadBehindTheEnd(t *testing.T) { // P4.2, P4.3, P3
	room := []byte{0x80, 0x80, 1, 2, 3, 4, 5, 6, 7}
	for _, c := range []struct {
		name string
		keep int
		do   read
	}{
		{"Varint", 2, number}, {"Tag", 2, field}, {"Four", 3, four}, {"Eight", 7, eight}, {"Take", 3, take(4)}, {"Bytes", 2, counted(9)},
	} {
		i := inlet.New(room[:c.keep])
		if g := c.do(i); g != (got{f: api.Fault{Errno: api.ErrShort}}) || i.Left() != c.keep {
			t.Errorf("%s of a list cut off: %v, %d left", c.name, g, i.Left())
		}
	}
}

func TestAnswersAreNewMemory(t *testing.T) { // P4.3, P3
	in := []byte{2, 'a', 'b', 'c', 'd', 'e', 'f'}
	i := inlet.New(in)
	first, _ := i.Bytes(9)
	second, _ := i.Take(2)
	clear(first)
	first = append(first, "xyz"...)
	second = append(second, "uvw"...)
	if string(in) != "\x02abcdef" {
		t.Errorf("what was handed in is %q", in)
	}
	if string(first) != "\x00\x00xyz" || string(second) != "cduvw" {
		t.Errorf("answers that grew: %q, %q", first, second)
	}
	if g := take(2)(i); g != (got{b: "ef"}) {
		t.Errorf("Take behind writes to answers: %v", g)
	}
	if again, _ := inlet.New(in).Bytes(9); string(again) != "ab" {
		t.Errorf("Bytes of another reader: %q", again)
	}
}

func TestTheReaderHasItsOwnBytes(t *testing.T) { // P4.4, P3
	in := append(make([]byte, 0, 64), 3, 'a', 'b', 'c', 'd')
	i := inlet.New(in)
	clear(in)
	if g := counted(9)(i); g != (got{b: "abc"}) {
		t.Errorf("Bytes behind a write to what was handed in: %v", g)
	}
	b, _ := i.Take(1)
	in[3] = 'x'
	if string(b) != "d" {
		t.Errorf("an answer behind a write to what was handed in: %q", b)
	}
}

func TestReadersStandAlone(t *testing.T) { // P5
	b := []byte{1, 2, 3}
	one, other := inlet.New(b), inlet.New(b)
	one.Take(2)
	if other.At() != 0 || other.Left() != 3 || one.At() != 2 || one.Left() != 1 {
		t.Errorf("two readers: %d, %d", one.At(), other.At())
	}
	if g := number(other); g != (got{n: 1}) {
		t.Errorf("the other one: %v", g)
	}
}

// told is what the document's words give a read of these bytes, and how many it reads.
func told(b []byte, what byte, most int) (got, int) {
	n, size, e := varint.Get(b)
	switch what % 6 {
	case 0:
		return got{n: n, f: api.Fault{Errno: e}}, size
	case 1:
		if e != api.OK {
			return got{f: api.Fault{Errno: e}}, 0
		}
		num, wire, e := tag.Split(n)
		if e != api.OK {
			return got{f: api.Fault{Errno: e}}, 0
		}
		return got{n: uint64(num), wire: wire}, size
	case 2:
		if n, e := tag.Get32(b); e == api.OK {
			return got{n: uint64(n)}, 4
		}
	case 3:
		if n, e := tag.Get64(b); e == api.OK {
			return got{n: n}, 8
		}
	case 4:
		switch {
		case most < 0:
			return got{f: api.Fault{Errno: api.ErrRange}}, 0
		case most <= len(b):
			return got{b: string(b[:most])}, most
		}
	default:
		switch {
		case e != api.OK:
			return got{f: api.Fault{Errno: e}}, 0
		case most < 0 || n > uint64(most):
			return got{f: api.Fault{Errno: api.ErrLong}}, 0
		case n <= uint64(len(b)-size):
			return got{b: string(b[size : size+int(n)])}, size + int(n)
		}
	}
	return got{f: api.Fault{Errno: api.ErrShort}}, 0
}

// FuzzIn holds reads of any bytes, in any order, against the document's words.
func FuzzIn(f *testing.F) {
	f.Add([]byte{0xAC, 2, 21, 1, 2, 3, 4, 3, 'a', 'b', 'c'}, []byte{0, 1, 2, 5, 9})
	f.Add(long(2), []byte{0, 1, 5, 4})
	f.Add([]byte{0x80}, []byte{0, 4, 5, 0x85, 0x84})
	f.Add([]byte("\x08\x05\x12\x01abcdefgh"), []byte{1, 0, 1, 5, 3})
	f.Fuzz(func(t *testing.T, b, order []byte) {
		i, at := inlet.New(b), 0
		for _, o := range order {
			most := int(int8(o)) / 6
			do := []read{number, field, four, eight, take(most), counted(most)}[o%6]
			want, size := told(b[at:], o, most)
			if want.f.Errno != api.OK {
				want.f.At = at
			}
			at += size
			if g := do(i); g != want || i.At() != at || i.Left() != len(b)-at {
				t.Fatalf("read %d(%d) of % X: %v, not %v; at %d, not %d", o%6, most, b, g, want, i.At(), at)
			}
		}
	})
}
