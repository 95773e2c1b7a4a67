package skip_test

import (
	"bytes"
	"math"
	"slices"
	"strings"
	"testing"

	"rescript/api"
	"rescript/inlet"
	"rescript/outlet"
	"rescript/skip"
	"rescript/tag"
	"rescript/varint"
)

// longest is a field of as many bytes as may be: its tag and its length have ten bytes each.
func longest() []byte {
	return []byte("\x8A\x80\x80\x80\x80\x80\x80\x80\x80\x00" + "\x80\xC0\x80\x80\x80\x80\x80\x80\x80\x00" + strings.Repeat("p", api.MaxPayload))
}

// num, eight, text and four are fields without a place.
func num(k int, n uint64) api.Field      { return api.Field{Num: k, Wire: tag.Varint, N: n} }
func eight(k int, n uint64) api.Field    { return api.Field{Num: k, Wire: tag.Eight, N: n} }
func text(k int, s string) api.Field     { return api.Field{Num: k, Wire: tag.Bytes, Bytes: []byte(s)} }
func four(k int, n uint64) api.Field     { return api.Field{Num: k, Wire: tag.Four, N: n} }
func at(f api.Field, a int) api.Field    { f.At = a; return f }
func fault(e api.Errno, a int) api.Fault { return api.Fault{Errno: e, At: a} }

// alike tells whether two fields are, a list that is nil being one that is empty.
func alike(a, b api.Field) bool {
	return a.Num == b.Num && a.Wire == b.Wire && a.N == b.N && a.At == b.At && bytes.Equal(a.Bytes, b.Bytes)
}

// samePlace is fields whose places are all 0.
func samePlace(l []api.Field) []api.Field {
	out := slices.Clone(l)
	for i := range out {
		out[i].At = 0
	}
	return out
}

// put is fields' bytes.
func put(t *testing.T, l ...api.Field) []byte {
	t.Helper()
	b, f := skip.Put(l)
	if f != (api.Fault{}) {
		t.Fatalf("Put of %v: %v", l, f)
	}
	return b
}

// broken is bytes of a field that can't be read, its error, and its place behind the field's beginning.
var broken = []struct {
	name string
	b    string
	e    api.Errno
	at   int
}{
	{"a tag that ends too soon", "\x80", api.ErrShort, 0},
	{"a tag too long", strings.Repeat("\x80", 11), api.ErrLong, 0},
	{"a tag too great for a number", strings.Repeat("\xFF", 9) + "\x02", api.ErrRange, 0},
	{"a tag of the field 0", "\x02\x00", api.ErrRange, 0},
	{"a tag of a field too great", "\x80\x80\x80\x80\x10\x00", api.ErrRange, 0},
	{"a tag of the wire type 3", "\x0B\x00", api.ErrKind, 0},
	{"a tag of the wire type 4", "\x0C\x00", api.ErrKind, 0},
	{"a tag of the wire type 6", "\x0E\x00", api.ErrKind, 0},
	{"a tag of the wire type 7", "\x0F\x00", api.ErrKind, 0},
	{"a Varint without a number", "\x08", api.ErrShort, 1},
	{"a Varint that ends too soon", "\x80\x01\xFF\xFF", api.ErrShort, 2},
	{"a Varint too long", "\x08" + strings.Repeat("\xFF", 10) + "\x01", api.ErrLong, 1},
	{"a Varint too great", "\x08" + strings.Repeat("\xFF", 9) + "\x02", api.ErrRange, 1},
	{"Eight without a number", "\x09", api.ErrShort, 1},
	{"Eight of seven bytes", "\x09\x01\x02\x03\x04\x05\x06\x07", api.ErrShort, 1},
	{"Four without a number", "\x0D", api.ErrShort, 1},
	{"Four of three bytes", "\x85\x01\x01\x02\x03", api.ErrShort, 2},
	{"Bytes without a length", "\x0A", api.ErrShort, 1},
	{"Bytes of a length that ends too soon", "\x0A\x81", api.ErrShort, 1},
	{"Bytes of a length too long", "\x0A" + strings.Repeat("\x80", 10), api.ErrLong, 1},
	{"Bytes of a length too great for a number", "\x0A" + strings.Repeat("\x80", 9) + "\x02", api.ErrRange, 1},
	{"Bytes that end too soon", "\x82\x01\x03ab", api.ErrShort, 2},
	{"Bytes of a length alone", "\x0A\x01", api.ErrShort, 1},
	{"Bytes of the most that may be, without them", "\x0A\x80\x40", api.ErrShort, 1},
	{"Bytes of the most that may be, but one", "\x0A\x80\x40" + strings.Repeat("p", api.MaxPayload-1), api.ErrShort, 1},
	{"Bytes of one too many, without them", "\x0A\x81\x40", api.ErrLong, 1},
	{"Bytes of one too many", "\x0A\x81\x40" + strings.Repeat("p", api.MaxPayload+1), api.ErrLong, 1},
	{"Bytes of the greatest number", "\x0A" + strings.Repeat("\xFF", 9) + "\x01", api.ErrLong, 1},
}

// whole is bytes of one field that can be read, and the field.
var whole = []struct {
	name string
	b    string
	want api.Field
}{
	{"a Varint", "\x08\x05", num(1, 5)},
	{"a Varint of the greatest number", "\x08" + strings.Repeat("\xFF", 9) + "\x01", num(1, math.MaxUint64)},
	{"a Varint of more bytes than it needs", "\x08\x85\x80\x00", num(1, 5)},
	{"a tag of more bytes than it needs", "\x88\x80\x00\x05", num(1, 5)},
	{"the greatest field", "\xF8\xFF\xFF\xFF\x0F\x00", num(tag.Most, 0)},
	{"Eight", "\x11\x02\x01\x00\x00\x00\x00\x00\xF0", eight(2, 0xF000000000000102)},
	{"Four", "\x15\x02\x01\x00\xF0", four(2, 0xF0000102)},
	{"Bytes", "\x12\x01a", text(2, "a")},
	{"Bytes of none", "\x12\x00", text(2, "")},
	{"Bytes of no text", "\x12\x02\xC0\x80", text(2, "\xC0\x80")},
	{"Bytes that are fields themselves", "\x12\x02\x08\x05", text(2, "\x08\x05")},
	{"Bytes of a length of more bytes than it needs", "\x12\x81\x80\x00a", text(2, "a")},
	{"Bytes of the most that may be", "\x12\x80\x40" + strings.Repeat("p", api.MaxPayload), text(2, strings.Repeat("p", api.MaxPayload))},
	{"the longest", string(longest()), text(1, strings.Repeat("p", api.MaxPayload))},
}

func TestFields(t *testing.T) { // P6.1
	for _, b := range [][]byte{nil, {}} {
		if l, f := skip.Fields(b); len(l) != 0 || f != (api.Fault{}) {
			t.Errorf("Fields of nothing: %v, %v", l, f)
		}
	}
	for _, c := range whole {
		for _, ahead := range []string{"", "\x78\x00", "\x7A\x01\x08\x79abcdefgh"} {
			for _, behind := range []string{"", "\x08\x00"} {
				before, _ := skip.Fields([]byte(ahead))
				want := append(slices.Clone(before), at(c.want, len(ahead)))
				if behind != "" {
					want = append(want, at(num(1, 0), len(ahead)+len(c.b)))
				}
				l, f := skip.Fields([]byte(ahead + c.b + behind))
				if !slices.EqualFunc(l, want, alike) || f != (api.Fault{}) {
					t.Errorf("Fields of % X, %s, % X: %d fields, %v", ahead, c.name, behind, len(l), f)
				}
			}
		}
	}
}

func TestFieldsOfWhatCannotBeRead(t *testing.T) { // P6.1
	for _, c := range broken {
		for _, ahead := range []string{"", "\x78\x00", "\x7A\x01\x08\x79abcdefgh"} {
			l, f := skip.Fields([]byte(ahead + c.b))
			if want := fault(c.e, len(ahead)+c.at); len(l) != 0 || f != want {
				t.Errorf("Fields of % X, and %s: %d fields, %v, not %v", ahead, c.name, len(l), f, want)
			}
		}
	}
	if l, f := skip.Fields([]byte("\x08\x05\x0B\x02")); len(l) != 0 || f != fault(api.ErrKind, 2) {
		t.Errorf("the first of two that are wrong: %v, %v", l, f)
	}
}

func TestPlacesAreTheReaders(t *testing.T) { // P6.1
	for _, c := range broken {
		i := inlet.New([]byte(c.b))
		_, wire, f := i.Tag()
		if f.Errno == api.OK {
			switch wire {
			case tag.Varint:
				_, f = i.Varint()
			case tag.Eight:
				_, f = i.Eight()
			case tag.Bytes:
				_, f = i.Bytes(api.MaxPayload)
			case tag.Four:
				_, f = i.Four()
			}
		}
		if _, g := skip.Fields([]byte(c.b)); g != f {
			t.Errorf("%s: %v, the reader's is %v", c.name, g, f)
		}
	}
}

func TestExample(t *testing.T) { // P6.1
	l, f := skip.Fields([]byte{8, 5, 0x12, 1, 0x61})
	if !slices.EqualFunc(l, []api.Field{num(1, 5), at(text(2, "a"), 2)}, alike) || f != (api.Fault{}) {
		t.Errorf("Fields: %v, %v", l, f)
	}
}

func TestAFieldHasWhatItsWireTypeHas(t *testing.T) { // P6.1, P2
	l, _ := skip.Fields([]byte("\x0A\x01a\x10\x07\x1D\x01\x00\x00\x00\x21\x01\x00\x00\x00\x00\x00\x00\x00"))
	if len(l) != 4 || l[0].N != 0 || len(l[1].Bytes) != 0 || len(l[2].Bytes) != 0 || len(l[3].Bytes) != 0 {
		t.Errorf("Fields: %v", l)
	}
}

func TestManyFields(t *testing.T) { // P6.1, P6.2, P6.3
	var want []api.Field
	for k := range 300000 {
		want = append(want, []api.Field{num(k%5+1, uint64(k)), text(7, "ab"), four(8, 1), eight(9, 2)}[k%4])
	}
	b := put(t, want...)
	l, f := skip.Fields(b)
	if f != (api.Fault{}) || !slices.EqualFunc(samePlace(l), want, alike) {
		t.Fatalf("Fields of many: %d, %v", len(l), f)
	}
	for k, x := range l[:2000] {
		if end, f := skip.End(b, x.At); end != l[k+1].At || f != (api.Fault{}) {
			t.Fatalf("End of the field %d: %d, %v, not %d", k, end, f, l[k+1].At)
		}
	}
}

func TestEnd(t *testing.T) { // P6.2
	for _, c := range whole {
		for _, ahead := range []string{"", "\x0B", "\x80\x80abc"} {
			for _, behind := range []string{"", "\x0B", "\x80", strings.Repeat("\xFF", 9000)} {
				end, f := skip.End([]byte(ahead+c.b+behind), len(ahead))
				if end != len(ahead)+len(c.b) || f != (api.Fault{}) {
					t.Errorf("End of %s, at %d: %d, %v", c.name, len(ahead), end, f)
				}
			}
		}
	}
}

func TestEndOfWhatCannotBeRead(t *testing.T) { // P6.2
	for _, c := range broken {
		for _, ahead := range []string{"", "\x0B", "\x80\x80abc"} {
			end, f := skip.End([]byte(ahead+c.b), len(ahead))
			if want := fault(c.e, len(ahead)+c.at); end != 0 || f != want {
				t.Errorf("End of %s, at %d: %d, %v, not %v", c.name, len(ahead), end, f, want)
			}
		}
	}
}

func TestEndOfNoPlace(t *testing.T) { // P6.2
	for _, b := range []string{"", "\x08\x05", "\x0B"} {
		for _, a := range []int{-1, math.MinInt, len(b), len(b) + 1, math.MaxInt} {
			if end, f := skip.End([]byte(b), a); end != 0 || f != fault(api.ErrRange, 0) {
				t.Errorf("End of % X at %d: %d, %v", b, a, end, f)
			}
		}
	}
	if end, f := skip.End(nil, 0); end != 0 || f != fault(api.ErrRange, 0) {
		t.Errorf("End of nil: %d, %v", end, f)
	}
}

func TestEndWithinAField(t *testing.T) { // P6.2
	b := []byte{0x0A, 2, 8, 5}
	for a, want := range []int{4, 0, 4, 0} {
		end, f := skip.End(b, a)
		if end != want || (want == 0) != (f.Errno != api.OK) {
			t.Errorf("End at %d: %d, %v", a, end, f)
		}
	}
}

func TestPut(t *testing.T) { // P6.3
	for _, c := range []struct {
		name string
		l    []api.Field
		want string
	}{
		{"nil", nil, ""},
		{"none", []api.Field{}, ""},
		{"a Varint", []api.Field{num(1, 300)}, "\x08\xAC\x02"},
		{"a Varint of the greatest number", []api.Field{num(1, math.MaxUint64)}, "\x08" + strings.Repeat("\xFF", 9) + "\x01"},
		{"Eight", []api.Field{eight(1, 258)}, "\x09\x02\x01\x00\x00\x00\x00\x00\x00"},
		{"Four", []api.Field{four(1, 258)}, "\x0D\x02\x01\x00\x00"},
		{"Four of more than 32 bits", []api.Field{four(1, 0xFEDCBA9800000102)}, "\x0D\x02\x01\x00\x00"},
		{"Bytes", []api.Field{text(1, "abc")}, "\x0A\x03abc"},
		{"Bytes of none", []api.Field{text(1, "")}, "\x0A\x00"},
		{"Bytes that are nil", []api.Field{{Num: 1, Wire: tag.Bytes}}, "\x0A\x00"},
		{"Bytes of a length of two bytes", []api.Field{text(1, strings.Repeat("p", 128))}, "\x0A\x80\x01" + strings.Repeat("p", 128)},
		{"Bytes of the most that may be", []api.Field{text(1, strings.Repeat("p", api.MaxPayload))}, "\x0A\x80\x40" + strings.Repeat("p", api.MaxPayload)},
		{"the greatest field", []api.Field{num(tag.Most, 0)}, "\xF8\xFF\xFF\xFF\x0F\x00"},
		{"in order", []api.Field{num(2, 1), num(1, 1), num(2, 1), text(1, "a")}, "\x10\x01\x08\x01\x10\x01\x0A\x01a"},
		{"places are not looked at", []api.Field{at(num(1, 5), 99), at(num(1, 5), -1)}, "\x08\x05\x08\x05"},
		{"Bytes of a Varint", []api.Field{{Num: 1, N: 5, Bytes: []byte("abc")}}, "\x08\x05"},
		{"too many Bytes of a Varint", []api.Field{{Num: 1, N: 5, Bytes: make([]byte, api.MaxPayload+1)}}, "\x08\x05"},
		{"too many Bytes of Eight", []api.Field{{Num: 1, Wire: tag.Eight, Bytes: make([]byte, api.MaxPayload+1)}}, "\x09\x00\x00\x00\x00\x00\x00\x00\x00"},
		{"too many Bytes of Four", []api.Field{{Num: 1, Wire: tag.Four, Bytes: make([]byte, api.MaxPayload+1)}}, "\x0D\x00\x00\x00\x00"},
		{"a number of Bytes", []api.Field{{Num: 1, Wire: tag.Bytes, N: math.MaxUint64, Bytes: []byte("a")}}, "\x0A\x01a"},
	} {
		if b, f := skip.Put(c.l); string(b) != c.want || f != (api.Fault{}) {
			t.Errorf("Put of %s: % X, %v", c.name, b, f)
		}
	}
}

func TestPutOfWhatIsNoField(t *testing.T) { // P6.3
	long := api.Field{Num: 1, Wire: tag.Bytes, Bytes: make([]byte, api.MaxPayload+1)}
	for _, c := range []struct {
		name string
		l    []api.Field
		f    api.Fault
	}{
		{"the field 0", []api.Field{num(0, 1)}, fault(api.ErrRange, 0)},
		{"a field below 0", []api.Field{num(1, 1), num(-1, 1)}, fault(api.ErrRange, 1)},
		{"the least field", []api.Field{num(math.MinInt, 1)}, fault(api.ErrRange, 0)},
		{"a field too great", []api.Field{num(1, 1), num(1, 1), num(tag.Most+1, 1)}, fault(api.ErrRange, 2)},
		{"the greatest int", []api.Field{num(math.MaxInt, 1)}, fault(api.ErrRange, 0)},
		{"the wire type 3", []api.Field{num(1, 1), {Num: 1, Wire: 3}}, fault(api.ErrKind, 1)},
		{"the wire type 8", []api.Field{{Num: 1, Wire: 8}}, fault(api.ErrKind, 0)},
		{"the wire type 255", []api.Field{{Num: 1, Wire: 255}}, fault(api.ErrKind, 0)},
		{"the field 0, of no wire type", []api.Field{{Num: 0, Wire: 3}}, fault(api.ErrRange, 0)},
		{"too many Bytes", []api.Field{num(1, 1), long, num(1, 1)}, fault(api.ErrLong, 1)},
		{"too many Bytes of the field 0", []api.Field{{Wire: tag.Bytes, Bytes: long.Bytes}}, fault(api.ErrRange, 0)},
		{"too many Bytes of no wire type", []api.Field{{Num: 1, Wire: 6, Bytes: long.Bytes}}, fault(api.ErrKind, 0)},
		{"too many Bytes ahead of no field", []api.Field{long, num(0, 1)}, fault(api.ErrLong, 0)},
		{"no field ahead of too many Bytes", []api.Field{num(1, 1), {Num: 1, Wire: 7}, long}, fault(api.ErrKind, 1)},
		{"a zero field", []api.Field{num(1, 1), {}}, fault(api.ErrRange, 1)},
	} {
		if b, f := skip.Put(c.l); len(b) != 0 || f != c.f {
			t.Errorf("Put of %s: % X, %v, not %v", c.name, b, f, c.f)
		}
	}
}

func TestPutOfMoreThanAWriterHasRoomFor(t *testing.T) { // P6.3
	l := slices.Repeat([]api.Field{text(1, strings.Repeat("p", api.MaxPayload))}, 2050)
	b, f := skip.Put(l)
	if want := len(l) * (api.MaxPayload + 3); len(b) != want || want <= 1<<24 || f != (api.Fault{}) {
		t.Fatalf("Put of many: %d bytes, %v", len(b), f)
	}
	if again, f := skip.Fields(b); !slices.EqualFunc(samePlace(again), l, alike) || f != (api.Fault{}) {
		t.Errorf("Fields of it: %d, %v", len(again), f)
	}
}

func TestOfAndWithout(t *testing.T) { // P6.4
	l := []api.Field{at(num(1, 5), 0), at(text(2, "a"), 2), at(num(1, 6), 5), {Num: -3, Wire: 9, At: 7}, at(four(1, 7), 7), {}, at(text(2, "b"), 12)}
	for _, c := range []struct {
		num           int
		want, without []api.Field
	}{
		{1, []api.Field{l[0], l[2], l[4]}, []api.Field{l[1], l[3], l[5], l[6]}},
		{2, []api.Field{l[1], l[6]}, []api.Field{l[0], l[2], l[3], l[4], l[5]}},
		{-3, l[3:4], []api.Field{l[0], l[1], l[2], l[4], l[5], l[6]}},
		{0, l[5:6], []api.Field{l[0], l[1], l[2], l[3], l[4], l[6]}},
		{3, nil, l},
		{math.MinInt, nil, l},
		{math.MaxInt, nil, l},
	} {
		if got := skip.Of(l, c.num); !slices.EqualFunc(got, c.want, alike) {
			t.Errorf("Of %d: %v, not %v", c.num, got, c.want)
		}
		if got := skip.Without(l, c.num); !slices.EqualFunc(got, c.without, alike) {
			t.Errorf("Without %d: %v, not %v", c.num, got, c.without)
		}
		if len(skip.Of(nil, c.num)) != 0 || len(skip.Without(nil, c.num)) != 0 {
			t.Errorf("Of and Without %d of nil", c.num)
		}
	}
}

func TestLast(t *testing.T) { // P6.4
	l := []api.Field{at(num(1, 5), 0), at(text(2, "a"), 2), at(num(1, 6), 5), at(four(1, 7), 7), {Num: -3, Wire: 9, N: 4}, at(text(2, "b"), 12), {}}
	for _, c := range []struct {
		num  int
		wire uint8
		want int
	}{
		{1, tag.Varint, 2}, {1, tag.Four, 3}, {1, tag.Eight, -1}, {1, tag.Bytes, -1},
		{2, tag.Bytes, 5}, {2, tag.Varint, -1}, {-3, 9, 4}, {-3, 0, -1}, {0, 0, 6}, {3, tag.Varint, -1}, {math.MaxInt, 255, -1},
	} {
		var want api.Field
		if c.want >= 0 {
			want = l[c.want]
		}
		if got, ok := skip.Last(l, c.num, c.wire); !alike(got, want) || ok != (c.want >= 0) {
			t.Errorf("Last(%d, %d): %v, %t", c.num, c.wire, got, ok)
		}
		if got, ok := skip.Last(nil, c.num, c.wire); !alike(got, api.Field{}) || ok {
			t.Errorf("Last(%d, %d) of nil: %v, %t", c.num, c.wire, got, ok)
		}
	}
}

func TestReadAsPut(t *testing.T) { // P6.5
	var l []api.Field
	for _, k := range []int{1, 15, 16, 2047, 2048, tag.Most} {
		for shift := range 64 {
			n := uint64(1)<<shift + uint64(k%2)
			l = append(l, num(k, n), eight(k, n), four(k, n&math.MaxUint32), text(k, strings.Repeat("x", shift*k%300)))
		}
	}
	b := put(t, l...)
	got, f := skip.Fields(b)
	if f != (api.Fault{}) || !slices.EqualFunc(samePlace(got), l, alike) {
		t.Fatalf("Fields of Put: %d, %v", len(got), f)
	}
	for i, x := range got {
		next := len(b)
		if i+1 < len(got) {
			next = got[i+1].At
		}
		if end, f := skip.End(b, x.At); end != next || f != (api.Fault{}) {
			t.Errorf("End of the field %d: %d, %v, not %d", i, end, f, next)
		}
	}
}

func TestWhatWasReadAndPutIsReadAlike(t *testing.T) { // P6.5
	for _, c := range whole {
		b := []byte("\x88\x00\x05" + c.b + c.b)
		l, _ := skip.Fields(b)
		again, f := skip.Fields(put(t, l...))
		if len(l) != 3 || !slices.EqualFunc(samePlace(again), samePlace(l), alike) || f != (api.Fault{}) {
			t.Errorf("%s, put and read: %d fields, %v", c.name, len(again), f)
		}
	}
}

func TestReadAsAWriterWrites(t *testing.T) { // P6.1, P6.3
	o := outlet.New(100)
	o.Tag(1, tag.Varint)
	o.Varint(300)
	o.Tag(2, tag.Bytes)
	o.Bytes([]byte("text"))
	o.Tag(3, tag.Four)
	o.Four(1 << 31)
	o.Tag(4, tag.Eight)
	o.Eight(1 << 63)
	want := []api.Field{num(1, 300), text(2, "text"), four(3, 1<<31), eight(4, 1<<63)}
	if l, f := skip.Fields(o.Out()); !slices.EqualFunc(samePlace(l), want, alike) || f != (api.Fault{}) {
		t.Errorf("Fields: %v, %v", l, f)
	}
	if b := put(t, want...); !bytes.Equal(b, o.Out()) {
		t.Errorf("Put: % X, not % X", b, o.Out())
	}
}

func TestNothingIsReadBehindTheEnd(t *testing.T) { // P3, E6
	for _, c := range whole {
		for cut := 1; cut < len(c.b); cut++ {
			if cut > 40 && cut < len(c.b)-2 {
				continue
			}
			b := []byte(c.b)[:cut]
			if l, f := skip.Fields(b); len(l) != 0 || f.Errno != api.ErrShort {
				t.Errorf("Fields of %s, cut off at %d: %d, %v", c.name, cut, len(l), f)
			}
			if end, f := skip.End(b, 0); end != 0 || f.Errno != api.ErrShort {
				t.Errorf("End of %s, cut off at %d: %d, %v", c.name, cut, end, f)
			}
		}
	}
	l := []api.Field{num(1, 1), num(0, 1), num(1, 2)}
	if b, f := skip.Put(l[:1]); string(b) != "\x08\x01" || f != (api.Fault{}) {
		t.Errorf("Put of a list cut off: % X, %v", b, f)
	}
	if got, _ := skip.Last(l[:1], 1, tag.Varint); got.N != 1 || len(skip.Of(l[:1], 1)) != 1 || len(skip.Without(l[:1], 5)) != 1 {
		t.Errorf("Last, Of and Without of a list cut off: %v", got)
	}
}

func TestFieldsAreNewMemory(t *testing.T) { // P3
	in := []byte("\x0A\x03abc\x12\x02de")
	l, _ := skip.Fields(in)
	clear(in)
	if string(l[0].Bytes) != "abc" || string(l[1].Bytes) != "de" {
		t.Errorf("an answer behind a write to what was handed in: %q, %q", l[0].Bytes, l[1].Bytes)
	}
	in = []byte("\x0A\x03abc\x12\x02de")
	l, _ = skip.Fields(in)
	_ = append(l[0].Bytes, "xyz"...)
	clear(l[0].Bytes)
	if string(l[1].Bytes) != "de" || string(in) != "\x0A\x03abc\x12\x02de" {
		t.Errorf("behind a write to an answer: %q, %q", l[1].Bytes, in)
	}
	if end, f := skip.End(in, 5); end != 9 || f != (api.Fault{}) || string(in) != "\x0A\x03abc\x12\x02de" {
		t.Errorf("End: %d, %v, %q", end, f, in)
	}
}

func TestListsAreNewMemory(t *testing.T) { // P3
	shared := []byte("shared")
	l := append(make([]api.Field, 0, 9), num(1, 5), api.Field{Num: 2, Wire: tag.Bytes, Bytes: shared}, api.Field{Num: 2, Wire: tag.Bytes, Bytes: shared})
	of, without := skip.Of(l, 2), skip.Without(l, 1)
	last, _ := skip.Last(l, 2, tag.Bytes)
	b := put(t, l...)
	l[1] = num(7, 7)
	clear(shared)
	for _, got := range [][]api.Field{of, without, {last}} {
		for _, f := range got {
			if string(f.Bytes) != "shared" || f.Num != 2 {
				t.Errorf("behind a write to what was handed in: %v", f)
			}
		}
	}
	if !bytes.HasSuffix(b, []byte("shared")) {
		t.Errorf("Put behind a write to what was handed in: %q", b)
	}
	copy(of[0].Bytes, "other!")
	of[1] = api.Field{}
	if string(of[0].Bytes) != "other!" || string(without[0].Bytes) != "shared" || string(shared) != "\x00\x00\x00\x00\x00\x00" {
		t.Errorf("behind a write to an answer: %q, %q, %q", of[0].Bytes, without[0].Bytes, shared)
	}
}

func TestWhatIsHandedInStays(t *testing.T) { // P3
	l := append(make([]api.Field, 0, 4), at(num(1, 5), 3), at(text(2, "abc"), 4))
	spare := l[:4]
	spare[2] = num(9, 9)
	skip.Of(l, 1)
	skip.Without(l, 1)
	skip.Last(l, 2, tag.Bytes)
	put(t, l...)
	if !slices.EqualFunc(spare, []api.Field{at(num(1, 5), 3), at(text(2, "abc"), 4), num(9, 9), {}}, alike) {
		t.Errorf("what was handed in is %v", spare)
	}
}

// told is the document's reading of a field at the beginning of bytes: the field, how many bytes it has, and the fault.
func told(b []byte) (api.Field, int, api.Fault) {
	n, size, e := varint.Get(b)
	if e != api.OK {
		return api.Field{}, 0, fault(e, 0)
	}
	k, wire, e := tag.Split(n)
	if e != api.OK {
		return api.Field{}, 0, fault(e, 0)
	}
	f := api.Field{Num: k, Wire: wire}
	rest := b[size:]
	width, _ := tag.Width(wire)
	switch {
	case wire == tag.Varint:
		f.N, width, e = varint.Get(rest)
	case wire == tag.Bytes:
		n, head, short := varint.Get(rest)
		switch {
		case short != api.OK:
			e = short
		case n > api.MaxPayload:
			e = api.ErrLong
		case n > uint64(len(rest)-head):
			e = api.ErrShort
		default:
			width = head + int(n)
			f.Bytes = rest[head:width]
		}
	case width > len(rest):
		e = api.ErrShort
	default:
		for i, x := range rest[:width] {
			f.N += uint64(x) << (8 * i)
		}
	}
	if e != api.OK {
		return api.Field{}, 0, fault(e, size)
	}
	return f, size + width, api.Fault{}
}

// FuzzFields holds any bytes against the document's words, and what follows.
func FuzzFields(f *testing.F) {
	for _, c := range whole {
		f.Add([]byte("\x08\x00" + c.b))
	}
	for _, c := range broken {
		f.Add([]byte("\x08\x00" + c.b))
	}
	f.Fuzz(func(t *testing.T, b []byte) {
		var want []api.Field
		var wrong api.Fault
		for a := 0; a < len(b); {
			x, size, g := told(b[a:])
			end, h := skip.End(b, a)
			if g.Errno != api.OK {
				wrong = fault(g.Errno, a+g.At)
			}
			if h != wrong || wrong.Errno == api.OK && end != a+size || wrong.Errno != api.OK && end != 0 {
				t.Fatalf("End of % X at %d: %d, %v, not %d, %v", b, a, end, h, a+size, wrong)
			}
			if wrong.Errno != api.OK {
				want = nil
				break
			}
			want = append(want, at(x, a))
			a += size
		}
		l, g := skip.Fields(b)
		if !slices.EqualFunc(l, want, alike) || g != wrong {
			t.Fatalf("Fields of % X: %v, %v, not %v, %v", b, l, g, want, wrong)
		}
		again, g := skip.Fields(put(t, l...))
		if !slices.EqualFunc(samePlace(again), samePlace(l), alike) || g != (api.Fault{}) {
			t.Fatalf("Fields of Put of % X: %v, %v", b, again, g)
		}
		holdLists(t, l)
	})
}

// holdLists holds Of, Without and Last of each of some fields' numbers against the document's words.
func holdLists(t *testing.T, l []api.Field) {
	for i, x := range l[:min(len(l), 20)] {
		of, without := skip.Of(l, x.Num), skip.Without(l, x.Num)
		last, ok := skip.Last(l, x.Num, x.Wire)
		if len(of)+len(without) != len(l) || !ok || last.At < x.At || last.Num != x.Num || last.Wire != x.Wire {
			t.Fatalf("of the field %d: %v, %v, %v", i, of, without, last)
		}
		for _, y := range of {
			if y.Num != x.Num || y.Wire == x.Wire && y.At > last.At {
				t.Fatalf("of the field %d: %v", i, of)
			}
		}
		for _, y := range without {
			if y.Num == x.Num {
				t.Fatalf("without the field %d: %v", i, without)
			}
		}
	}
}
