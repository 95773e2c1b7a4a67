package outlet_test

import (
	"bytes"
	"math"
	"strings"
	"testing"

	"rescript/api"
	"rescript/inlet"
	"rescript/outlet"
	"rescript/tag"
	"rescript/varint"
)

// write is one write to a writer.
type write = func(*outlet.Out) api.Errno

func number(n uint64) write { return func(o *outlet.Out) api.Errno { return o.Varint(n) } }
func field(num int, wire uint8) write {
	return func(o *outlet.Out) api.Errno { return o.Tag(num, wire) }
}
func four(n uint32) write    { return func(o *outlet.Out) api.Errno { return o.Four(n) } }
func eight(n uint64) write   { return func(o *outlet.Out) api.Errno { return o.Eight(n) } }
func counted(s string) write { return func(o *outlet.Out) api.Errno { return o.Bytes([]byte(s)) } }
func raw(s string) write     { return func(o *outlet.Out) api.Errno { return o.Raw([]byte(s)...) } }
func all(l ...write) write   { return func(o *outlet.Out) api.Errno { return o.All(l...) } }

// told is a write that writes something, and then has that error.
func told(e api.Errno) write {
	return func(o *outlet.Out) api.Errno {
		o.Raw('?')
		return e
	}
}

// with is a writer with room for so much more behind what it has.
func with(t *testing.T, has string, left int) *outlet.Out {
	o := outlet.New(len(has) + left)
	if e := o.Raw([]byte(has)...); e != api.OK || o.Left() != left {
		t.Fatalf("a writer with %q: %d, %d left", has, e, o.Left())
	}
	return o
}

// holds tells it if a writer has something else, or another room.
func holds(t *testing.T, name string, o *outlet.Out, want string, left int) {
	t.Helper()
	if got := string(o.Out()); got != want || o.Left() != left {
		t.Errorf("%s: %q, %d left, not %q, %d left", name, got, o.Left(), want, left)
	}
}

func TestNew(t *testing.T) { // P5.1
	const limit = 1 << 24
	for _, c := range []struct{ most, left int }{
		{math.MinInt, 0}, {-1, 0}, {0, 0}, {1, 1}, {3, 3}, {api.MaxPayload, api.MaxPayload},
		{limit - 1, limit - 1}, {limit, limit}, {limit + 1, limit}, {math.MaxInt, limit},
	} {
		o := outlet.New(c.most)
		if o == nil || o.Left() != c.left || len(o.Out()) != 0 {
			t.Errorf("New(%d): %d left, % X", c.most, o.Left(), o.Out())
		}
		if e := o.Raw(make([]byte, c.left+1)...); e != api.ErrFull || o.Left() != c.left {
			t.Errorf("New(%d), one byte too many: %d, %d left", c.most, e, o.Left())
		}
		if e := o.Raw(make([]byte, c.left)...); e != api.OK || o.Left() != 0 || len(o.Out()) != c.left {
			t.Errorf("New(%d), as many as may be: %d, %d left", c.most, e, o.Left())
		}
		if e := o.Raw(0); e != api.ErrFull || len(o.Out()) != c.left {
			t.Errorf("New(%d), one more: %d", c.most, e)
		}
	}
}

func TestNil(t *testing.T) { // P5.1, P1
	var none *outlet.Out
	called := false
	call := func(*outlet.Out) api.Errno {
		called = true
		return api.ErrKind
	}
	for name, do := range map[string]write{
		"Varint": number(0), "Tag": field(1, tag.Bytes), "Tag of no field": field(0, tag.Bytes), "Tag of no wire type": field(1, 3),
		"Four": four(0), "Eight": eight(0), "Bytes": counted("a"), "Bytes of none": counted(""), "Raw": raw("a"), "Raw of none": raw(""),
		"All": all(call), "All of none": all(), "All of nil": all(nil, nil),
	} {
		if e := do(none); e != api.ErrFull {
			t.Errorf("%s of nil: %d", name, e)
		}
	}
	if none.Bytes(nil) != api.ErrFull || none.Raw() != api.ErrFull || called {
		t.Errorf("writes of no bytes, of nil; a write within All was done: %t", called)
	}
	if none.Left() != 0 || len(none.Out()) != 0 {
		t.Errorf("nil: %d left, % X", none.Left(), none.Out())
	}
}

// TestWrites holds one write against what the document asks: with room for more, for just its bytes, and for fewer.
func TestWrites(t *testing.T) { // P5.2
	long := strings.Repeat("x", 200)
	for _, c := range []struct {
		name string
		do   write
		want string
	}{
		{"Varint of 0", number(0), "\x00"},
		{"Varint of 127", number(127), "\x7F"},
		{"Varint of 128", number(128), "\x80\x01"},
		{"Varint of 300", number(300), "\xAC\x02"},
		{"Varint of the greatest", number(math.MaxUint64), "\xFF\xFF\xFF\xFF\xFF\xFF\xFF\xFF\xFF\x01"},
		{"Tag", field(1, tag.Bytes), "\x0A"},
		{"Tag of two bytes", field(16, tag.Varint), "\x80\x01"},
		{"Tag of the greatest", field(tag.Most, tag.Four), "\xFD\xFF\xFF\xFF\x0F"},
		{"Four", four(258), "\x02\x01\x00\x00"},
		{"Four of the greatest", four(math.MaxUint32), "\xFF\xFF\xFF\xFF"},
		{"Eight", eight(258), "\x02\x01\x00\x00\x00\x00\x00\x00"},
		{"Eight of the greatest", eight(math.MaxUint64), "\xFF\xFF\xFF\xFF\xFF\xFF\xFF\xFF"},
		{"Bytes", counted("abc"), "\x03abc"},
		{"Bytes of none", counted(""), "\x00"},
		{"Bytes of a length of two bytes", counted(long), "\xC8\x01" + long},
		{"Raw", raw("abc"), "abc"},
		{"Raw of one", raw("\x00"), "\x00"},
		{"Raw of none", raw(""), ""},
		{"All", all(number(300), raw("abc"), field(2, tag.Four)), "\xAC\x02abc\x15"},
		{"All of none", all(), ""},
	} {
		for _, has := range []string{"", "has"} {
			for _, more := range []int{0, 1, 50} {
				o := with(t, has, len(c.want)+more)
				if e := c.do(o); e != api.OK {
					t.Errorf("%s, room for %d more: %d", c.name, more, e)
				}
				holds(t, c.name, o, has+c.want, more)
			}
			for left := range len(c.want) {
				o := with(t, has, left)
				if e := c.do(o); e != api.ErrFull {
					t.Errorf("%s, room for %d: %d", c.name, left, e)
				}
				holds(t, c.name+", without room", o, has, left)
			}
		}
	}
}

func TestNoTag(t *testing.T) { // P5.2
	for _, c := range []struct {
		num  int
		wire uint8
		e    api.Errno
	}{
		{0, tag.Varint, api.ErrRange},
		{-1, tag.Bytes, api.ErrRange},
		{math.MinInt, tag.Bytes, api.ErrRange},
		{tag.Most + 1, tag.Four, api.ErrRange},
		{math.MaxInt, tag.Four, api.ErrRange},
		{0, 3, api.ErrRange},
		{1, 3, api.ErrKind},
		{1, 4, api.ErrKind},
		{tag.Most, 255, api.ErrKind},
	} {
		for _, left := range []int{0, 9} {
			o := with(t, "has", left)
			if e := o.Tag(c.num, c.wire); e != c.e {
				t.Errorf("Tag(%d, %d), room for %d: %d, not %d", c.num, c.wire, left, e, c.e)
			}
			holds(t, "no tag", o, "has", left)
		}
	}
}

func TestNothingToWriteNeedsNoRoom(t *testing.T) { // P5.2, P5.3
	o := with(t, "has", 0)
	if e := o.Raw(); e != api.OK {
		t.Errorf("Raw of none: %d", e)
	}
	if e := o.All(); e != api.OK {
		t.Errorf("All of none: %d", e)
	}
	if e := o.Bytes(nil); e != api.ErrFull {
		t.Errorf("Bytes of nil, which has a length: %d", e)
	}
	holds(t, "a full writer", o, "has", 0)
}

func TestAWriteFitsBehindOneThatDoesNot(t *testing.T) { // P5.2
	o := outlet.New(3)
	for k, c := range []struct {
		do   write
		e    api.Errno
		want string
	}{
		{four(1), api.ErrFull, ""},
		{counted("abc"), api.ErrFull, ""},
		{counted("ab"), api.OK, "\x02ab"},
		{raw("c"), api.ErrFull, "\x02ab"},
		{raw(""), api.OK, "\x02ab"},
	} {
		if e := c.do(o); e != c.e {
			t.Errorf("write %d: %d, not %d", k, e, c.e)
		}
		holds(t, "a writer of three", o, c.want, 3-len(c.want))
	}
}

func TestExample(t *testing.T) { // P5.2
	if e := outlet.New(3).Bytes([]byte("abc")); e != api.ErrFull {
		t.Errorf("Bytes of three: %d", e)
	}
	o := outlet.New(3)
	if e := o.Bytes([]byte("ab")); e != api.OK {
		t.Errorf("Bytes of two: %d", e)
	}
	holds(t, "Bytes of two", o, "\x02ab", 0)
}

func TestAll(t *testing.T) { // P5.3
	for _, c := range []struct {
		name string
		l    []write
		e    api.Errno
		want string
	}{
		{"none", nil, api.OK, ""},
		{"one", []write{raw("a")}, api.OK, "a"},
		{"in order", []write{raw("a"), number(300), raw("b"), counted("c")}, api.OK, "a\xAC\x02b\x01c"},
		{"one twice", []write{raw("a"), raw("a")}, api.OK, "aa"},
		{"nil alone", []write{nil}, api.OK, ""},
		{"nil among others", []write{nil, raw("a"), nil, raw("b"), nil}, api.OK, "ab"},
		{"the first one fails", []write{told(api.ErrUtf), raw("a")}, api.ErrUtf, ""},
		{"the last one fails", []write{raw("a"), raw("b"), told(api.ErrUtf)}, api.ErrUtf, ""},
		{"two fail", []write{raw("a"), told(api.ErrSum), told(api.ErrUtf)}, api.ErrSum, ""},
		{"no tag", []write{raw("a"), field(1, 3)}, api.ErrKind, ""},
		{"no room for the last one", []write{raw("abcdefgh"), raw("ijk"), raw("lm")}, api.ErrFull, ""},
		{"no room, behind an error", []write{told(api.ErrUtf), raw("a lot of bytes")}, api.ErrUtf, ""},
		{"as many as may be", []write{raw("abcdefgh"), raw("ij"), raw("kl")}, api.OK, "abcdefghijkl"},
		{"All within", []write{raw("a"), all(raw("b"), raw("c")), raw("d")}, api.OK, "abcd"},
		{"All within fails", []write{raw("a"), all(raw("b"), told(api.ErrNone)), raw("d")}, api.ErrNone, ""},
		{"All within is done, a later one fails", []write{all(raw("b"), raw("c")), told(api.ErrLeft)}, api.ErrLeft, ""},
		{"an error that there isn't", []write{raw("a"), told(-7)}, -7, ""},
	} {
		for _, has := range []string{"", "has"} {
			o := with(t, has, 12)
			if e := o.All(c.l...); e != c.e {
				t.Errorf("%s: %d, not %d", c.name, e, c.e)
			}
			holds(t, c.name, o, has+c.want, 12-len(c.want))
			if e := o.Raw('.'); e == api.OK != (len(c.want) < 12) {
				t.Errorf("%s, and a write behind it: %d", c.name, e)
			}
		}
	}
}

func TestAllHandsOnThisWriter(t *testing.T) { // P5.3
	o := with(t, "has", 9)
	calls := 0
	e := o.All(
		func(p *outlet.Out) api.Errno {
			calls++
			holds(t, "at first", p, "has", 9)
			return p.Raw('a', 'b')
		},
		func(p *outlet.Out) api.Errno {
			calls++
			holds(t, "behind the first one", p, "hasab", 7)
			if p != o {
				t.Error("another writer was handed on")
			}
			return api.ErrNone
		},
		func(*outlet.Out) api.Errno {
			calls++
			return api.OK
		},
	)
	if e != api.ErrNone || calls != 2 {
		t.Errorf("All: %d, of three %d were called", e, calls)
	}
	holds(t, "All", o, "has", 9)
}

func TestWhatWithinAllIsPassedOverStays(t *testing.T) { // P5.3
	o := with(t, "has", 4)
	e := o.All(
		raw("a"),
		func(p *outlet.Out) api.Errno {
			p.Bytes([]byte("too many"))
			p.All(raw("b"), told(api.ErrUtf))
			return p.Raw('c')
		},
	)
	if e != api.OK {
		t.Errorf("All: %d", e)
	}
	holds(t, "All", o, "hasac", 2)
}

func TestAllTakesBackWhatIsWrittenPastIt(t *testing.T) { // P5.3
	o := with(t, "has", 9)
	e := o.All(func(*outlet.Out) api.Errno { return o.Raw('a') }, told(api.ErrNone))
	if e != api.ErrNone {
		t.Errorf("All: %d", e)
	}
	holds(t, "All", o, "has", 9)
}

func TestAllLeavesOtherWriters(t *testing.T) { // P5.3
	o, other := with(t, "has", 9), outlet.New(3)
	e := o.All(raw("a"), func(*outlet.Out) api.Errno { return other.Raw('b', 'c') }, func(*outlet.Out) api.Errno { return other.Raw('d', 'e') })
	if e != api.ErrFull {
		t.Errorf("All: %d", e)
	}
	holds(t, "this writer", o, "has", 9)
	holds(t, "the other one", other, "bc", 1)
}

func TestAllWithinAnotherWritersAll(t *testing.T) { // P5.3
	o, other := with(t, "has", 9), outlet.New(9)
	e := o.All(func(p *outlet.Out) api.Errno {
		other.All(raw("x"), func(*outlet.Out) api.Errno { return p.Raw('a') }, told(api.ErrUtf))
		return p.Raw('b')
	})
	if e != api.OK {
		t.Errorf("All: %d", e)
	}
	holds(t, "this writer", o, "hasab", 7)
	holds(t, "the other one", other, "", 9)
}

func TestAllPanicsNot(t *testing.T) { // P5.3, P1
	var none []byte
	for name, broken := range map[string]write{
		"a panic":        func(o *outlet.Out) api.Errno { o.Raw('b'); panic("broken") },
		"a panic of nil": func(o *outlet.Out) api.Errno { o.Raw('b'); panic(nil) },
		"a place that there isn't": func(o *outlet.Out) api.Errno {
			return api.Errno(none[o.Left()])
		},
		"another writer put in its place": func(o *outlet.Out) api.Errno {
			*o = outlet.Out{}
			return api.ErrUtf
		},
	} {
		o := with(t, "has", 9)
		if e := o.All(raw("a"), broken, raw("c")); e == api.OK {
			t.Errorf("All of %s: %d", name, e)
		}
		holds(t, name, o, "has", 9)
		if e := o.All(raw("a"), all(broken), raw("c")); e == api.OK {
			t.Errorf("All within All of %s: %d", name, e)
		}
		holds(t, name, o, "has", 9)
	}
}

func TestAZeroWriterPanicsNot(t *testing.T) { // P1
	var o outlet.Out
	for _, do := range []write{number(1), field(1, 2), four(1), eight(1), counted("a"), raw("a"), all(raw("a"), nil)} {
		do(&o)
	}
	if len(o.Out()) != 0 {
		t.Errorf("a writer without room: % X", o.Out())
	}
}

func TestReadAsWritten(t *testing.T) { // P5.4
	o := outlet.New(100)
	e := o.All(number(300), field(5, tag.Bytes), counted("text"), four(1<<31), eight(1<<63), raw("end"))
	if e != api.OK {
		t.Fatalf("All: %d", e)
	}
	i := inlet.New(o.Out())
	n, _ := i.Varint()
	num, wire, _ := i.Tag()
	text, _ := i.Bytes(api.MaxText)
	m, _ := i.Four()
	k, _ := i.Eight()
	end, f := i.Take(3)
	if n != 300 || num != 5 || wire != tag.Bytes || string(text) != "text" || m != 1<<31 || k != 1<<63 || string(end) != "end" {
		t.Errorf("read: %d, %d, %d, %q, %d, %d, %q", n, num, wire, text, m, k, end)
	}
	if f != (api.Fault{}) || i.Left() != 0 {
		t.Errorf("behind it: %v, %d left", f, i.Left())
	}
}

func TestNumbersAreReadAsWritten(t *testing.T) { // P5.4
	for shift := range 64 {
		for _, n := range []uint64{1<<shift - 1, 1 << shift, 1<<shift + 1} {
			o := outlet.New(50)
			o.All(number(n), four(uint32(n)), eight(n), counted(string(make([]byte, n%9))))
			i := inlet.New(o.Out())
			a, _ := i.Varint()
			b, _ := i.Four()
			c, _ := i.Eight()
			d, f := i.Bytes(8)
			if a != n || b != uint32(n) || c != n || uint64(len(d)) != n%9 || f != (api.Fault{}) || i.Left() != 0 {
				t.Errorf("%d: %d, %d, %d, %d, %v", n, a, b, c, len(d), f)
			}
		}
	}
}

func TestOutIsNewMemory(t *testing.T) { // P5.1, P3
	o := outlet.New(64)
	o.Raw([]byte("abc")...)
	first := o.Out()
	o.Raw('d')
	second := o.Out()
	clear(second)
	if string(first) != "abc" {
		t.Errorf("an answer behind a later write: %q", first)
	}
	first = append(first, "xyz"...)
	clear(first)
	holds(t, "behind writes to answers", o, "abcd", 60)
	o.All(raw("ef"), told(api.ErrUtf))
	third := o.Out()
	o.Raw('g')
	if string(third) != "abcd" || string(o.Out()) != "abcdg" {
		t.Errorf("behind what was taken back: %q, %q", third, o.Out())
	}
}

func TestWhatIsHandedInStays(t *testing.T) { // P3
	for name, do := range map[string]func(*outlet.Out, []byte) api.Errno{
		"Raw":   func(o *outlet.Out, b []byte) api.Errno { return o.Raw(b...) },
		"Bytes": (*outlet.Out).Bytes,
	} {
		room := append(make([]byte, 0, 64), "abc~~~~"...)
		o := outlet.New(64)
		do(o, room[:3])
		o.Raw('d')
		if string(room) != "abc~~~~" {
			t.Errorf("what was handed to %s is %q", name, room)
		}
		clear(room)
		if got := string(o.Out()); !strings.HasSuffix(got, "abcd") {
			t.Errorf("%s, behind a write to what was handed in: %q", name, got)
		}
	}
	l := []write{raw("e"), nil, raw("f")}
	o := outlet.New(9)
	o.All(l[:2]...)
	if l[0] == nil || l[1] != nil || l[2] == nil {
		t.Error("the list of writes is another one")
	}
	holds(t, "All of a list cut off", o, "e", 8)
}

func TestWritersStandAlone(t *testing.T) { // P5
	one, other := outlet.New(3), outlet.New(3)
	one.Raw('a', 'b')
	other.Raw('c')
	holds(t, "one", one, "ab", 1)
	holds(t, "the other", other, "c", 2)
}

// made is what the document's words give a write: its bytes, or its error.
func made(what byte, n uint64, b []byte) (write, []byte, api.Errno) {
	switch what % 6 {
	case 0:
		return number(n), varint.Put(n), api.OK
	case 1:
		num, wire := int(n>>3), byte(n%8)
		_, e := tag.Make(num, wire)
		return field(num, wire), tag.Head(num, wire), e
	case 2:
		return four(uint32(n)), tag.Fix32(uint32(n)), api.OK
	case 3:
		return eight(n), tag.Fix64(n), api.OK
	case 4:
		return counted(string(b)), append(varint.Put(uint64(len(b))), b...), api.OK
	}
	return raw(string(b)), b, api.OK
}

// FuzzOut holds writes in any order, alone and within All, against the document's words.
func FuzzOut(f *testing.F) {
	f.Add(9, []byte("\x00\x01\x02\x03\x04\x05"))
	f.Add(40, []byte("\x0A\x19\x22\x2B\x34\x3D\x83\x7F"))
	f.Add(0, []byte("\x05\x04\x01"))
	f.Add(1<<30, bytes.Repeat([]byte{4, 200}, 20))
	f.Fuzz(func(t *testing.T, most int, order []byte) {
		o, room := outlet.New(most), min(max(most, 0), 1<<24)
		var want []byte
		var l []write
		var wrong api.Errno
		for k, x := range order {
			do, b, e := made(x, uint64(x)<<(k%9*7), order[:int(x)%(k+1)])
			if e == api.OK && len(b) > room-len(want) {
				e = api.ErrFull
			}
			if wrong == api.OK {
				l, wrong = append(l, do), e
			}
			if got := do(o); got != e {
				t.Fatalf("write %d: %d, not %d", k, got, e)
			}
			if e == api.OK {
				want = append(want, b...)
			}
			if !bytes.Equal(o.Out(), want) || o.Left() != room-len(want) {
				t.Fatalf("behind write %d: % X, %d left, not % X", k, o.Out(), o.Left(), want)
			}
		}
		p := outlet.New(most)
		if got := p.All(l...); got != wrong || wrong == api.OK && !bytes.Equal(p.Out(), want) || wrong != api.OK && p.Left() != room {
			t.Fatalf("All: %d, not %d, % X", got, wrong, p.Out())
		}
	})
}
