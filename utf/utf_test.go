package utf_test

import (
	"math"
	"slices"
	"strings"
	"testing"
	"unicode/utf8"

	"rescript/api"
	"rescript/utf"
)

// bytesOf is a rune's bytes, by the bits that the document names.
func bytesOf(r int32) string {
	switch {
	case r < 0x80:
		return string([]byte{byte(r)})
	case r < 0x800:
		return string([]byte{0xC0 | byte(r>>6), 0x80 | byte(r&63)})
	case r < 0x10000:
		return string([]byte{0xE0 | byte(r>>12), 0x80 | byte(r>>6&63), 0x80 | byte(r&63)})
	}
	return string([]byte{0xF0 | byte(r>>18), 0x80 | byte(r>>12&63), 0x80 | byte(r>>6&63), 0x80 | byte(r&63)})
}

// isRune tells whether a number is a rune.
func isRune(r int32) bool { return r >= 0 && r <= 0x10FFFF && (r < 0xD800 || r > 0xDFFF) }

// edges is the runes about each place where something changes.
func edges() []int32 {
	return []int32{0, 1, ' ', 'a', '~', 0x7F, 0x80, 0xFF, 0x7FF, 0x800, 0xFFF, 0x1000, 0xD7FF, 0xE000, 0xFFFD, 0xFFFE, 0xFFFF, 0x10000, 0x3FFFF, 0x40000, 0xFFFFF, 0x100000, 0x10FFFF}
}

func TestFirst(t *testing.T) { // P3.1
	for _, c := range []struct {
		s    string
		want int
	}{
		{"", -1},
		{"a", -1},
		{"\x00\x7F", -1},
		{"\x41\xC3\xA4", -1},
		{"\xC2\x80\xDF\xBF", -1},
		{"\xE0\xA0\x80\xED\x9F\xBF\xEE\x80\x80\xEF\xBF\xBF", -1},
		{"\xF0\x90\x80\x80\xF4\x8F\xBF\xBF", -1},
		{"\xEF\xBF\xBD", -1},
		{"a\xEF\xBF\xBD\xEF\xBF\xBDb", -1},
		{"\xEF\xBF\xBD\xFF", 3},
		{"\xFF\xEF\xBF\xBD", 0},
		{"\xC0\x80", 0},
		{"a\xC0\x80", 1},
		{"\xC1\xBF", 0},
		{"\xE0\x9F\xBF", 0},
		{"\xE0\x80\x80", 0},
		{"\xED\xA0\x80", 0},
		{"\xED\xBF\xBF", 0},
		{"\xF0\x8F\xBF\xBF", 0},
		{"\xF4\x90\x80\x80", 0},
		{"\xF5\x80\x80\x80", 0},
		{"\xF8\x88\x80\x80\x80", 0},
		{"\x80", 0},
		{"\xBF", 0},
		{"ab\x80", 2},
		{"\xC3\xA4\x80", 2},
		{"\xE2\x82\xAC\xBF", 3},
		{"\xC3", 0},
		{"a\xE2\x82", 1},
		{"aa\xF0\x9F\x98", 2},
		{"\xE2\x82a", 0},
		{"\xE2a\xAC", 0},
		{"\xEF\xBF", 0},
		{"\xEF\xBF\xC3\xA4", 0},
		{"\xF0\x9F\x98\x80\xF0\x9F\x98", 4},
		{"\xC3\xC3\xA4", 0},
		{"a\xFEb\xFF", 1},
	} {
		if got := utf.First(c.s); got != c.want {
			t.Errorf("First of % X: %d, not %d", c.s, got, c.want)
		}
	}
}

func TestFirstOfAllTwoBytes(t *testing.T) { // P3.1
	for x := range 256 {
		for y := range 256 {
			s := string([]byte{byte(x), byte(y)})
			want := -1
			switch {
			case x < 0x80 && y >= 0x80:
				want = 1
			case x >= 0x80 && (x < 0xC2 || x > 0xDF || y < 0x80 || y > 0xBF):
				want = 0
			}
			if got := utf.First(s); got != want {
				t.Errorf("First of % X: %d, not %d", s, got, want)
			}
		}
	}
}

func TestEachRune(t *testing.T) { // P3.1, P3.2, P3.4
	for r := int32(0); r <= 0x10FFFF; r++ {
		if !isRune(r) {
			if s, f := utf.Text([]int32{r}); s != "" || f != (api.Fault{Errno: api.ErrRange}) {
				t.Fatalf("Text of %X: % X, %v", r, s, f)
			}
			if utf.First(bytesOf(r)) != 0 {
				t.Fatalf("First of what isn't %X: %d", r, utf.First(bytesOf(r)))
			}
			continue
		}
		s, f := utf.Text([]int32{r})
		if s != bytesOf(r) || f != (api.Fault{}) {
			t.Fatalf("Text of %X: % X, %v, not % X", r, s, f, bytesOf(r))
		}
		l, g := utf.Runes(s)
		if len(l) != 1 || l[0] != r || g != (api.Fault{}) || utf.First(s) != -1 || utf.Count(s) != 1 {
			t.Fatalf("Runes of % X: %X, %v", s, l, g)
		}
	}
}

func TestEachRuneCutOff(t *testing.T) { // P3.1, P3.2
	for _, r := range edges() {
		whole := bytesOf(r)
		for k := 1; k < len(whole); k++ {
			for _, behind := range []string{"", "a", "\xC3\xA4", "\xEF\xBF\xBD"} {
				s := "a" + whole[:k] + behind
				if got := utf.First(s); got != 1 {
					t.Errorf("First of % X: %d, not 1", s, got)
				}
				if l, f := utf.Runes(s); len(l) != 0 || f != (api.Fault{Errno: api.ErrUtf, At: 1}) {
					t.Errorf("Runes of % X: %X, %v", s, l, f)
				}
			}
		}
	}
}

func TestRunesAndCount(t *testing.T) { // P3.2
	for _, c := range []struct {
		s    string
		want []int32
		f    api.Fault
		n    int
	}{
		{"", nil, api.Fault{}, 0},
		{"abc", []int32{'a', 'b', 'c'}, api.Fault{}, 3},
		{"\x41\xC3\xA4", []int32{0x41, 0xE4}, api.Fault{}, 2},
		{"\x00\xEF\xBF\xBD\xF4\x8F\xBF\xBF\n", []int32{0, 0xFFFD, 0x10FFFF, 10}, api.Fault{}, 4},
		{"\xC0\x80", nil, api.Fault{Errno: api.ErrUtf}, -1},
		{"ab\xFF", nil, api.Fault{Errno: api.ErrUtf, At: 2}, -1},
		{"\xC3\xA4\xED\xA0\x80b\xFF", nil, api.Fault{Errno: api.ErrUtf, At: 2}, -1},
	} {
		if l, f := utf.Runes(c.s); !slices.Equal(l, c.want) || f != c.f {
			t.Errorf("Runes of % X: %X, %v, not %X, %v", c.s, l, f, c.want, c.f)
		}
		if n := utf.Count(c.s); n != c.n {
			t.Errorf("Count of % X: %d, not %d", c.s, n, c.n)
		}
	}
}

func TestText(t *testing.T) { // P3.2
	for _, c := range []struct {
		l    []int32
		want string
		f    api.Fault
	}{
		{nil, "", api.Fault{}},
		{[]int32{}, "", api.Fault{}},
		{[]int32{0}, "\x00", api.Fault{}},
		{[]int32{0x41, 0xE4}, "\x41\xC3\xA4", api.Fault{}},
		{[]int32{0x7F, 0x80, 0x7FF, 0x800}, "\x7F\xC2\x80\xDF\xBF\xE0\xA0\x80", api.Fault{}},
		{[]int32{0xD7FF, 0xE000, 0xFFFD, 0xFFFF}, "\xED\x9F\xBF\xEE\x80\x80\xEF\xBF\xBD\xEF\xBF\xBF", api.Fault{}},
		{[]int32{0x10000, 0x10FFFF}, "\xF0\x90\x80\x80\xF4\x8F\xBF\xBF", api.Fault{}},
		{[]int32{-1}, "", api.Fault{Errno: api.ErrRange}},
		{[]int32{'a', math.MinInt32}, "", api.Fault{Errno: api.ErrRange, At: 1}},
		{[]int32{'a', 'b', 0xD800}, "", api.Fault{Errno: api.ErrRange, At: 2}},
		{[]int32{0xDFFF, 'a'}, "", api.Fault{Errno: api.ErrRange}},
		{[]int32{0xE4, 0x110000, -1}, "", api.Fault{Errno: api.ErrRange, At: 1}},
		{[]int32{'a', 'b', 'c', math.MaxInt32}, "", api.Fault{Errno: api.ErrRange, At: 3}},
	} {
		if s, f := utf.Text(c.l); s != c.want || f != c.f {
			t.Errorf("Text of %X: % X, %v, not % X, %v", c.l, s, f, c.want, c.f)
		}
	}
}

func TestCheck(t *testing.T) { // P3.3
	for _, c := range []struct {
		s    string
		most int
		want api.Errno
	}{
		{"", 0, api.OK},
		{"", math.MaxInt, api.OK},
		{"", -1, api.ErrLong},
		{"", math.MinInt, api.ErrLong},
		{"a", 0, api.ErrLong},
		{"a", 1, api.OK},
		{"\xC3\xA4", 1, api.ErrLong},
		{"\xC3\xA4", 2, api.OK},
		{"abc", 2, api.ErrLong},
		{"abc", 3, api.OK},
		{"ab\xFF", 3, api.ErrUtf},
		{"ab\xFF", 2, api.ErrLong},
		{"\xC0\x80", 2, api.ErrUtf},
		{"\xFF", -1, api.ErrLong},
		{strings.Repeat("a", api.MaxText), api.MaxText, api.OK},
		{strings.Repeat("a", api.MaxText+1), api.MaxText, api.ErrLong},
		{strings.Repeat("a", api.MaxText-1) + "\x80", api.MaxText, api.ErrUtf},
	} {
		if got := utf.Check(c.s, c.most); got != c.want {
			t.Errorf("Check(%.9q, %d): %d, not %d", c.s, c.most, got, c.want)
		}
	}
}

func TestPlainOfEachByte(t *testing.T) { // P3.3
	for x := range 256 {
		want := x >= 0x20 && x <= 0x7E
		for _, ahead := range []string{"", "a", "~ "} {
			s := ahead + string([]byte{byte(x)}) + ahead
			if got := utf.Plain(s); got != want {
				t.Errorf("Plain(%q): %t", s, got)
			}
		}
	}
}

func TestPlain(t *testing.T) { // P3.3
	for _, c := range []struct {
		s    string
		want bool
	}{
		{"", true}, {"a b~", true}, {" ", true}, {"\t", false}, {"a\n", false}, {"\x7F", false}, {"\xC3\xA4", false}, {"a\xEF\xBF\xBD", false}, {"\xA0", false},
	} {
		if got := utf.Plain(c.s); got != c.want {
			t.Errorf("Plain(%q): %t", c.s, got)
		}
	}
}

func TestRunesAreReadAsWritten(t *testing.T) { // P3.4
	l := append(edges(), edges()...)
	s, f := utf.Text(l)
	if f != (api.Fault{}) || utf.Count(s) != len(l) {
		t.Fatalf("Text: % X, %v", s, f)
	}
	if got, g := utf.Runes(s); !slices.Equal(got, l) || g != (api.Fault{}) {
		t.Errorf("Runes: %X, %v, not %X", got, g, l)
	}
}

func TestAnswersAreNewMemory(t *testing.T) { // P3, P5
	in := []int32{'a', 0xE4, 'b', -1}
	utf.Text(in)
	if s, f := utf.Text(in[:3]); s != "a\xC3\xA4b" || f != (api.Fault{}) {
		t.Errorf("Text of a list cut off: % X, %v", s, f)
	}
	if !slices.Equal(in, []int32{'a', 0xE4, 'b', -1}) {
		t.Errorf("what was handed in is %X", in)
	}
	l, _ := utf.Runes("abc")
	clear(l)
	if again, _ := utf.Runes("abc"); !slices.Equal(again, []int32{'a', 'b', 'c'}) {
		t.Errorf("Runes behind a write to its answer: %X", again)
	}
}

// first is the place that the document's words give these bytes.
func first(s string) int {
	for at := 0; at < len(s); {
		r, size := utf8.DecodeRuneInString(s[at:])
		if !strings.HasPrefix(s[at:], bytesOf(r)) {
			return at
		}
		at += size
	}
	return -1
}

// FuzzFirst holds any bytes against the document's words, the library, and what follows.
func FuzzFirst(f *testing.F) {
	for _, s := range []string{"", "abc", "\xC3\xA4", "\xC0\x80", "\xED\xA0\x80", "\xF4\x90\x80\x80", "\xEF\xBF\xBD", "a\xE2\x82", "\xF0\x9F\x98\x80\xFF"} {
		f.Add(s)
	}
	f.Fuzz(func(t *testing.T, s string) {
		want := first(s)
		if got := utf.First(s); got != want || (got == -1) != utf8.ValidString(s) {
			t.Fatalf("First of % X: %d, not %d", s, got, want)
		}
		l, at := utf.Runes(s)
		if want >= 0 {
			if len(l) != 0 || at != (api.Fault{Errno: api.ErrUtf, At: want}) || utf.Count(s) != -1 || utf.Check(s, len(s)) != api.ErrUtf || utf.Plain(s) {
				t.Fatalf("of no text % X: %X, %v", s, l, at)
			}
			return
		}
		back, g := utf.Text(l)
		if at != (api.Fault{}) || g != (api.Fault{}) || back != s || utf.Count(s) != len(l) || utf.Check(s, len(s)) != api.OK {
			t.Fatalf("of the text % X: %X, %v, % X, %v", s, l, at, back, g)
		}
	})
}
