package scalar_test

import (
	"fmt"
	"math"
	"regexp"
	"strconv"
	"strings"
	"testing"
	"unicode/utf8"

	"rescript/api"
	"rescript/line"
	"rescript/scalar"
)

// The forms that the chapter names.
var (
	plainForm  = regexp.MustCompile(`^[a-zA-Z0-9._/+@][a-zA-Z0-9._/+@-]*$`)
	plainAhead = regexp.MustCompile(`^[a-zA-Z0-9._/+@][a-zA-Z0-9._/+@-]*`)
	quoteForm  = regexp.MustCompile(`^"(?:[^\x00-\x1f"\\\x7f]|\\["\\nt]|\\x[0-7][0-9a-f])*"$`)
	quoteAhead = regexp.MustCompile(`(?s)^"(?:[^"\\]|\\.)*"`)
	inQuotes   = regexp.MustCompile(`(?s)\\x..|\\.`)
	numberForm = regexp.MustCompile(`^(?:0|[1-9][0-9]{0,8})$`)
)

// quoted is what stands for a text within quotes, by the chapter's words.
func quoted(s string) string {
	out := `"`
	for _, c := range []byte(s) {
		switch {
		case c == '"':
			out += `\"`
		case c == '\\':
			out += `\\`
		case c == 10:
			out += `\n`
		case c == 9:
			out += `\t`
		case c < 0x20, c == 0x7F:
			out += fmt.Sprintf(`\x%02x`, c)
		default:
			out += string([]byte{c})
		}
	}
	return out + `"`
}

// cut is what the chapter's words tell of a text's first bytes.
func cut(s string) (int, api.Errno) {
	form := plainAhead
	if strings.HasPrefix(s, `"`) {
		form = quoteAhead
	}
	if n := len(form.FindString(s)); n > 0 {
		return n, api.OK
	}
	return 0, api.ErrForm
}

// read is what the chapter's words tell of a text that stands so.
func read(s string) (string, api.Errno) {
	text := s
	switch {
	case plainForm.MatchString(s):
	case quoteForm.MatchString(s):
		text = inQuotes.ReplaceAllStringFunc(s[1:len(s)-1], func(one string) string {
			switch one[1] {
			case 'n':
				return "\n"
			case 't':
				return "\t"
			case 'x':
				n, _ := strconv.ParseUint(one[2:], 16, 8)
				return string([]byte{byte(n)})
			}
			return one[1:]
		})
	default:
		return "", api.ErrForm
	}
	switch {
	case len(text) > 4096:
		return "", api.ErrLong
	case !utf8.ValidString(text):
		return "", api.ErrUtf
	}
	return text, api.OK
}

// hold holds all calls with a text against the chapter's words, and what follows.
func hold(t *testing.T, s string) {
	t.Helper()
	plain := plainForm.MatchString(s)
	if got := scalar.Plain(s); got != plain {
		t.Fatalf("Plain(%q): %v", s, got)
	}
	want := quoted(s)
	if got := scalar.Quote(s); got != want {
		t.Fatalf("Quote(%q): %s, not %s", s, got, want)
	}
	if plain {
		want = s
	}
	if got := scalar.Put(s); got != want {
		t.Fatalf("Put(%q): %s, not %s", s, got, want)
	}
	n, e := cut(s)
	if got, ge := scalar.Cut(s); got != n || ge != e {
		t.Fatalf("Cut(%q): %d, %d, not %d, %d", s, got, ge, n, e)
	}
	text, e := read(s)
	if got, ge := scalar.Read(s); got != text || ge != e {
		t.Fatalf("Read(%.80q): %.80q, %d, not %.80q, %d", s, got, ge, text, e)
	}
	holdBack(t, s)
	holdNumber(t, s)
}

// holdBack holds what is put and quoted against what is read of it.
func holdBack(t *testing.T, s string) {
	t.Helper()
	want, e := s, api.OK
	switch {
	case len(s) > api.MaxText:
		want, e = "", api.ErrLong
	case !utf8.ValidString(s):
		want, e = "", api.ErrUtf
	}
	for _, put := range []string{scalar.Put(s), scalar.Quote(s)} {
		if got, ge := scalar.Read(put); got != want || ge != e {
			t.Fatalf("Read(%.80q): %.80q, %d, not %.80q, %d", put, got, ge, want, e)
		}
		for _, behind := range []string{"", " # a", ": b", `"`, `\`, "\xFF"} {
			if n, ge := scalar.Cut(put + behind); n != len(put) || ge != api.OK {
				t.Fatalf("Cut(%.80q): %d, %d, not %d", put+behind, n, ge, len(put))
			}
		}
		if left := line.Strip(put + " # a"); left != put {
			t.Fatalf("of %.80q with a remark %.80q is left", put, left)
		}
	}
}

// holdNumber holds Number against the chapter's words.
func holdNumber(t *testing.T, s string) {
	t.Helper()
	want, e := 0, api.ErrForm
	if numberForm.MatchString(s) {
		want, _ = strconv.Atoi(s)
		e = api.OK
	}
	got, ge := scalar.Number(s)
	if got != want || ge != e {
		t.Fatalf("Number(%q): %d, %d, not %d, %d", s, got, ge, want, e)
	}
	if ge == api.OK && scalar.Digits(got) != s {
		t.Fatalf("Digits(%d): %q, not %q", got, scalar.Digits(got), s)
	}
}

// each gives each text of so many bytes of these at most.
func each(signs string, most int, give func(s string)) {
	var grow func(s string)
	grow = func(s string) {
		give(s)
		if len(s) == most {
			return
		}
		for _, c := range []byte(signs) {
			grow(s + string([]byte{c}))
		}
	}
	grow("")
}

func TestPlain(t *testing.T) { // P18.1
	for _, c := range []struct {
		s    string
		want bool
	}{
		{"a", true}, {"Z9", true}, {"0", true}, {"007", true}, {"._/+@", true}, {"a-b", true}, {"a-", true}, {"a--", true}, {".-", true}, {"9-", true},
		{"-", false}, {"-a", false}, {"--", false}, {"", false}, {"a b", false}, {" a", false}, {"a ", false}, {"a:", false}, {"a#b", false}, {`"a"`, false}, {`a"`, false},
		{"a\n", false}, {"\na", false}, {"\xC3\xA4", false}, {"a\xC3\xA4", false}, {"a\x80", false}, {"[]", false}, {"{}", false}, {"a,b", false}, {"a_b", true}, {"a\\b", false},
		{strings.Repeat("a", 5000), true}, {strings.Repeat("a", 5000) + " ", false},
	} {
		if got := scalar.Plain(c.s); got != c.want {
			t.Errorf("Plain(%.30q): %v", c.s, got)
		}
	}
}

func TestEachByte(t *testing.T) { // P18.1, P18.2, P18.3
	const plain = "abcdefghijklmnopqrstuvwxyzABCDEFGHIJKLMNOPQRSTUVWXYZ0123456789._/+@"
	for x := range 256 {
		b := string([]byte{byte(x)})
		alone := strings.Contains(plain, b)
		if scalar.Plain(b) != alone || scalar.Plain("a"+b) != (alone || b == "-") || scalar.Plain(b+"a") != alone {
			t.Errorf("Plain(%q): %v, behind another one %v", b, scalar.Plain(b), scalar.Plain("a"+b))
		}
		want := 2
		if alone || b == "-" {
			want = 3
		}
		if n, e := scalar.Cut("ab" + b); n != want || e != api.OK {
			t.Errorf("Cut of ab and %q: %d, %d", b, n, e)
		}
		for _, s := range []string{b, "a" + b, b + b, `"` + b + `"`, `"a` + b + `b"`, `"\` + b + `"`, `"\` + b + `b"`, `\` + b, `"` + b, b + `"`, `"\` + b, `"a"` + b, `"\\` + b + `"`} {
			hold(t, s)
		}
	}
}

func TestQuoteAndPut(t *testing.T) { // P18.1, the first example
	for _, c := range []struct{ s, quote, put string }{
		{"a b", `"a b"`, `"a b"`},
		{"", `""`, `""`},
		{"a", `"a"`, "a"},
		{"-a", `"-a"`, `"-a"`},
		{"a-", `"a-"`, "a-"},
		{"12", `"12"`, "12"},
		{`"`, `"\""`, `"\""`},
		{`\`, `"\\"`, `"\\"`},
		{`\n`, `"\\n"`, `"\\n"`},
		{"a\nb\tc", `"a\nb\tc"`, `"a\nb\tc"`},
		{"\x00\x07\x0F\x10\x1F\x7F", `"\x00\x07\x0f\x10\x1f\x7f"`, `"\x00\x07\x0f\x10\x1f\x7f"`},
		{"\r\v\f\b", `"\x0d\x0b\x0c\x08"`, `"\x0d\x0b\x0c\x08"`},
		{"'~ !#:", `"'~ !#:"`, `"'~ !#:"`},
		{"\xC3\xA4", "\"\xC3\xA4\"", "\"\xC3\xA4\""},
		{"\x80\xFF", "\"\x80\xFF\"", "\"\x80\xFF\""},
		{"\xC2\x85\xE2\x80\xA8", "\"\xC2\x85\xE2\x80\xA8\"", "\"\xC2\x85\xE2\x80\xA8\""},
	} {
		if got := scalar.Quote(c.s); got != c.quote {
			t.Errorf("Quote(%q): %s, not %s", c.s, got, c.quote)
		}
		if got := scalar.Put(c.s); got != c.put {
			t.Errorf("Put(%q): %s, not %s", c.s, got, c.put)
		}
	}
}

func TestCut(t *testing.T) { // P18.2
	for _, c := range []struct {
		s string
		n int
		e api.Errno
	}{
		{"", 0, api.ErrForm},
		{"a", 1, api.OK},
		{"a-b: c", 3, api.OK},
		{"a-", 2, api.OK},
		{"a--:", 3, api.OK},
		{"-a", 0, api.ErrForm},
		{"- a", 0, api.ErrForm},
		{" a", 0, api.ErrForm},
		{": a", 0, api.ErrForm},
		{"[]", 0, api.ErrForm},
		{`\a`, 0, api.ErrForm},
		{"'a'", 0, api.ErrForm},
		{"\xC3\xA4", 0, api.ErrForm},
		{"a\xC3\xA4", 1, api.OK},
		{"a\x00", 1, api.OK},
		{`a"b"`, 1, api.OK},
		{"1:", 1, api.OK},
		{`"`, 0, api.ErrForm},
		{`"a`, 0, api.ErrForm},
		{`""`, 2, api.OK},
		{`"" a`, 2, api.OK},
		{`"""`, 2, api.OK},
		{`"a": b`, 3, api.OK},
		{`"a" "b"`, 3, api.OK},
		{`"\"`, 0, api.ErrForm},
		{`"\"a`, 0, api.ErrForm},
		{`"\""`, 4, api.OK},
		{`"\"":`, 4, api.OK},
		{`"\\"`, 4, api.OK},
		{`"\\""`, 4, api.OK},
		{`"\\\"`, 0, api.ErrForm},
		{`"\\\""`, 6, api.OK},
		{`"a\\" "`, 5, api.OK},
		{`"\q" a`, 4, api.OK},
		{`"\`, 0, api.ErrForm},
		{`"\\`, 0, api.ErrForm},
		{"\"\x00\n\x7F\xFF\"a", 6, api.OK},
		{"\"\\\n\"", 4, api.OK},
		{"\"\\\xFF\"", 4, api.OK},
	} {
		if n, e := scalar.Cut(c.s); n != c.n || e != c.e {
			t.Errorf("Cut(%q): %d, %d, not %d, %d", c.s, n, e, c.n, c.e)
		}
	}
}

func TestRead(t *testing.T) { // P18.3, the second example
	for _, c := range []struct{ s, want string }{
		{`"\x07"`, "\x07"},
		{"a", "a"},
		{"a-b", "a-b"},
		{"007", "007"},
		{`""`, ""},
		{`"a"`, "a"},
		{`"a b"`, "a b"},
		{`" "`, " "},
		{`"-a"`, "-a"},
		{`"# a: [] {} '~"`, "# a: [] {} '~"},
		{`"\"\\\n\t"`, "\"\\\n\t"},
		{`"\\n"`, `\n`},
		{`"\\\n"`, "\\\n"},
		{`"\\x41"`, `\x41`},
		{`"\x41\x7a\x61"`, "Aza"},
		{`"\x00\x7f\x0a\x09\x1f\x20"`, "\x00\x7F\n\t\x1F "},
		{`"\x22\x5c"`, `"\`},
		{`"\x5cn"`, `\n`},
		{`"\x411"`, "A1"},
		{`"\n1"`, "\n1"},
		{"\"\xC3\xA4\"", "\xC3\xA4"},
		{"\"\xC2\x80\xF4\x8F\xBF\xBF\"", "\xC2\x80\xF4\x8F\xBF\xBF"},
		{"\"\xEF\xBF\xBD\"", "\xEF\xBF\xBD"},
	} {
		if got, e := scalar.Read(c.s); got != c.want || e != api.OK {
			t.Errorf("Read(%q): %q, %d, not %q", c.s, got, e, c.want)
		}
	}
}

func TestReadErrors(t *testing.T) { // P18.3
	long := strings.Repeat("a", api.MaxText)
	for _, c := range []struct {
		s    string
		want api.Errno
	}{
		{"", api.ErrForm},
		{"-", api.ErrForm},
		{"-a", api.ErrForm},
		{"a b", api.ErrForm},
		{" a", api.ErrForm},
		{"a ", api.ErrForm},
		{"a:", api.ErrForm},
		{"[]", api.ErrForm},
		{"'a'", api.ErrForm},
		{"\xC3\xA4", api.ErrForm},
		{"\xFF", api.ErrForm},
		{"a\xFF", api.ErrForm},
		{`"`, api.ErrForm},
		{`"a`, api.ErrForm},
		{`a"`, api.ErrForm},
		{`"""`, api.ErrForm},
		{`"a"b`, api.ErrForm},
		{`"a" `, api.ErrForm},
		{` "a"`, api.ErrForm},
		{`"a""`, api.ErrForm},
		{`"a"b"`, api.ErrForm},
		{`"a""b"`, api.ErrForm},
		{`"\"`, api.ErrForm},
		{`"\\\"`, api.ErrForm},
		{`"\\""`, api.ErrForm},
		{`"\a"`, api.ErrForm},
		{`"\N"`, api.ErrForm},
		{`"\T"`, api.ErrForm},
		{`"\r"`, api.ErrForm},
		{`"\0"`, api.ErrForm},
		{`"\ "`, api.ErrForm},
		{`"\/"`, api.ErrForm},
		{`"\'"`, api.ErrForm},
		{`"\x"`, api.ErrForm},
		{`"\x4"`, api.ErrForm},
		{`"\x4g"`, api.ErrForm},
		{`"\xg4"`, api.ErrForm},
		{`"\x4A"`, api.ErrForm},
		{`"\X41"`, api.ErrForm},
		{`"\x80"`, api.ErrForm},
		{`"\xff"`, api.ErrForm},
		{`"\xc3\xa4"`, api.ErrForm},
		{`"\x4\x41"`, api.ErrForm},
		{`"\x4"a"`, api.ErrForm},
		{`"\u0041"`, api.ErrForm},
		{"\"\n\"", api.ErrForm},
		{"\"a\tb\"", api.ErrForm},
		{"\"\x00\"", api.ErrForm},
		{"\"\x1F\"", api.ErrForm},
		{"\"\x7F\"", api.ErrForm},
		{"\"\\\n\"", api.ErrForm},
		{"\"\\\xC3\xA4\"", api.ErrForm},
		{"\"\xFF\"", api.ErrUtf},
		{"\"a\xC3\"", api.ErrUtf},
		{"\"\xC3\\x24\"", api.ErrUtf},
		{"\"\x80\\n\"", api.ErrUtf},
		{"\"\xC0\x80\"", api.ErrUtf},
		{"\"\xED\xA0\x80\"", api.ErrUtf},
		{"\"\xFF\t\"", api.ErrForm},
		{"\"\xFF\\q\"", api.ErrForm},
		{long + "a", api.ErrLong},
		{`"` + long + `a"`, api.ErrLong},
		{`"` + long + `\n"`, api.ErrLong},
		{"\"" + long + "\xFF\"", api.ErrLong},
		{"\"\xFF" + long + "\"", api.ErrLong},
		{"\"\xFF" + long[1:] + "\"", api.ErrUtf},
		{`"` + long + `a\q"`, api.ErrForm},
		{`"` + long + `a`, api.ErrForm},
		{`"` + long + "a\x01\"", api.ErrForm},
		{long + "a ", api.ErrForm},
	} {
		if got, e := scalar.Read(c.s); got != "" || e != c.want {
			t.Errorf("Read(%.40q): %.40q, %d, not %d", c.s, got, e, c.want)
		}
	}
}

func TestReadAtMost(t *testing.T) { // P18.3, P18.5
	for _, one := range []string{"a", " ", "\x00", "\n", `"`, "\\", "\x7F", "\xC3\xA4", "\xF0\x9F\x98\x80"} {
		s := strings.Repeat(one, api.MaxText/len(one))
		hold(t, s)
		hold(t, s+"a")
		hold(t, s[:len(s)-len(one)]+"a")
	}
	if got, e := scalar.Read(strings.Repeat("a", api.MaxText)); len(got) != api.MaxText || e != api.OK {
		t.Errorf("Read of as many plain bytes as may be: %d bytes, %d", len(got), e)
	}
	if got, e := scalar.Read(`"` + strings.Repeat(`\x00`, api.MaxText) + `"`); len(got) != api.MaxText || e != api.OK {
		t.Errorf("Read of as many bytes as may be within quotes: %d bytes, %d", len(got), e)
	}
}

func TestEachTwoDigits(t *testing.T) { // P18.3
	const digits = "0123456789abcdef"
	for x := range 256 {
		for y := range 256 {
			s := `"\x` + string([]byte{byte(x), byte(y)}) + `"`
			want, e := "", api.ErrForm
			if high, low := strings.IndexByte(digits[:8], byte(x)), strings.IndexByte(digits, byte(y)); high >= 0 && low >= 0 {
				want, e = string([]byte{byte(high*16 + low)}), api.OK
			}
			if got, ge := scalar.Read(s); got != want || ge != e {
				t.Fatalf("Read(%q): %q, %d, not %q, %d", s, got, ge, want, e)
			}
		}
	}
}

func TestEachShortText(t *testing.T) { // P18.1, P18.2, P18.3, P18.5
	each("a-\"\\ \n\xC3\xA4", 5, func(s string) { hold(t, s) })
	each("x0\"\\", 7, func(s string) { hold(t, s) })
	each("\"\\nt", 7, func(s string) { hold(t, s) })
	each("x7f\\", 6, func(s string) { hold(t, `"`+s+`"`) })
}

func TestNumber(t *testing.T) { // P18.4
	for _, c := range []struct {
		s string
		n int
		e api.Errno
	}{
		{"0", 0, api.OK},
		{"7", 7, api.OK},
		{"10", 10, api.OK},
		{"999999999", 999999999, api.OK},
		{"100000000", 100000000, api.OK},
		{"123456789", 123456789, api.OK},
		{"1000000000", 0, api.ErrForm},
		{"9999999999", 0, api.ErrForm},
		{"18446744073709551617", 0, api.ErrForm},
		{strings.Repeat("9", 5000), 0, api.ErrForm},
		{"", 0, api.ErrForm},
		{"00", 0, api.ErrForm},
		{"01", 0, api.ErrForm},
		{"000000000", 0, api.ErrForm},
		{"012345678", 0, api.ErrForm},
		{"-1", 0, api.ErrForm},
		{"-0", 0, api.ErrForm},
		{"+1", 0, api.ErrForm},
		{" 1", 0, api.ErrForm},
		{"1 ", 0, api.ErrForm},
		{"1\n", 0, api.ErrForm},
		{"1_0", 0, api.ErrForm},
		{"1.0", 0, api.ErrForm},
		{"1e3", 0, api.ErrForm},
		{"0x1", 0, api.ErrForm},
		{"a", 0, api.ErrForm},
		{"1a", 0, api.ErrForm},
		{"a1", 0, api.ErrForm},
		{`"1"`, 0, api.ErrForm},
		{"\xD9\xA1", 0, api.ErrForm},
		{"1\xFF", 0, api.ErrForm},
		{"1\x00", 0, api.ErrForm},
	} {
		if n, e := scalar.Number(c.s); n != c.n || e != c.e {
			t.Errorf("Number(%.30q): %d, %d, not %d, %d", c.s, n, e, c.n, c.e)
		}
	}
	each("0159-+_x \xFF", 4, func(s string) { holdNumber(t, s) })
}

func TestDigits(t *testing.T) { // P18.4
	for _, c := range []struct {
		n    int
		want string
	}{
		{0, "0"}, {9, "9"}, {10, "10"}, {101, "101"}, {999999999, "999999999"}, {999999998, "999999998"}, {100000000, "100000000"},
		{1000000000, ""}, {-1, ""}, {-999999999, ""}, {math.MaxInt, ""}, {math.MinInt, ""}, {1 << 32, ""}, {1<<32 + 1, ""},
	} {
		if got := scalar.Digits(c.n); got != c.want {
			t.Errorf("Digits(%d): %q, not %q", c.n, got, c.want)
		}
	}
}

func TestNumbersAreReadAsWritten(t *testing.T) { // P18.5
	step := 1
	for n := 0; n <= 999999999; n += step {
		if got, e := scalar.Number(scalar.Digits(n)); got != n || e != api.OK || !scalar.Plain(scalar.Digits(n)) {
			t.Fatalf("Number(Digits(%d)): %d, %d", n, got, e)
		}
		step = 1 + n/1000
	}
}

// FuzzRead holds any bytes against the chapter's words, and what follows.
func FuzzRead(f *testing.F) {
	for _, s := range []string{"", "a", "-a", `"\x07"`, `"a b" c`, `"\\" "`, `"\`, "\"\xC3\xA4\\n\"", "\"\xFF\"", "123456789", "01", "a\n\t\x7F", strings.Repeat("a", 4097)} {
		f.Add(s)
	}
	f.Fuzz(func(t *testing.T, s string) {
		hold(t, s)
		hold(t, `"`+s+`"`)
	})
}
