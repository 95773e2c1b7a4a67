package line_test

import (
	"bytes"
	"math"
	"regexp"
	"slices"
	"strings"
	"testing"
	"unicode/utf8"

	"rescript/api"
	"rescript/line"
)

// quotes is quotes and what stands within, up to the end, if they aren't closed.
var quotes = regexp.MustCompile(`(?s)"(?:[^"\\]|\\.)*(?:"|\\?$)`)

// stripped is what the chapter's words leave of a line.
func stripped(s string) string {
	within := make([]bool, len(s))
	for _, q := range quotes.FindAllStringIndex(s, -1) {
		for at := q[0]; at < q[1]; at++ {
			within[at] = true
		}
	}
	for at := range s {
		if s[at] == '#' && (at == 0 || s[at-1] == ' ') && !within[at] {
			s = s[:at]
			break
		}
	}
	for strings.HasSuffix(s, " ") {
		s = s[:len(s)-1]
	}
	return s
}

// read is what the chapter's words tell of a text.
func read(s string) ([]line.Line, api.Fault) {
	if len(s) > 1<<20 {
		return nil, api.Fault{Errno: api.ErrLong}
	}
	all := strings.Split(s, "\n")
	for i, one := range all {
		if !utf8.ValidString(one) {
			return nil, api.Fault{Errno: api.ErrUtf, At: i + 1}
		}
	}
	var out []line.Line
	for i, one := range all {
		for _, c := range []byte(one) {
			if c < 0x20 || c == 0x7F {
				return nil, api.Fault{Errno: api.ErrForm, At: i + 1}
			}
		}
		col := 0
		for col < len(one) && one[col] == ' ' {
			col++
		}
		if left := stripped(one); len(left) > col {
			out = append(out, line.Line{N: i + 1, Col: col, Text: left[col:]})
		}
	}
	return out, api.Fault{}
}

// numbered is lines, each with another number.
func numbered(l []line.Line, number func(i int) int) []line.Line {
	out := slices.Clone(l)
	for i := range out {
		out[i].N = number(i)
	}
	return out
}

// hold holds Strip, Count and All against the chapter's words, and what follows.
func hold(t *testing.T, s string) {
	t.Helper()
	if got, want := line.Strip(s), stripped(s); got != want {
		t.Fatalf("Strip(%q): %q, not %q", s, got, want)
	}
	n := strings.Count(s+"$", "\n")
	if !strings.HasSuffix("\n"+s, "\n") {
		n++
	}
	if got := line.Count(s); got != n {
		t.Fatalf("Count(%q): %d, not %d", s, got, n)
	}
	got, f := line.All(s)
	want, g := read(s)
	if !slices.Equal(got, want) || f != g {
		t.Fatalf("All(%q): %v, %v, not %v, %v", s, got, f, want, g)
	}
	holdJoined(t, got)
}

// holdJoined holds lines that were read against what is read when they are put together.
func holdJoined(t *testing.T, l []line.Line) {
	t.Helper()
	joined := line.Join(l)
	if len(joined) > line.Most || slices.ContainsFunc(l, func(x line.Line) bool { return x.Col > 100 }) {
		return
	}
	again, f := line.All(joined)
	if f != (api.Fault{}) || !slices.Equal(again, numbered(l, func(i int) int { return i + 1 })) {
		t.Fatalf("All of %q, which is %v put together: %v, %v", joined, l, again, f)
	}
	if line.Join(again) != joined || line.Count(joined) != len(l) {
		t.Fatalf("%q, read and put together: %q, lines: %d", joined, line.Join(again), line.Count(joined))
	}
}

// each gives each text of so many bytes of these at most.
func each(signs string, most int, give func(s string)) {
	var grow func(s string)
	grow = func(s string) {
		give(s)
		if len(s) == most {
			return
		}
		for _, c := range []byte(signs) {
			grow(s + string([]byte{c}))
		}
	}
	grow("")
}

func TestStrip(t *testing.T) { // P17.1, the example
	for _, c := range []struct{ s, want string }{
		{`a "b # c" # d`, `a "b # c"`},
		{"", ""},
		{" ", ""},
		{"   ", ""},
		{"a", "a"},
		{"  a", "  a"},
		{"a  ", "a"},
		{"  a b  ", "  a b"},
		{"#", ""},
		{"# a", ""},
		{"#a", ""},
		{" #", ""},
		{"   # a", ""},
		{"a#", "a#"},
		{"a# b", "a# b"},
		{"a#b #c #d", "a#b"},
		{"a #", "a"},
		{"a    #b", "a"},
		{"a #b  ", "a"},
		{"##", ""},
		{"a ##", "a"},
		{"a# #", "a#"},
		{"a #\"b\"", "a"},
		{"a # \" # b", "a"},
		{`"#"`, `"#"`},
		{`" #"`, `" #"`},
		{`" #" #`, `" #"`},
		{`"a"#`, `"a"#`},
		{`"a"# #b`, `"a"#`},
		{`"a" "b # c" # d`, `"a" "b # c"`},
		{`"a # b`, `"a # b`},
		{`"a # b  `, `"a # b`},
		{`"`, `"`},
		{`"" # a`, `""`},
		{`""" # a`, `""" # a`},
		{`"""" # a`, `""""`},
		{`a"b # c`, `a"b # c`},
		{`a"b # c" # d`, `a"b # c"`},
		{`it"s # a" #`, `it"s # a"`},
		{`"\" # a`, `"\" # a`},
		{`"\" # a" # b`, `"\" # a"`},
		{`"\\" # a`, `"\\"`},
		{`"\\\" # a" # b`, `"\\\" # a"`},
		{`"\\\\" # a`, `"\\\\"`},
		{`"\a" # b`, `"\a"`},
		{`"\ # a" # b`, `"\ # a"`},
		{`"a\`, `"a\`},
		{`"a\ `, `"a\`},
		{`\" # a`, `\" # a`},
		{`\"a" # b`, `\"a"`},
		{`\ # a`, `\`},
		{`\\ # a`, `\\`},
		{`"a" \" # b" # c`, `"a" \" # b"`},
		{`'a # b'`, `'a`},
		{"\t# a", "\t# a"},
		{"a\t # b", "a\t"},
		{"a\t", "a\t"},
		{"a \t", "a \t"},
		{"\n", "\n"},
		{"a\n# b", "a\n# b"},
		{"a\n # b\nc", "a\n"},
		{"# a\nb", ""},
		{"a # b\nc", "a"},
		{"\"a\n # b\" # c", "\"a\n # b\""},
		{"\"\\\n\" # c", "\"\\\n\""},
		{"a\n  ", "a\n"},
		{"\x00 #", "\x00"},
		{"\xFF # a", "\xFF"},
		{"\xFF#", "\xFF#"},
		{"\xC2\xA0# a", "\xC2\xA0# a"},
		{"a\xC2\xA0", "a\xC2\xA0"},
		{"\xC3\xA4 # a", "\xC3\xA4"},
	} {
		if got := line.Strip(c.s); got != c.want {
			t.Errorf("Strip(%q): %q, not %q", c.s, got, c.want)
		}
	}
}

func TestEachByteAboutARemark(t *testing.T) { // P17.1
	for x := range 256 {
		b := string([]byte{byte(x)})
		alone, atEnd := "a"+b+"# c", "a"+b
		if b == " " {
			alone, atEnd = "a", "a"
		}
		if got := line.Strip("a" + b + "# c"); got != alone {
			t.Errorf("Strip of a # behind %q: %q", b, got)
		}
		if got := line.Strip("a" + b); got != atEnd {
			t.Errorf("Strip of %q at the end: %q", b, got)
		}
		for _, s := range []string{b, b + b, b + " # a", b + "# a", "# " + b, "\"" + b + " # a", "\"\\" + b + "\" # a", "\\" + b + " # a"} {
			if got, want := line.Strip(s), stripped(s); got != want {
				t.Errorf("Strip(%q): %q, not %q", s, got, want)
			}
		}
	}
}

func TestEachShortText(t *testing.T) { // P17.1, P17.2, P17.4
	each("a #\"\\\n", 6, func(s string) { hold(t, s) })
	each("a#\xC3\xA4\t\n", 5, func(s string) { hold(t, s) })
	each(" #\"\\", 8, func(s string) { hold(t, s) })
}

func TestCount(t *testing.T) { // P17.1
	for _, c := range []struct {
		s    string
		want int
	}{
		{"", 0}, {"a", 1}, {" ", 1}, {"#", 1}, {"\n", 1}, {"a\n", 1}, {"a\nb", 2}, {"a\nb\n", 2}, {"\n\n", 2}, {"\n\na", 3}, {"a\n\n\n", 3},
		{"\na", 2}, {"\r", 1}, {"a\rb", 1}, {"\x00", 1}, {"\xFF\n\xFF", 2}, {"\"a\n\"", 2}, {"# a\n# b", 2}, {"\xE2\x80\xA8", 1},
		{strings.Repeat("\n", 1<<21), 1 << 21}, {strings.Repeat("\n", 1<<21) + " ", 1<<21 + 1},
	} {
		if got := line.Count(c.s); got != c.want {
			t.Errorf("Count(%.20q): %d, not %d", c.s, got, c.want)
		}
	}
}

func TestAll(t *testing.T) { // P17.2
	for _, c := range []struct {
		s    string
		want []line.Line
	}{
		{"", nil},
		{" ", nil},
		{"\n", nil},
		{"\n \n# a\n  # b\n", nil},
		{"a", []line.Line{{1, 0, "a"}}},
		{"a\n", []line.Line{{1, 0, "a"}}},
		{"  a", []line.Line{{1, 2, "a"}}},
		{"a  \n  b c  \n", []line.Line{{1, 0, "a"}, {2, 2, "b c"}}},
		{"\n\n a # b\n\nc", []line.Line{{3, 1, "a"}, {5, 0, "c"}}},
		{"# a\n- b: \"# c\" # d\n # e\n   - \"", []line.Line{{2, 0, `- b: "# c"`}, {4, 3, `- "`}}},
		{"\"a\n# b\n\"", []line.Line{{1, 0, `"a`}, {3, 0, `"`}}},
		{"\"a\\\n\" # b", []line.Line{{1, 0, `"a\`}, {2, 0, `" # b`}}},
		{"a\nb\nc\n", []line.Line{{1, 0, "a"}, {2, 0, "b"}, {3, 0, "c"}}},
		{"\xC2\xA0a\n \xE2\x82\xAC \n", []line.Line{{1, 0, "\xC2\xA0a"}, {2, 1, "\xE2\x82\xAC"}}},
		{"\xC2\x80\xC2\x9F", []line.Line{{1, 0, "\xC2\x80\xC2\x9F"}}},
		{" ~\xEF\xBF\xBD", []line.Line{{1, 1, "~\xEF\xBF\xBD"}}},
		{strings.Repeat(" ", 200) + "a", []line.Line{{1, 200, "a"}}},
		{strings.Repeat("\n", 300) + "a #", []line.Line{{301, 0, "a"}}},
	} {
		if got, f := line.All(c.s); !slices.Equal(got, c.want) || f != (api.Fault{}) {
			t.Errorf("All(%.40q): %v, %v, not %v", c.s, got, f, c.want)
		}
	}
}

func TestAllFaults(t *testing.T) { // P17.2
	for _, c := range []struct {
		s string
		e api.Errno
		n int
	}{
		{"\t", api.ErrForm, 1},
		{"a\t", api.ErrForm, 1},
		{"a\n\tb", api.ErrForm, 2},
		{"a\r\nb", api.ErrForm, 1},
		{"a\nb\nc\r", api.ErrForm, 3},
		{"\x00", api.ErrForm, 1},
		{"a\n\n\x1F\n\x7F", api.ErrForm, 3},
		{"a\n\n\x7F\n\x1F", api.ErrForm, 3},
		{"# \t", api.ErrForm, 1},
		{"a # \x7F\nb\x01", api.ErrForm, 1},
		{"a\n\"\x7F\"", api.ErrForm, 2},
		{"\v\n", api.ErrForm, 1},
		{"\xFF", api.ErrUtf, 1},
		{"\xC3", api.ErrUtf, 1},
		{"\xC3\n", api.ErrUtf, 1},
		{"\n\xC3\n", api.ErrUtf, 2},
		{"a\nb\xE2\x82\nc", api.ErrUtf, 2},
		{"a\n\xC3\n\xA4", api.ErrUtf, 2},
		{"a\n\n\n# \x80", api.ErrUtf, 4},
		{"\xED\xA0\x80\n\xFF", api.ErrUtf, 1},
		{"a\n\xC0\x8A", api.ErrUtf, 2},
		{"\t\n\xFF", api.ErrUtf, 2},
		{"\xFF\n\t", api.ErrUtf, 1},
		{"\t\xFF", api.ErrUtf, 1},
		{strings.Repeat("\n", line.Most) + "\n", api.ErrLong, 0},
		{strings.Repeat("a", line.Most+1), api.ErrLong, 0},
		{"\t\xFF" + strings.Repeat("a", line.Most-1), api.ErrLong, 0},
		{strings.Repeat("a", line.Most) + "\xFF", api.ErrLong, 0},
		{strings.Repeat("\n", line.Most-1) + "\xFF", api.ErrUtf, line.Most},
		{strings.Repeat("\n", line.Most-1) + "\t", api.ErrForm, line.Most},
	} {
		if got, f := line.All(c.s); len(got) != 0 || f != (api.Fault{Errno: c.e, At: c.n}) {
			t.Errorf("All(%.40q): %v, %v, not %d at %d", c.s, got, f, c.e, c.n)
		}
	}
}

func TestEachByteInALine(t *testing.T) { // P17.2
	for x := range 256 {
		for _, ahead := range []string{"", "b", "\n\nb", "# "} {
			s := ahead + string([]byte{byte(x)}) + "c\nd"
			want := api.Fault{At: 1 + strings.Count(ahead, "\n")}
			switch {
			case x >= 0x80:
				want.Errno = api.ErrUtf
			case x == 0x7F || x < 0x20 && x != '\n':
				want.Errno = api.ErrForm
			default:
				want.At = 0
			}
			if got, f := line.All(s); f != want || (f.Errno == api.OK) != (len(got) > 0) {
				t.Errorf("All(%q): %v, %v, not %v", s, got, f, want)
			}
		}
	}
}

func TestMost(t *testing.T) { // P17.2
	if line.Most != 1<<20 {
		t.Fatalf("Most is %d", line.Most)
	}
	for _, s := range []string{
		strings.Repeat("a", line.Most),
		strings.Repeat(" ", line.Most-1) + "a",
		strings.Repeat("a\n", line.Most/2),
		strings.Repeat("\"\\\"\" #\n", line.Most/7),
		strings.Repeat("\xF0\x9F\x98\x80", line.Most/4),
		strings.Repeat("\n", line.Most),
	} {
		got, f := line.All(s)
		if want, g := read(s); !slices.Equal(got, want) || f != g || f != (api.Fault{}) {
			t.Errorf("All of %d bytes, %.20q: %d lines, %v, not %d, %v", len(s), s, len(got), f, len(want), g)
		}
	}
}

func TestJoin(t *testing.T) { // P17.3
	for _, c := range []struct {
		l    []line.Line
		want string
	}{
		{nil, ""},
		{[]line.Line{}, ""},
		{[]line.Line{{}}, "\n"},
		{[]line.Line{{}, {}}, "\n\n"},
		{[]line.Line{{1, 0, "a"}}, "a\n"},
		{[]line.Line{{7, 2, "a"}, {3, 1, "b c"}}, "  a\n b c\n"},
		{[]line.Line{{-5, -1, "a"}, {math.MinInt, math.MinInt, "b"}}, "a\nb\n"},
		{[]line.Line{{1, 99, "a"}, {2, 100, "b"}, {3, 101, "c"}, {4, math.MaxInt, "d"}}, strings.Repeat(" ", 99) + "a\n" + strings.Repeat(" ", 100) + "b\n" + strings.Repeat(" ", 100) + "c\n" + strings.Repeat(" ", 100) + "d\n"},
		{[]line.Line{{1, 1, ""}, {2, 0, " # a \n"}, {3, 0, "\xFF\t\""}}, " \n # a \n\n\xFF\t\"\n"},
	} {
		if got := line.Join(c.l); got != c.want {
			t.Errorf("Join(%v): %q, not %q", c.l, got, c.want)
		}
	}
}

func TestWhatChangesNothing(t *testing.T) { // P17.4
	all := []string{"saga: \"a # b\"", "steps:", "  - name: \"\\\"#\"", "    note: {}", "  - \"never closed", "x"}
	want, f := line.All(strings.Join(all, "\n"))
	if f != (api.Fault{}) || len(want) != len(all) {
		t.Fatalf("All: %v, %v", want, f)
	}
	for _, between := range []string{"\n\n", "\n   \n", "\n# a \"\n", "\n  # \" # b\n \n\n#\n", "  \n"} {
		more := strings.Count(between, "\n")
		for _, end := range []string{"", "\n", "\n\n", "\n  #", "\n# a\n  \n"} {
			s := strings.Join(all, between) + end
			got, f := line.All(s)
			if f != (api.Fault{}) || !slices.Equal(got, numbered(want, func(i int) int { return 1 + i*more })) {
				t.Errorf("All(%q): %v, %v", s, got, f)
			}
			holdJoined(t, got)
		}
	}
	s := "a # b\n\"c\" # d\n   e    # f \" # g\n"
	got, _ := line.All(s)
	plain, _ := line.All("a\n\"c\"\n   e")
	if !slices.Equal(got, plain) {
		t.Errorf("with remarks %v, without %v", got, plain)
	}
}

func TestAnswersAreTheCallers(t *testing.T) { // P3, P5
	in := []line.Line{{1, 1, "a"}, {2, 2, "b"}, {3, 3, "c"}}
	was := slices.Clone(in)
	if got := line.Join(in[:2]); got != " a\n  b\n" || !slices.Equal(in, was) {
		t.Errorf("Join of a list cut off: %q, and what was handed in is %v", got, in)
	}
	first, _ := line.All("a\n b")
	clear(first)
	if again, _ := line.All("a\n b"); !slices.Equal(again, []line.Line{{1, 0, "a"}, {2, 1, "b"}}) {
		t.Errorf("All behind a write to its answer: %v", again)
	}
}

// FuzzAll holds any bytes against the chapter's words, and what follows.
func FuzzAll(f *testing.F) {
	for _, s := range []string{"", "a \"b # c\" # d", "  - a: 1 # b\n\n# c\nd", "\"\\\" # a\n\"", "a\t", "\n\xC3\n", "a\r\n", "\"\\\\\" #", strings.Repeat(" ", 101) + "a"} {
		f.Add(s)
	}
	f.Fuzz(func(t *testing.T, s string) {
		hold(t, s)
		for _, one := range bytes.Split([]byte(s), []byte("\n")) {
			hold(t, string(one))
		}
	})
}
