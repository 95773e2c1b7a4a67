package tok_test

import (
	"math"
	"regexp"
	"slices"
	"strconv"
	"strings"
	"testing"
	"unicode/utf8"

	"rescript/api"
	"rescript/line"
	"rescript/tok"
)

// it is a token, in short.
type it struct {
	Kind      uint8
	Text      string
	Line, Col int
}

// toks is tokens that are told in short.
func toks(l []it) []api.Tok {
	var out []api.Tok
	for _, x := range l {
		out = append(out, api.Tok(x))
	}
	return out
}

// shape is how a text stands within a line, plain or within quotes.
const shape = `(?:[A-Za-z0-9._/+@][A-Za-z0-9._/+@-]*|"(?:[^"\\]|\\.)*")`

var (
	dashed = regexp.MustCompile(`^-( +|$)`)
	worded = regexp.MustCompile(`(?s)^` + shape + `$`)
	keyed  = regexp.MustCompile(`(?s)^(` + shape + `):( +|$)`)
	sign   = regexp.MustCompile(`\\(?:["\\nt]|x[0-7][0-9a-f])`)
	wrong  = regexp.MustCompile(`[\x00-\x1F\x7F"\\]`)
)

// unquoted is what a text that stands so is, by the words of layer 18.
func unquoted(s string) (string, api.Errno) {
	if s[0] == '"' {
		s = s[1 : len(s)-1]
		if wrong.MatchString(sign.ReplaceAllString(s, "")) {
			return "", api.ErrForm
		}
		s = sign.ReplaceAllStringFunc(s, func(x string) string {
			switch x[1] {
			case 'n':
				return "\n"
			case 't':
				return "\t"
			case 'x':
				n, _ := strconv.ParseUint(x[2:], 16, 8)
				return string([]byte{byte(n)})
			}
			return x[1:]
		})
	}
	switch {
	case len(s) > 4096:
		return "", api.ErrLong
	case !utf8.ValidString(s):
		return "", api.ErrUtf
	}
	return s, api.OK
}

// lineOf is what the chapter's words tell of a line.
func lineOf(l line.Line) ([]api.Tok, api.Errno) {
	var out []api.Tok
	left, col := l.Text, l.Col
	pass := func(t api.Tok, n int) {
		t.Line, t.Col = l.N, col
		out = append(out, t)
		left, col = left[n:], col+n
	}
	for dashed.MatchString(left) {
		pass(api.Tok{Kind: 3}, len(dashed.FindString(left)))
		if left == "" {
			return out, api.OK
		}
	}
	if m := keyed.FindStringSubmatch(left); m != nil {
		text, e := unquoted(m[1])
		if e != api.OK {
			return nil, e
		}
		pass(api.Tok{Kind: 4, Text: text}, len(m[0]))
		if left == "" {
			return out, api.OK
		}
	}
	switch {
	case left == "[]":
		pass(api.Tok{Kind: 6}, 2)
	case left == "{}":
		pass(api.Tok{Kind: 7}, 2)
	case worded.MatchString(left):
		text, e := unquoted(left)
		if e != api.OK {
			return nil, e
		}
		pass(api.Tok{Kind: 5, Text: text}, len(left))
	default:
		return nil, api.ErrForm
	}
	return out, api.OK
}

// firsts is which tokens of a line may be moved in: the first one, and each behind a dash.
func firsts(l []api.Tok) []bool {
	out := make([]bool, len(l))
	for i := range l {
		out[i] = i == 0 || l[i-1].Kind == 3
	}
	return out
}

// row is the places that are still there ahead of one: 0, and each of those before that nothing since was moved out of.
func row(before []int) []int {
	out := []int{0}
	for i, col := range before {
		if col > 0 && (i+1 == len(before) || slices.Min(before[i+1:]) >= col) && !slices.Contains(out, col) {
			out = append(out, col)
		}
	}
	return out
}

// allOf is what the chapter's words tell of a text.
func allOf(s string) ([]api.Tok, api.Fault) {
	lines, f := line.All(s)
	if f != (api.Fault{}) {
		return nil, f
	}
	var out []api.Tok
	var places []int
	last := 0
	for i, one := range lines {
		last = one.N
		l, e := lineOf(one)
		if e != api.OK {
			return nil, api.Fault{Errno: e, At: one.N}
		}
		if i == 0 && one.Col != 0 {
			return nil, api.Fault{Errno: api.ErrForm, At: one.N}
		}
		first := firsts(l)
		for j, t := range l {
			if first[j] {
				r := row(places)
				if top := slices.Max(r); t.Col > top {
					out = append(out, api.Tok{Kind: 1, Line: t.Line, Col: t.Col})
				}
				for _, c := range r {
					if c > t.Col {
						out = append(out, api.Tok{Kind: 2, Line: t.Line, Col: t.Col})
					}
				}
				if slices.Max(r) > t.Col && !slices.Contains(r, t.Col) {
					return nil, api.Fault{Errno: api.ErrForm, At: one.N}
				}
				places = append(places, t.Col)
			}
			out = append(out, t)
		}
		if len(row(places)) > 16 {
			return nil, api.Fault{Errno: api.ErrDepth, At: one.N}
		}
	}
	for range row(places)[1:] {
		out = append(out, api.Tok{Kind: 2, Line: last})
	}
	return out, api.Fault{}
}

// doubled is the text with all places doubled.
func doubled(t *testing.T, s string) string {
	t.Helper()
	lines, _ := line.All(s)
	all := make([]string, line.Count(s))
	for _, one := range lines {
		l, _ := tok.Line(one)
		out := ""
		for i, x := range l {
			end := len(one.Text)
			if i+1 < len(l) {
				end = l[i+1].Col - one.Col
			}
			out += strings.Repeat(" ", 2*x.Col-len(out)) + strings.TrimRight(one.Text[x.Col-one.Col:end], " ")
		}
		all[one.N-1] = out
	}
	return strings.Join(all, "\n")
}

// holdLine holds Line against the chapter's words.
func holdLine(t *testing.T, l line.Line) {
	t.Helper()
	got, e := tok.Line(l)
	want, g := lineOf(l)
	if !slices.Equal(got, want) || e != g {
		t.Fatalf("Line(%v): %v, %d, not %v, %d", l, got, e, want, g)
	}
}

// holdAll holds All and Deep against the chapter's words, and what follows.
func holdAll(t *testing.T, s string) {
	t.Helper()
	got, f := tok.All(s)
	want, g := allOf(s)
	if !slices.Equal(got, want) || f != g {
		t.Fatalf("All(%q): %v, %v, not %v, %v", s, got, f, want, g)
	}
	if f != (api.Fault{}) {
		return
	}
	open, most := 0, 0
	for _, x := range got {
		switch x.Kind {
		case 1:
			open++
		case 2:
			open--
		}
		if open < 0 || open > 15 {
			t.Fatalf("All(%q): %d are open in %v", s, open, got)
		}
		most = max(most, open)
	}
	if open != 0 || tok.Deep(got) != most {
		t.Fatalf("All(%q): %d are left open, Deep is %d, not %d", s, open, tok.Deep(got), most)
	}
	if len(s) > 1<<10 {
		return
	}
	more, f := tok.All(doubled(t, s))
	for i := range more {
		more[i].Col /= 2
	}
	if f != (api.Fault{}) || !slices.Equal(more, got) {
		t.Fatalf("All(%q), which is %q with places doubled: %v, %v, not %v", doubled(t, s), s, more, f, got)
	}
}

// each gives each text of so many of these at most.
func each(signs []string, most int, give func(s string)) {
	give("")
	if most == 0 {
		return
	}
	for _, c := range signs {
		each(signs, most-1, func(s string) { give(c + s) })
	}
}

func TestLine(t *testing.T) { // P19.1
	for _, c := range []struct {
		s    string
		want []it
	}{
		{"-", []it{{3, "", 7, 2}}},
		{"- ", []it{{3, "", 7, 2}}},
		{"-    ", []it{{3, "", 7, 2}}},
		{"- -", []it{{3, "", 7, 2}, {3, "", 7, 4}}},
		{"-   - a", []it{{3, "", 7, 2}, {3, "", 7, 6}, {5, "a", 7, 8}}},
		{"- a: 1", []it{{3, "", 7, 2}, {4, "a", 7, 4}, {5, "1", 7, 7}}},
		{"a", []it{{5, "a", 7, 2}}},
		{"a-", []it{{5, "a-", 7, 2}}},
		{"a:", []it{{4, "a", 7, 2}}},
		{"a: ", []it{{4, "a", 7, 2}}},
		{"a:   ", []it{{4, "a", 7, 2}}},
		{"a: b", []it{{4, "a", 7, 2}, {5, "b", 7, 5}}},
		{"a:    b", []it{{4, "a", 7, 2}, {5, "b", 7, 8}}},
		{"a: []", []it{{4, "a", 7, 2}, {6, "", 7, 5}}},
		{"a: {}", []it{{4, "a", 7, 2}, {7, "", 7, 5}}},
		{"[]", []it{{6, "", 7, 2}}},
		{"{}", []it{{7, "", 7, 2}}},
		{"- []", []it{{3, "", 7, 2}, {6, "", 7, 4}}},
		{"- {}", []it{{3, "", 7, 2}, {7, "", 7, 4}}},
		{`"a b"`, []it{{5, "a b", 7, 2}}},
		{`""`, []it{{5, "", 7, 2}}},
		{`"":`, []it{{4, "", 7, 2}}},
		{`"": ""`, []it{{4, "", 7, 2}, {5, "", 7, 6}}},
		{`"a: b": "c: d"`, []it{{4, "a: b", 7, 2}, {5, "c: d", 7, 10}}},
		{`"\"": "\x0a\\"`, []it{{4, `"`, 7, 2}, {5, "\n\\", 7, 8}}},
		{`"-": "-"`, []it{{4, "-", 7, 2}, {5, "-", 7, 7}}},
		{`"[]"`, []it{{5, "[]", 7, 2}}},
		{"- \"\xC3\xA4\": \"\xC3\xA4\"", []it{{3, "", 7, 2}, {4, "\xC3\xA4", 7, 4}, {5, "\xC3\xA4", 7, 10}}},
		{strings.Repeat("a", 4096) + ": " + strings.Repeat("b", 4096), []it{{4, strings.Repeat("a", 4096), 7, 2}, {5, strings.Repeat("b", 4096), 7, 4100}}},
	} {
		l := line.Line{N: 7, Col: 2, Text: c.s}
		if got, e := tok.Line(l); !slices.Equal(got, toks(c.want)) || e != api.OK {
			t.Errorf("Line of %.40q: %v, %d, not %v", c.s, got, e, c.want)
		}
		holdLine(t, l)
	}
}

func TestLineErrors(t *testing.T) { // P19.1
	long := strings.Repeat("a", 4097)
	for _, c := range []struct {
		s string
		e api.Errno
	}{
		{"", api.ErrForm},
		{" ", api.ErrForm},
		{" a", api.ErrForm},
		{" - a", api.ErrForm},
		{"a ", api.ErrForm},
		{"a b", api.ErrForm},
		{"a #", api.ErrForm},
		{":", api.ErrForm},
		{": a", api.ErrForm},
		{"a :", api.ErrForm},
		{"a : b", api.ErrForm},
		{"a:b", api.ErrForm},
		{"a::", api.ErrForm},
		{"a:: b", api.ErrForm},
		{"a:\tb", api.ErrForm},
		{"a: b:", api.ErrForm},
		{"a: b: c", api.ErrForm},
		{"a: b ", api.ErrForm},
		{"a: - b", api.ErrForm},
		{"a: -", api.ErrForm},
		{"a: [] ", api.ErrForm},
		{"a: []:", api.ErrForm},
		{"a: {", api.ErrForm},
		{"a: ]", api.ErrForm},
		{"-a", api.ErrForm},
		{"--", api.ErrForm},
		{"- -a", api.ErrForm},
		{"-\ta", api.ErrForm},
		{"-:", api.ErrForm},
		{"-: a", api.ErrForm},
		{"- :", api.ErrForm},
		{"[", api.ErrForm},
		{"]", api.ErrForm},
		{"[ ]", api.ErrForm},
		{"[] ", api.ErrForm},
		{"[]:", api.ErrForm},
		{"[]: a", api.ErrForm},
		{"[][]", api.ErrForm},
		{"{}a", api.ErrForm},
		{"{} {}", api.ErrForm},
		{"{ }", api.ErrForm},
		{"[}", api.ErrForm},
		{"[a]", api.ErrForm},
		{"{a: b}", api.ErrForm},
		{`"`, api.ErrForm},
		{`"a`, api.ErrForm},
		{`"a\"`, api.ErrForm},
		{`"a"b`, api.ErrForm},
		{`a"b"`, api.ErrForm},
		{`"a""b"`, api.ErrForm},
		{`"a"-`, api.ErrForm},
		{`"a":b`, api.ErrForm},
		{`"a" : b`, api.ErrForm},
		{`"\y"`, api.ErrForm},
		{`"\x80"`, api.ErrForm},
		{`"\y": a`, api.ErrForm},
		{`a: "\y"`, api.ErrForm},
		{`a: "b`, api.ErrForm},
		{`a: "b" c`, api.ErrForm},
		{"\"a\tb\"", api.ErrForm},
		{"\xC3\xA4", api.ErrForm},
		{"'a'", api.ErrForm},
		{"\"\xFF\"", api.ErrUtf},
		{"- \"\xC3\": a", api.ErrUtf},
		{"a: \"\xC3\"", api.ErrUtf},
		{long, api.ErrLong},
		{`"` + long + `"`, api.ErrLong},
		{"- " + long + ": a", api.ErrLong},
		{"- a: " + long, api.ErrLong},
		{"\"" + long + "\xFF\"", api.ErrLong},
		// What stands behind a text is looked at ahead of what it is, and all of it ahead of what stands behind a colon.
		{"\"\xFF\" a", api.ErrForm},
		{"\"\xFF\":a", api.ErrForm},
		{long + " a", api.ErrForm},
		{"\"\xFF\": a b", api.ErrUtf},
		{"\"\xFF\": " + long, api.ErrUtf},
		{long + ": \"\xFF\"", api.ErrLong},
		{long + ": - a", api.ErrLong},
		{"a: \"\xFF\" b", api.ErrForm},
		{"a: \"\xFF\": b", api.ErrForm},
		{"a: " + long + " b", api.ErrForm},
		{"a: " + long + ":", api.ErrForm},
	} {
		l := line.Line{N: 7, Col: 2, Text: c.s}
		if got, e := tok.Line(l); len(got) != 0 || e != c.e {
			t.Errorf("Line of %.40q: %v, %d, not %d", c.s, got, e, c.e)
		}
		holdLine(t, l)
	}
}

func TestAnyPlace(t *testing.T) { // P19.1, P1
	for _, n := range []int{0, 1, -1, math.MinInt, math.MaxInt} {
		for _, col := range []int{0, 1, -7, math.MinInt, math.MaxInt - 20} {
			for _, s := range []string{"", "a", "- - a: b", "a: []", "-a"} {
				holdLine(t, line.Line{N: n, Col: col, Text: s})
			}
		}
	}
}

func TestEachByteInALine(t *testing.T) { // P19.1
	for x := range 256 {
		b := string([]byte{byte(x)})
		for _, s := range []string{"?", "a?", "-?", "- ?", "a:?", "a: ?", "a: b?", "[]?", "\"?\"", "\"\\?\"", "\"?\": a", "a: \"?\"", "\"a\"?", "?a: b", "-?- a", "a:?b", "? ", "?:", "?: a"} {
			holdLine(t, line.Line{N: 1, Text: strings.ReplaceAll(s, "?", b)})
		}
	}
}

func TestEachShortLine(t *testing.T) { // P19.1
	hold := func(s string) { holdLine(t, line.Line{N: 3, Col: 1, Text: s}) }
	each([]string{"-", " ", "a", ":", "[]", "{}", `"`, `\`}, 6, hold)
	each([]string{"-", " ", "a", ":"}, 9, hold)
	each([]string{"a", ": ", "[", "]", "{", "}", "-", "\"\xFF\"", `"\y"`, `""`}, 5, hold)
}

func TestAll(t *testing.T) { // P19.2
	for _, c := range []struct {
		s    string
		want []it
	}{
		{"- a: 1", []it{{3, "", 1, 0}, {1, "", 1, 2}, {4, "a", 1, 2}, {5, "1", 1, 5}, {2, "", 1, 0}}}, // the example
		{"", nil},
		{" \n# a\n  # b", nil},
		{"a", []it{{5, "a", 1, 0}}},
		{"\n\na # b\n\n", []it{{5, "a", 3, 0}}},
		{"a\nb", []it{{5, "a", 1, 0}, {5, "b", 2, 0}}},
		{"a:\n  b", []it{{4, "a", 1, 0}, {1, "", 2, 2}, {5, "b", 2, 2}, {2, "", 2, 0}}},
		{"a:\n  b\n\n# c\n", []it{{4, "a", 1, 0}, {1, "", 2, 2}, {5, "b", 2, 2}, {2, "", 2, 0}}},
		{"a\n   b\n # c", []it{{5, "a", 1, 0}, {1, "", 2, 3}, {5, "b", 2, 3}, {2, "", 2, 0}}},
		{"- a\n- b", []it{{3, "", 1, 0}, {1, "", 1, 2}, {5, "a", 1, 2}, {2, "", 2, 0}, {3, "", 2, 0}, {1, "", 2, 2}, {5, "b", 2, 2}, {2, "", 2, 0}}},
		{"- a\n  b", []it{{3, "", 1, 0}, {1, "", 1, 2}, {5, "a", 1, 2}, {5, "b", 2, 2}, {2, "", 2, 0}}},
		{"-\n a", []it{{3, "", 1, 0}, {1, "", 2, 1}, {5, "a", 2, 1}, {2, "", 2, 0}}},
		{"- -   a\n  - b\nc", []it{
			{3, "", 1, 0}, {1, "", 1, 2}, {3, "", 1, 2}, {1, "", 1, 6}, {5, "a", 1, 6},
			{2, "", 2, 2}, {3, "", 2, 2}, {1, "", 2, 4}, {5, "b", 2, 4},
			{2, "", 3, 0}, {2, "", 3, 0}, {5, "c", 3, 0}}},
		{"a: b\n c: []\n   {}", []it{
			{4, "a", 1, 0}, {5, "b", 1, 3}, {1, "", 2, 1}, {4, "c", 2, 1}, {6, "", 2, 4}, {1, "", 3, 3}, {7, "", 3, 3}, {2, "", 3, 0}, {2, "", 3, 0}}},
		{"- a:\n    b: 1\n\n  c: 2", []it{
			{3, "", 1, 0}, {1, "", 1, 2}, {4, "a", 1, 2}, {1, "", 2, 4}, {4, "b", 2, 4}, {5, "1", 2, 7},
			{2, "", 4, 2}, {4, "c", 4, 2}, {5, "2", 4, 5}, {2, "", 4, 0}}},
	} {
		if got, f := tok.All(c.s); !slices.Equal(got, toks(c.want)) || f != (api.Fault{}) {
			t.Errorf("All(%q): %v, %v, not %v", c.s, got, f, c.want)
		}
		holdAll(t, c.s)
	}
}

func TestAllFaults(t *testing.T) { // P19.2
	for _, c := range []struct {
		s string
		e api.Errno
		n int
	}{
		{strings.Repeat(" ", line.Most+1), api.ErrLong, 0},
		{"-a\n\xFF", api.ErrUtf, 2},
		{"-a\n\t", api.ErrForm, 2},
		{" a", api.ErrForm, 1},
		{"\n\n  a", api.ErrForm, 3},
		{" -a", api.ErrForm, 1},
		{"# b\n \"\xC3\\n", api.ErrUtf, 2},
		{" " + strings.Repeat("a", 4097), api.ErrLong, 1},
		{"a\n" + strings.Repeat("b", 4097), api.ErrLong, 2},
		{"a\nb c\n\nd:e", api.ErrForm, 2},
		{"- a\n b", api.ErrForm, 2},
		{"- - a\n b", api.ErrForm, 2},
		{"- - a\n   b", api.ErrForm, 2},
		{"a:\n  b\n c", api.ErrForm, 3},
		{"a:\n    b:\n      c\n     d", api.ErrForm, 4},
		{"a:\n    b:\n      c\n  d", api.ErrForm, 4},
		{"-   a\n  b", api.ErrForm, 2},
		{"a:\n  b\n " + strings.Repeat("c", 4097), api.ErrLong, 3},
		{strings.Repeat("- ", 16) + "a", api.ErrDepth, 1},
		{strings.Repeat("- ", 17), api.ErrDepth, 1},
		{strings.Repeat("- ", 20) + "a:b", api.ErrForm, 1},
		{strings.Repeat("- ", 15) + "a\n" + strings.Repeat(" ", 31) + "b", api.ErrDepth, 2},
		{strings.Repeat("- ", 15) + "a\n" + strings.Repeat(" ", 31) + "-a", api.ErrForm, 2},
		{strings.Repeat("- ", 15) + "a\n" + strings.Repeat(" ", 29) + strings.Repeat("- ", 30), api.ErrForm, 2},
		{strings.Repeat("- ", 15) + "a\n" + strings.Repeat(" ", 28) + "- - a", api.ErrDepth, 2},
		{strings.Repeat("- ", 1<<19), api.ErrDepth, 1},
	} {
		if got, f := tok.All(c.s); len(got) != 0 || f != (api.Fault{Errno: c.e, At: c.n}) {
			t.Errorf("All(%.60q): %v, %v, not %d at %d", c.s, got, f, c.e, c.n)
		}
		if len(c.s) < 1<<16 {
			holdAll(t, c.s)
		}
	}
}

func TestDepths(t *testing.T) { // P19.2, P19.4
	for n := range 20 {
		stairs, dashes := "", strings.Repeat("- ", n)+"a"
		for i := range n + 1 {
			stairs += strings.Repeat(" ", i) + "a:\n"
		}
		for at, s := range []string{stairs, dashes, dashes + "\n" + strings.Repeat(" ", 2*n) + "b\nc\n" + dashes} {
			want := api.Fault{}
			if n >= 16 {
				want = api.Fault{Errno: api.ErrDepth, At: 1}
				if at == 0 {
					want.At = 17
				}
			}
			if got, f := tok.All(s); f != want || f.Errno == api.OK && tok.Deep(got) != n {
				t.Errorf("All(%q): %v, %v, not %v", s, got, f, want)
			}
			holdAll(t, s)
		}
	}
}

func TestEachFewLines(t *testing.T) { // P19.2, P19.4
	lines := []string{"\n", "a\n", " a\n", "  a:\n", "   a\n", "- a\n", "-\n", "- - a\n", "  - a\n", "    - b: c\n", " # d\n", "a b\n"}
	each(lines, 4, func(s string) { holdAll(t, s) })
	each([]string{"a", " ", "\n", "-", ":"}, 7, func(s string) { holdAll(t, s) })
}

func TestDeep(t *testing.T) { // P19.3
	kinds := map[byte]uint8{'(': 1, ')': 2, '-': 3, ':': 4, 'w': 5, '[': 6, '{': 7, '0': 0, '8': 8, '?': 255}
	for _, c := range []struct {
		s    string
		want int
	}{
		{"", 0}, {"w", 0}, {"-w", 0}, {"(", 1}, {"()", 1}, {"(()", 2}, {"()()", 1}, {"(w)(w)", 1}, {"(w(w)w)", 2}, {"(()(()))", 3},
		{")", 0}, {"))", 0}, {")(", 0}, {"))((", 0}, {")((", 1}, {"())((", 1}, {"())(((w", 2}, {"-:w[{08?", 0}, {"0(8(?", 2}, {"(((w)))", 3}, {"-(:w)", 1}, {"-(-(:w))", 2},
	} {
		var l []api.Tok
		for _, x := range []byte(c.s) {
			l = append(l, api.Tok{Kind: kinds[x], Text: "(", Line: 1, Col: 1})
		}
		if got := tok.Deep(l); got != c.want {
			t.Errorf("Deep of %s: %d, not %d", c.s, got, c.want)
		}
	}
}

func TestWord(t *testing.T) { // P19.3
	words := []string{1: "open", "close", "dash", "key", "word", "noseq", "nomap"}
	for x := range 256 {
		want := ""
		if x < len(words) {
			want = words[x]
		}
		if got := tok.Word(api.Tok{Kind: uint8(x), Text: "a", Line: x, Col: x}); got != want {
			t.Errorf("Word of the kind %d: %q, not %q", x, got, want)
		}
	}
}

func TestMemory(t *testing.T) { // P3, P5
	s := "- a: 1\n- b:\n    c"
	want, _ := tok.All(s)
	got, _ := tok.All(s)
	for i := range got {
		got[i] = api.Tok{}
	}
	_ = append(got[:0], make([]api.Tok, cap(got))...)
	if again, _ := tok.All(s); !slices.Equal(again, want) {
		t.Errorf("All, when an answer was written to: %v", again)
	}
	l := line.Line{N: 1, Text: "- a: 1"}
	one, _ := tok.Line(l)
	one[0] = api.Tok{}
	holdLine(t, l)
	room := []api.Tok{{Kind: 1}, {Kind: 5}, {Kind: 2}, {Kind: 1}, {Kind: 1}}
	kept := slices.Clone(room)
	if n := tok.Deep(room[:3]); n != 1 || !slices.Equal(room, kept) {
		t.Errorf("Deep of three of %v: %d, then %v", kept, n, room)
	}
}

func TestLongTexts(t *testing.T) { // P19.2
	for _, s := range []string{
		strings.Repeat("a: b\n", line.Most/5),
		strings.Repeat("- a\n", line.Most/4),
		strings.Repeat("- - a\n  - \"b\"\n", line.Most/15),
		"- " + strings.Repeat(" ", line.Most-3) + "a",
	} {
		got, f := tok.All(s)
		if f != (api.Fault{}) || len(got) == 0 {
			t.Errorf("All of %d bytes, %.20q: %d tokens, %v", len(s), s, len(got), f)
		}
	}
}

func FuzzAll(f *testing.F) { // E6
	for _, s := range []string{"", "- a: 1", "a:\n  - b\n  - c: \"d e\"\n", "- - - a\n    - []\n", "a: {}\n b", "\"\\x07\": \"\xC3\xA4\" # c", " a", "-a\n", "a: \"\xFF\""} {
		f.Add(s)
	}
	f.Fuzz(func(t *testing.T, s string) {
		if len(s) > 1<<12 {
			return
		}
		holdAll(t, s)
		holdLine(t, line.Line{N: 1, Col: len(s) % 5, Text: s})
	})
}
