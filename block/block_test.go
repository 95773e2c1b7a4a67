package block_test

import (
	"math/rand"
	"regexp"
	"slices"
	"strconv"
	"strings"
	"testing"
	"unicode/utf8"

	"rescript/api"
	"rescript/block"
	"rescript/scalar"
	"rescript/tok"
)

// frame is a row, or parts by keys, of which not all is read yet, and the token of what is read now.
type frame struct {
	n      api.Node
	ahead  api.Tok
	opened bool
}

// The states of a machine: what it waits for.
const (
	wantsValue = iota
	wantsOpen
	wantsClose
	wantsMore
	wantsEnd
)

// machine is the grammar of the chapter as a machine that takes token by token.
type machine struct {
	state int
	stack []frame
	whole api.Node
}

// done is that a value was read.
func (m *machine) done(n api.Node) {
	if len(m.stack) == 0 {
		m.whole, m.state = n, wantsEnd
		return
	}
	top := &m.stack[len(m.stack)-1]
	top.n.Kids = append(top.n.Kids, n)
	m.state = wantsMore
	if top.opened {
		m.state = wantsClose
	}
}

// ahead takes the dash or key of what is on top.
func (m *machine) ahead(t api.Tok) api.Fault {
	top := &m.stack[len(m.stack)-1]
	if t.Kind == 4 {
		switch {
		case len(t.Text) > 64:
			return api.Fault{Errno: api.ErrLong, At: t.Line}
		case slices.Contains(top.n.Keys, t.Text):
			return api.Fault{Errno: api.ErrTwice, At: t.Line}
		}
		top.n.Keys = append(top.n.Keys, t.Text)
	}
	top.ahead, m.state = t, wantsOpen
	return api.Fault{}
}

// begin takes the first token of a value.
func (m *machine) begin(t api.Tok) api.Fault {
	if len(m.stack)+1 > 16 {
		return api.Fault{Errno: api.ErrDepth, At: t.Line}
	}
	n := api.Node{Line: t.Line}
	switch t.Kind {
	case 5:
		n.Kind, n.Text = 1, t.Text
	case 3, 6:
		n.Kind = 2
	case 4, 7:
		n.Kind = 3
	default:
		return api.Fault{Errno: api.ErrForm, At: t.Line}
	}
	if t.Kind == 3 || t.Kind == 4 {
		m.stack = append(m.stack, frame{n: n})
		return m.ahead(t)
	}
	m.done(n)
	return api.Fault{}
}

// take takes a token.
func (m *machine) take(t api.Tok) api.Fault {
	for {
		switch m.state {
		case wantsValue:
			return m.begin(t)
		case wantsOpen:
			top := &m.stack[len(m.stack)-1]
			top.opened = t.Kind == 1
			m.state = wantsValue
			if top.opened {
				return api.Fault{}
			}
			if top.ahead.Kind == 3 || t.Kind < 5 || t.Line != top.ahead.Line {
				return api.Fault{Errno: api.ErrEmpty, At: top.ahead.Line}
			}
		case wantsClose:
			m.state = wantsMore
			if t.Kind != 2 {
				return api.Fault{Errno: api.ErrForm, At: t.Line}
			}
			return api.Fault{}
		case wantsMore:
			top := m.stack[len(m.stack)-1]
			if t.Kind == top.ahead.Kind {
				return m.ahead(t)
			}
			m.stack = m.stack[:len(m.stack)-1]
			m.done(top.n)
		default:
			return api.Fault{Errno: api.ErrForm, At: t.Line}
		}
	}
}

// parsed is what the chapter's words tell of a text.
func parsed(s string) (api.Node, api.Fault) {
	toks, f := tok.All(s)
	if f != (api.Fault{}) {
		return api.Node{}, f
	}
	if len(toks) == 0 {
		return api.Node{}, api.Fault{Errno: api.ErrEmpty}
	}
	var m machine
	for _, t := range toks {
		if f := m.take(t); f != (api.Fault{}) {
			return api.Node{}, f
		}
	}
	// A token of no kind ends all that isn't ended, and may not stand anywhere.
	last := toks[len(toks)-1].Line
	if f := m.take(api.Tok{Line: last}); m.state != wantsEnd {
		return api.Node{}, f
	}
	return m.whole, api.Fault{}
}

// checked is what the chapter's words tell of a tree at a level.
func checked(n api.Node, level int) api.Errno {
	long := func(s string, most int) api.Errno {
		switch {
		case len(s) > most:
			return api.ErrLong
		case !utf8.ValidString(s):
			return api.ErrUtf
		}
		return api.OK
	}
	if level == 17 {
		return api.ErrDepth
	}
	if n.Kind < 1 || n.Kind > 3 {
		return api.ErrKind
	}
	if n.Kind != 1 && n.Text != "" || n.Kind != 3 && len(n.Keys) > 0 || n.Kind == 1 && len(n.Kids) > 0 || n.Kind == 3 && len(n.Keys) != len(n.Kids) {
		return api.ErrForm
	}
	if e := long(n.Text, 4096); e != api.OK {
		return e
	}
	for i, key := range n.Keys {
		if e := long(key, 64); e != api.OK {
			return e
		}
		if slices.Contains(n.Keys[:i], key) {
			return api.ErrTwice
		}
	}
	for _, kid := range n.Kids {
		if e := checked(kid, level+1); e != api.OK {
			return e
		}
	}
	return api.OK
}

// linesOf is the lines of a tree, by the chapter's words.
func linesOf(n api.Node) []string {
	var out []string
	if len(n.Kids) == 0 {
		return []string{[]string{1: scalar.Put(n.Text), 2: "[]", 3: "{}"}[n.Kind]}
	}
	for i, kid := range n.Kids {
		l := linesOf(kid)
		first, others := "- ", "  "
		switch {
		case n.Kind == 3 && len(kid.Kids) == 0:
			first = scalar.Put(n.Keys[i]) + ": "
		case n.Kind == 3:
			first = "  "
			out = append(out, scalar.Put(n.Keys[i])+":")
		}
		for j, s := range l {
			if j > 0 {
				first = others
			}
			out = append(out, first+s)
		}
	}
	return out
}

// printed is what the chapter's words tell of a tree.
func printed(n api.Node) (string, api.Errno) {
	if e := checked(n, 1); e != api.OK {
		return "", e
	}
	s := strings.Join(linesOf(n), "\n") + "\n"
	if len(s) > 1<<20 {
		return "", api.ErrLong
	}
	return s, api.OK
}

// shown is all of a tree, of so many levels at most, as a text: with its lines, or without.
func shown(n api.Node, levels int, withLines bool) string {
	out := strconv.Itoa(int(n.Kind)) + strconv.Quote(n.Text)
	if withLines {
		out += "@" + strconv.Itoa(n.Line)
	}
	for _, key := range n.Keys {
		out += "," + strconv.Quote(key)
	}
	if levels > 1 && len(n.Kids) > 0 {
		var kids []string
		for _, kid := range n.Kids {
			kids = append(kids, shown(kid, levels-1, withLines))
		}
		out += "(" + strings.Join(kids, ";") + ")"
	}
	return out
}

// all is more levels than a tree of the tests has.
const all = 1000

// counted is how many levels and nodes a tree has, of so many levels at most.
func counted(n api.Node, levels int) (int, int) {
	deep, count := 1, 1
	if levels > 1 {
		for _, kid := range n.Kids {
			d, c := counted(kid, levels-1)
			deep, count = max(deep, d+1), count+c
		}
	}
	return deep, count
}

// number is how a place is told.
var number = regexp.MustCompile(`^(0|[1-9][0-9]{0,8})$`)

// found is what the chapter's words tell of a path.
func found(n api.Node, path []string) (api.Node, bool) {
	if len(path) == 0 {
		return n, true
	}
	for i, kid := range n.Kids {
		if n.Kind == 2 && number.MatchString(path[0]) && path[0] == strconv.Itoa(i) || n.Kind == 3 && slices.Index(n.Keys, path[0]) == i {
			return found(kid, path[1:])
		}
	}
	return api.Node{}, false
}

// paths is the paths to all of a tree's nodes, and some to none.
func paths(n api.Node) [][]string {
	out := [][]string{nil, {""}, {"0"}, {"-1"}, {"00"}, {"a"}, {"1000000000"}, {"+0"}, {strconv.Itoa(len(n.Kids))}}
	for i, kid := range n.Kids {
		names := []string{strconv.Itoa(i)}
		if i < len(n.Keys) {
			names = append(names, n.Keys[i])
		}
		for _, more := range paths(kid) {
			for _, name := range names {
				out = append(out, append([]string{name}, more...))
			}
		}
	}
	return out
}

// holdText holds Parse against the chapter's words, and what follows.
func holdText(t *testing.T, s string) {
	t.Helper()
	got, f := block.Parse(s)
	want, g := parsed(s)
	if f != g || shown(got, all, true) != shown(want, all, true) {
		t.Fatalf("Parse(%q): %v, %v, not %v, %v", s, got, f, want, g)
	}
	if f != (api.Fault{}) {
		return
	}
	if e := block.Check(got); e != api.OK {
		t.Fatalf("Parse(%q) is %v, of which Check tells %d", s, got, e)
	}
	holdTree(t, got)
}

// holdTree holds what is told of a tree against the chapter's words, and what follows.
func holdTree(t *testing.T, n api.Node) {
	t.Helper()
	e := block.Check(n)
	if want := checked(n, 1); e != want {
		t.Fatalf("Check(%v): %d, not %d", n, e, want)
	}
	s, e := block.Print(n)
	if want, g := printed(n); s != want || e != g {
		t.Fatalf("Print(%v): %q, %d, not %q, %d", n, s, e, want, g)
	}
	deep, count := counted(n, 18)
	if block.Depth(n) != deep || block.Count(n) != count {
		t.Fatalf("%v has %d levels and %d nodes, not %d and %d", n, block.Depth(n), block.Count(n), deep, count)
	}
	own := block.Copy(n)
	if shown(own, all, true) != shown(n, 18, true) {
		t.Fatalf("Copy(%v): %v", n, own)
	}
	if !block.Same(n, n) || deep < 18 && (!block.Same(n, own) || !block.Same(own, n)) {
		t.Fatalf("%v and its copy are not the same", n)
	}
	if e != api.OK {
		return
	}
	again, f := block.Parse(s)
	if f != (api.Fault{}) || !block.Same(again, n) || !block.Same(n, again) || shown(again, all, false) != shown(n, all, false) {
		t.Fatalf("Parse(%q), which is %v printed: %v, %v", s, n, again, f)
	}
	if more, e := block.Print(again); more != s || e != api.OK {
		t.Fatalf("%q, read and printed: %q, %d", s, more, e)
	}
}

// holdPaths holds At against the chapter's words.
func holdPaths(t *testing.T, n api.Node) {
	t.Helper()
	for _, path := range paths(n) {
		got, ok := block.At(n, path...)
		want, g := found(n, path)
		if ok != g || shown(got, all, true) != shown(want, all, true) {
			t.Fatalf("At(%v, %q): %v, %v, not %v, %v", n, path, got, ok, want, g)
		}
	}
}

// The kinds of nodes, in short.
func word(s string) api.Node { return api.Node{Kind: 1, Text: s} }

func row(kids ...api.Node) api.Node { return api.Node{Kind: 2, Kids: kids} }

func parts(keys []string, kids ...api.Node) api.Node {
	return api.Node{Kind: 3, Keys: keys, Kids: kids}
}

// rows is a tree of so many levels.
func rows(levels int, last api.Node) api.Node {
	for range levels - 1 {
		last = row(last)
	}
	return last
}

// each gives each text of so many of these at most.
func each(signs []string, most int, give func(s string)) {
	give("")
	if most == 0 {
		return
	}
	for _, c := range signs {
		each(signs, most-1, func(s string) { give(c + s) })
	}
}

func TestParse(t *testing.T) { // P20.1, P20.4
	one := func(n api.Node, line int) api.Node { n.Line = line; return n }
	for _, c := range []struct {
		s    string
		want api.Node
	}{
		{"a:\n  - 1", one(parts([]string{"a"}, one(row(one(word("1"), 2)), 2)), 1)}, // the example
		{"a", one(word("a"), 1)},
		{"\n# b\n\na", one(word("a"), 4)},
		{`""`, one(word(""), 1)},
		{`"a: 1"`, one(word("a: 1"), 1)},
		{"[]", one(row(), 1)},
		{"{}", one(parts(nil), 1)},
		{"\n- a\n- b", one(row(one(word("a"), 2), one(word("b"), 3)), 2)},
		{"-\n\n a", one(row(one(word("a"), 3)), 1)},
		{"- - a\n  - b\n- []\n- {}", one(row(one(row(one(word("a"), 1), one(word("b"), 2)), 1), one(row(), 3), one(parts(nil), 4)), 1)},
		{"a: b", one(parts([]string{"a"}, one(word("b"), 1)), 1)},
		{"a: []\nb: {}\n\"\": \"\"", one(parts([]string{"a", "b", ""}, one(row(), 1), one(parts(nil), 2), one(word(""), 3)), 1)},
		{"a:\n b", one(parts([]string{"a"}, one(word("b"), 2)), 1)},
		{"a:\n []", one(parts([]string{"a"}, one(row(), 2)), 1)},
		{"a:\n     b:\n      c: d\nb: e", one(parts([]string{"a", "b"}, one(parts([]string{"b"}, one(parts([]string{"c"}, one(word("d"), 3)), 3)), 2), one(word("e"), 4)), 1)},
		{"- a: 1\n  b:\n    - 2\n-   c: 3", one(row(
			one(parts([]string{"a", "b"}, one(word("1"), 1), one(row(one(word("2"), 3)), 3)), 1),
			one(parts([]string{"c"}, one(word("3"), 4)), 4)), 1)},
		{"a:\n  a:\n    a: a", one(parts([]string{"a"}, one(parts([]string{"a"}, one(parts([]string{"a"}, one(word("a"), 3)), 3)), 2)), 1)},
		{strings.Repeat("k", 64) + ": v", one(parts([]string{strings.Repeat("k", 64)}, one(word("v"), 1)), 1)},
	} {
		got, f := block.Parse(c.s)
		if f != (api.Fault{}) || shown(got, all, true) != shown(c.want, all, true) {
			t.Errorf("Parse(%q): %v, %v, not %v", c.s, got, f, c.want)
		}
		holdText(t, c.s)
		holdPaths(t, got)
	}
}

func TestParseFaults(t *testing.T) { // P20.1
	deep := strings.Repeat("- ", 15)
	in := strings.Repeat(" ", 30)
	long := strings.Repeat("k", 65)
	for _, c := range []struct {
		s string
		e api.Errno
		n int
	}{
		{"", api.ErrEmpty, 0},
		{"\n # a\n\n", api.ErrEmpty, 0},
		{"\xFF", api.ErrUtf, 1},
		{"a\n\nb\n c:d", api.ErrForm, 4},
		{strings.Repeat(" ", 1<<20) + "a", api.ErrLong, 0},
		{"-\n- a\n b:", api.ErrForm, 3},
		{"a\nb", api.ErrForm, 2},
		{"a\n\n[]", api.ErrForm, 3},
		{"a\n- b", api.ErrForm, 2},
		{"a\nb: c", api.ErrForm, 2},
		{"a\n b", api.ErrForm, 2},
		{"[]\n  - a", api.ErrForm, 2},
		{"{}\nb: c", api.ErrForm, 2},
		{"- a\nb", api.ErrForm, 2},
		{"- a\n\nb: c", api.ErrForm, 3},
		{"a: b\n- c", api.ErrForm, 2},
		{"a: b\nc", api.ErrForm, 2},
		{"a: b\n  c: d", api.ErrForm, 2},
		{"a: b\n  c", api.ErrForm, 2},
		{"- a\n  b", api.ErrForm, 2},
		{"- a\n  - b", api.ErrForm, 2},
		{"- a\n  b: c", api.ErrForm, 2},
		{"- - a\n  b", api.ErrForm, 2},
		{"- a: b\n  - c", api.ErrForm, 2},
		{"a:\n  b\n  c", api.ErrForm, 3},
		{"a:\n  b\nc", api.ErrForm, 3},
		{"-", api.ErrEmpty, 1},
		{"\n\n-\n\n", api.ErrEmpty, 3},
		{"- a\n-", api.ErrEmpty, 2},
		{"-\n- a", api.ErrEmpty, 1},
		{"-\na", api.ErrEmpty, 1},
		{"-\na: b", api.ErrEmpty, 1},
		{"- -", api.ErrEmpty, 1},
		{"- -\n  a", api.ErrEmpty, 1},
		{"- a\n-\n\n- b", api.ErrEmpty, 2},
		{"a:", api.ErrEmpty, 1},
		{"a: # b", api.ErrEmpty, 1},
		{"a: b\nc:\n\n", api.ErrEmpty, 2},
		{"a:\nb", api.ErrEmpty, 1},
		{"a:\n[]", api.ErrEmpty, 1},
		{"a:\n{}", api.ErrEmpty, 1},
		{"a:\n- b", api.ErrEmpty, 1},
		{"a:\nb: c", api.ErrEmpty, 1},
		{"a: 1\nb:\n\nc: 2", api.ErrEmpty, 2},
		{"- a:", api.ErrEmpty, 1},
		{"- a:\n  b: c", api.ErrEmpty, 1},
		{"- a:\n  b", api.ErrEmpty, 1},
		{"- a:\n- b", api.ErrEmpty, 1},
		{"a:\n  b:\nc: d", api.ErrEmpty, 2},
		{long + ": a", api.ErrLong, 1},
		{long + ":", api.ErrLong, 1},
		{"a: b\n\n" + long + ": a", api.ErrLong, 3},
		{"a:\n  - " + long + ": a", api.ErrLong, 2},
		{"a: b\na: c", api.ErrTwice, 2},
		{"a: b\nc: d\n\n\"a\":", api.ErrTwice, 4},
		{"a: b\na:\n  - - -", api.ErrTwice, 2},
		{"- a: b\n  a: c", api.ErrTwice, 2},
		{"a:\n  b: 1\n  b: 2\na: 3", api.ErrTwice, 3},
		{"a:\n  b:\na: 3", api.ErrEmpty, 2},
		{"\"\\x41\": b\nA: c", api.ErrTwice, 2},
		{deep + "a: b", api.ErrDepth, 1},
		{deep + "a: []", api.ErrDepth, 1},
		{deep + "a:", api.ErrEmpty, 1},
		{deep + "a:\n" + in + "b", api.ErrEmpty, 1},
		{deep + "a:\n" + in + " b", api.ErrDepth, 2},
		{deep + long + ": b", api.ErrLong, 1},
		{deep + "a: b\n" + in + "a: c", api.ErrDepth, 1},
		{"- a\n- b: c\n- " + strings.Repeat("- ", 14) + "a: b", api.ErrDepth, 3},
		{deep + "-", api.ErrEmpty, 1},
		{deep + "- a", api.ErrDepth, 1},
	} {
		if got, f := block.Parse(c.s); shown(got, all, true) != shown(api.Node{}, all, true) || f != (api.Fault{Errno: c.e, At: c.n}) {
			t.Errorf("Parse(%.60q): %v, %v, not %d at %d", c.s, got, f, c.e, c.n)
		}
		if len(c.s) < 1<<16 {
			holdText(t, c.s)
		}
	}
}

func TestEachFewLines(t *testing.T) { // P20.1, P20.5
	each([]string{"\n", "a\n", " b\n", "a:\n", "b: c\n", "  b: c\n", "- a\n", "-\n", "- - a\n", "  - a\n", "- a:\n", "    []\n"}, 4, func(s string) { holdText(t, s) })
	each([]string{"a", " ", "\n", "-", ":"}, 7, func(s string) { holdText(t, s) })
	each([]string{"a:", "b: ", "c", "\n", "\n  ", "- ", "{}"}, 6, func(s string) { holdText(t, s) })
}

func TestLevels(t *testing.T) { // P20.1, P20.2, P20.3, P20.5
	for n := 1; n < 20; n++ {
		dashes, stairs := strings.Repeat("- ", n-1)+"a", ""
		for i := range n - 1 {
			stairs += strings.Repeat(" ", i) + "a:\n"
		}
		stairs += strings.Repeat(" ", n-1) + "b"
		onLine := strings.Repeat("- ", max(n-2, 0)) + "a: b"
		for _, s := range []string{dashes, stairs, onLine} {
			holdText(t, s)
			got, f := block.Parse(s)
			if n <= 16 && (f != (api.Fault{}) || block.Depth(got) != max(n, 2) && s == onLine || block.Depth(got) != n && s != onLine) || n > 16 && f.Errno != api.ErrDepth {
				t.Errorf("Parse(%q): %v, %v", s, got, f)
			}
		}
		for _, last := range []api.Node{word("a"), row(), parts(nil), {}, {Kind: 3, Text: "a"}} {
			holdTree(t, rows(n, last))
			holdTree(t, row(rows(n, last), word("\xFF")))
		}
	}
}

func TestCheck(t *testing.T) { // P20.2
	long, longer := strings.Repeat("a", 4096), strings.Repeat("a", 4097)
	name, names := strings.Repeat("n", 64), strings.Repeat("n", 65)
	for _, c := range []struct {
		n api.Node
		e api.Errno
	}{
		{api.Node{}, api.ErrKind},
		{api.Node{Kind: 4}, api.ErrKind},
		{api.Node{Kind: 255, Text: "a", Keys: []string{"a"}}, api.ErrKind},
		{api.Node{Text: longer}, api.ErrKind},
		{word(""), api.OK},
		{word(long), api.OK},
		{word(longer), api.ErrLong},
		{word("\xFF"), api.ErrUtf},
		{word(long + "\xFF"), api.ErrLong},
		{word("\x00\n\t\"\\\x7F"), api.OK},
		{api.Node{Kind: 1, Keys: []string{"a"}}, api.ErrForm},
		{api.Node{Kind: 1, Kids: []api.Node{word("a")}}, api.ErrForm},
		{api.Node{Kind: 1, Text: longer, Kids: []api.Node{{}}}, api.ErrForm},
		{api.Node{Kind: 1, Keys: []string{}, Kids: []api.Node{}}, api.OK},
		{row(), api.OK},
		{row(word("a"), word("a")), api.OK},
		{api.Node{Kind: 2, Text: "a"}, api.ErrForm},
		{api.Node{Kind: 2, Keys: []string{"a"}}, api.ErrForm},
		{api.Node{Kind: 2, Keys: []string{"a"}, Kids: []api.Node{word("a")}}, api.ErrForm},
		{api.Node{Kind: 2, Text: "\xFF", Kids: []api.Node{{}}}, api.ErrForm},
		{row(word("a"), api.Node{}), api.ErrKind},
		{row(word("\xFF"), api.Node{}), api.ErrUtf},
		{row(row(word("a"), word(longer)), api.Node{}), api.ErrLong},
		{row(row(), parts(nil), api.Node{Kind: 2, Text: "a"}, api.Node{}), api.ErrForm},
		{parts(nil), api.OK},
		{parts([]string{"a", "b", ""}, word("a"), row(), parts(nil)), api.OK},
		{parts([]string{name}, word("a")), api.OK},
		{parts([]string{names}, word("a")), api.ErrLong},
		{parts([]string{"\xC3"}, word("a")), api.ErrUtf},
		{parts([]string{name + "\xFF"}, word("a")), api.ErrLong},
		{parts([]string{"a", "a"}, word("a"), word("a")), api.ErrTwice},
		{parts([]string{"a", "a", names}, word("a"), word("a"), word("a")), api.ErrTwice},
		{parts([]string{"a", names, "a"}, word("a"), word("a"), word("a")), api.ErrLong},
		{parts([]string{"a", "\xFF", "\xFF"}, word("a"), word("a"), word("a")), api.ErrUtf},
		{parts([]string{"a", "b", "a"}, api.Node{}, word("a"), word("a")), api.ErrTwice},
		{parts([]string{"a"}), api.ErrForm},
		{parts(nil, word("a")), api.ErrForm},
		{parts([]string{"a", "a"}, word("a")), api.ErrForm},
		{parts([]string{names, "b"}, api.Node{}), api.ErrForm},
		{api.Node{Kind: 3, Text: "a"}, api.ErrForm},
		{api.Node{Kind: 3, Text: "a", Keys: []string{"a"}, Kids: []api.Node{word("a")}}, api.ErrForm},
		{parts([]string{"a", "b"}, word(longer), api.Node{}), api.ErrLong},
		{parts([]string{"a", "b"}, parts([]string{"a"}, word("a")), parts([]string{"a"}, word("a"))), api.OK},
		{api.Node{Kind: 1, Text: "a", Line: -7}, api.OK},
	} {
		if got := block.Check(c.n); got != c.e {
			t.Errorf("Check(%.90v): %d, not %d", c.n, got, c.e)
		}
		holdTree(t, c.n)
	}
}

func TestPrint(t *testing.T) { // P20.3
	for _, c := range []struct {
		n    api.Node
		want string
	}{
		{word("a"), "a\n"},
		{word(""), "\"\"\n"},
		{word("a b"), "\"a b\"\n"},
		{word("[]"), "\"[]\"\n"},
		{word("-"), "\"-\"\n"},
		{word("\n"), "\"\\n\"\n"},
		{row(), "[]\n"},
		{parts(nil), "{}\n"},
		{row(word("a"), word("b c"), row(), parts(nil)), "- a\n- \"b c\"\n- []\n- {}\n"},
		{row(row(word("a"), word("b")), word("c")), "- - a\n  - b\n- c\n"},
		{row(row(row(word("a")), word("b"))), "- - - a\n  - b\n"},
		{row(parts([]string{"a", "b"}, word("1"), word("2"))), "- a: 1\n  b: 2\n"},
		{row(parts([]string{"a", "b"}, row(word("1"), word("3")), word("2"))), "- a:\n    - 1\n    - 3\n  b: 2\n"},
		{parts([]string{"a"}, row(word("1"))), "a:\n  - 1\n"},
		{parts([]string{"a", "", "b c"}, word(""), row(), parts(nil)), "a: \"\"\n\"\": []\n\"b c\": {}\n"},
		{parts([]string{"a b"}, parts([]string{"c", "d"}, parts([]string{"e"}, word("f")), word("g"))), "\"a b\":\n  c:\n    e: f\n  d: g\n"},
		{parts([]string{"a"}, row(parts([]string{"b", "c"}, word("d"), row(row(word("e")))))), "a:\n  - b: d\n    c:\n      - - e\n"},
	} {
		if got, e := block.Print(c.n); got != c.want || e != api.OK {
			t.Errorf("Print(%v): %q, %d, not %q", c.n, got, e, c.want)
		}
		holdTree(t, c.n)
		holdPaths(t, c.n)
	}
}

// ofSize is a tree of which so many bytes are printed.
func ofSize(n int) api.Node {
	var kids []api.Node
	for n >= 4000 {
		kids = append(kids, word(strings.Repeat("a", 1997)))
		n -= 2000
	}
	kids = append(kids, word(strings.Repeat("a", n-3)))
	return row(kids...)
}

func TestPrintLong(t *testing.T) { // P20.3
	for _, n := range []int{1<<20 - 1, 1 << 20, 1<<20 + 1, 1<<20 + 5000, 1 << 21} {
		s, e := block.Print(ofSize(n))
		switch {
		case n <= 1<<20 && (len(s) != n || e != api.OK):
			t.Errorf("Print of %d bytes: %d, %d", n, len(s), e)
		case n > 1<<20 && (s != "" || e != api.ErrLong):
			t.Errorf("Print of %d bytes: %d, %d", n, len(s), e)
		}
		if again, f := block.Parse(s); e == api.OK && (f != (api.Fault{}) || !block.Same(again, ofSize(n))) {
			t.Errorf("Parse of %d bytes: %v", n, f)
		}
	}
	// Rows that are one in memory, many times over: far more than may be printed.
	wide := slices.Repeat([]api.Node{word("a")}, 100)
	for range 3 {
		wide = slices.Repeat([]api.Node{row(wide...)}, 100)[:20]
	}
	if s, e := block.Print(row(slices.Repeat(wide, 15)...)); s != "" || e != api.ErrLong {
		t.Errorf("Print of very much: %d bytes, %d", len(s), e)
	}
	bad := ofSize(1 << 21)
	bad.Kids[len(bad.Kids)-1].Kind = 9
	if s, e := block.Print(bad); s != "" || e != api.ErrKind {
		t.Errorf("Print of much that may not be: %d bytes, %d", len(s), e)
	}
}

func TestSame(t *testing.T) { // P20.4
	all := []api.Node{
		{}, {Kind: 1}, {Kind: 2}, {Kind: 3}, {Kind: 4}, word("a"), word("b"), {Kind: 2, Text: "a"}, {Kind: 1, Keys: []string{"a"}},
		row(word("a")), row(word("b")), row(word("a"), word("a")), row(word("a"), word("b")), row(word("b"), word("a")), row(row(word("a"))), row(row(word("b"))),
		parts([]string{"a"}, word("a")), parts([]string{"b"}, word("a")), parts([]string{"a"}, word("b")), parts([]string{"a", "b"}, word("a"), word("b")),
		parts([]string{"b", "a"}, word("b"), word("a")), parts([]string{"a"}), parts(nil, word("a")), parts([]string{"a", "b"}, word("a")),
		rows(25, word("a")), rows(25, word("b")), rows(26, word("a")), {Kind: 1, Kids: []api.Node{word("a")}},
	}
	for i, a := range all {
		for j, b := range all {
			b.Line = i + 3*j
			if got := block.Same(a, b); got != (i == j) {
				t.Errorf("Same(%v, %v): %v", a, b, got)
			}
		}
	}
	a, b := row(word("a"), parts([]string{"b"}, word("c"))), row(word("a"), parts([]string{"b"}, word("c")))
	b.Kids[1].Kids[0].Line = 7
	if !block.Same(a, b) || !block.Same(api.Node{Kind: 2, Keys: []string{}, Kids: []api.Node{}}, row()) {
		t.Error("lines, or lists that are empty and not nil, are looked at")
	}
}

func TestMany(t *testing.T) { // P20.4, P1
	n := word("a")
	for range 1 << 20 {
		n = row(n)
	}
	other := row(n.Kids[0])
	if !block.Same(n, other) || block.Same(n, n.Kids[0]) {
		t.Error("Same of very many levels")
	}
	if block.Depth(n) != 18 || block.Count(n) != 18 || block.Check(n) != api.ErrDepth {
		t.Errorf("very many levels: Depth %d, Count %d, Check %d", block.Depth(n), block.Count(n), block.Check(n))
	}
	if own := block.Copy(n); block.Depth(own) != 18 || block.Same(own, n) {
		t.Error("Copy of very many levels")
	}
	if got, ok := block.At(n); !ok || !block.Same(got, n) {
		t.Error("At, without a path, of very many levels")
	}
	path := slices.Repeat([]string{"0"}, 1<<20)
	if got, ok := block.At(n, path...); !ok || !block.Same(got, word("a")) {
		t.Errorf("At of very many levels: %v, %v", got.Kind, ok)
	}
	if got, ok := block.At(n, append(path, "0")...); ok || !block.Same(got, api.Node{}) {
		t.Errorf("At of one level more: %v, %v", got.Kind, ok)
	}
}

func TestWithin(t *testing.T) { // P20.4, P1: a row that has itself within
	kids := make([]api.Node, 2)
	n := row(kids...)
	kids[0], kids[1] = n, word("a")
	if block.Depth(n) != 18 || block.Count(n) != 35 || block.Check(n) != api.ErrDepth || !block.Same(n, n) {
		t.Errorf("Depth %d, Count %d, Check %d, Same %v", block.Depth(n), block.Count(n), block.Check(n), block.Same(n, n))
	}
	if s, e := block.Print(n); s != "" || e != api.ErrDepth {
		t.Errorf("Print: %q, %d", s, e)
	}
	own := block.Copy(n)
	if shown(own, all, true) != shown(n, 18, true) || block.Count(own) != 35 || block.Same(own, n) {
		t.Errorf("Copy: %v", own)
	}
	if got, ok := block.At(n, "0", "0", "1"); !ok || got.Text != "a" {
		t.Errorf("At: %v, %v", got, ok)
	}
}

func TestTwoWithin(t *testing.T) { // P20.4, P1: trees that each have themselves within
	loop := func(rows int, last api.Node) api.Node {
		lists := make([][]api.Node, rows)
		for i := range lists {
			lists[i] = make([]api.Node, 3)
		}
		for i, l := range lists {
			l[0], l[1], l[2] = row(lists[(i+1)%rows]...), last, row(lists[(i*i+1)%rows]...)
			l[0].Kids, l[2].Kids = lists[(i+1)%rows], lists[(i*i+1)%rows]
			last = word("a")
		}
		return api.Node{Kind: 2, Kids: lists[0]}
	}
	if many := loop(300, word("a")); !block.Same(many, many) {
		t.Error("Same of a tree and itself")
	}
	for _, rows := range []int{1, 2, 3, 5, 8} {
		if !block.Same(loop(rows, word("a")), loop(rows, word("a"))) || !block.Same(loop(1, word("a")), loop(rows, word("a"))) {
			t.Errorf("Same of alike rows, %d of them, that have themselves within", rows)
		}
		if block.Same(loop(rows, word("a")), loop(rows, word("b"))) || block.Same(loop(rows, word("b")), loop(1, word("a"))) {
			t.Errorf("Same of unlike rows, %d of them, that have themselves within", rows)
		}
	}
}

func TestSharedRows(t *testing.T) { // P20.4: rows that are one in memory, in one of two trees or in both
	of := func(kids []api.Node) api.Node { return api.Node{Kind: 2, Kids: kids} }
	one, alike, other := []api.Node{word("a"), word("b")}, []api.Node{word("a"), word("b")}, []api.Node{word("a"), word("c")}
	for _, c := range []struct {
		a, b api.Node
		want bool
	}{
		{row(of(one), of(one)), row(of(alike), of(alike)), true},
		{row(of(one), of(one)), row(of(one), of(alike)), true},
		{row(of(one), of(one)), row(of(other), of(alike)), false},
		{row(of(one), of(one)), row(of(alike), of(other)), false},
		{row(of(one), of(one[:1])), row(of(other), of(other[:1])), false},
		{row(of(one[:1]), of(one)), row(of(other[:1]), of(other)), false},
		{row(of(one[:1]), of(one[1:])), row(of(other[:1]), of(alike[1:])), true},
	} {
		if block.Same(c.a, c.b) != c.want || block.Same(c.b, c.a) != c.want {
			t.Errorf("Same(%v, %v) isn't %v", c.a, c.b, c.want)
		}
	}
}

func TestCopy(t *testing.T) { // P20.4, P3
	n := parts([]string{"a", "b"}, row(word("c"), word("d")), word("e"))
	n.Line, n.Kids[0].Line, n.Kids[0].Kids[1].Line = 1, 2, 3
	want := shown(n, all, true)
	own := block.Copy(n)
	if shown(own, all, true) != want {
		t.Fatalf("Copy: %v", own)
	}
	own.Keys[0], own.Kids[1].Text, own.Kids[0].Kids[0].Text = "x", "x", "x"
	own.Kids[0].Kids = append(own.Kids[0].Kids[:1], word("x"))
	if shown(n, all, true) != want {
		t.Errorf("a copy was written to: %v", n)
	}
	// Each list of a copy has memory of its own.
	shared := []api.Node{word("a"), word("b")}
	own = block.Copy(row(row(shared...), row(shared...)))
	own.Kids[0].Kids[0].Text = "x"
	if own.Kids[1].Kids[0].Text != "a" {
		t.Error("two lists of a copy are one")
	}
	for levels := range 4 {
		deep := rows(17+levels, api.Node{Kind: 3, Keys: []string{"a"}, Kids: []api.Node{word("b")}})
		if got, want := shown(block.Copy(deep), all, true), shown(deep, 18, true); got != want {
			t.Errorf("Copy of %d levels: %s, not %s", 18+levels, got, want)
		}
	}
}

func TestMemory(t *testing.T) { // P3, P5
	s := "a:\n  - b\n  - c: d\ne: f"
	first, _ := block.Parse(s)
	want := shown(first, all, true)
	second, _ := block.Parse(s)
	second.Keys[0], second.Kids[0].Kids[0].Text = "x", "x"
	_ = append(second.Kids[0].Kids, word("x"), word("y"))
	if third, _ := block.Parse(s); shown(first, all, true) != want || shown(third, all, true) != want {
		t.Error("an answer was written to, and another one has it")
	}
	if got, _ := block.Parse("- a\n- b:\n    c: d\n- e\n- f\n- g"); cap(got.Kids[1].Kids) > 0 {
		_ = append(got.Kids[1].Kids, word("x"), word("y"))
		_ = append(got.Kids[1].Keys, "x", "y")
		if got.Kids[2].Text != "e" || got.Kids[1].Kids[0].Keys[0] != "c" {
			t.Error("lists of an answer share memory")
		}
	}
	// What stands behind lists' ends is neither read nor written nor handed out.
	keys, kids := []string{"a", "a", "\xFF"}, []api.Node{row(word("b")), {}, {}}
	n := api.Node{Kind: 3, Keys: keys[:1], Kids: kids[:1]}
	kept := slices.Clone(kids)
	if s, e := block.Print(n); s != "a:\n  - b\n" || e != api.OK || block.Count(n) != 3 || !block.Same(n, parts([]string{"a"}, row(word("b")))) {
		t.Errorf("Print of %v: %q, %d", n, s, e)
	}
	for _, path := range [][]string{nil, {"a"}, {"a", "0"}, {"a", "1"}, {"b"}} {
		got, _ := block.At(n, path...)
		_ = append(got.Keys, "x", "y")
		_ = append(got.Kids, word("x"), word("y"))
		for i := range got.Keys {
			got.Keys[i] = "x"
		}
		for i := range got.Kids {
			got.Kids[i] = word("x")
		}
	}
	deep := api.Node{Kind: 2, Kids: append(make([]api.Node, 0, 3), rows(18, word("a")))}
	if got, ok := block.At(deep); !ok || cap(got.Kids) != 1 || !block.Same(got, rows(19, word("a"))) {
		t.Errorf("At of many levels: %v, %v, room for %d", got, ok, cap(got.Kids))
	}
	own := block.Copy(n)
	_ = append(own.Keys, "x", "y")
	_ = append(own.Kids, word("x"), word("y"))
	if !slices.Equal(keys, []string{"a", "a", "\xFF"}) || !slices.EqualFunc(kids, kept, block.Same) {
		t.Errorf("lists were written to: %q, %v", keys, kids)
	}
}

func TestAt(t *testing.T) { // P20.4
	n := parts([]string{"a", "b", "a", "1", "z"}, row(word("x"), parts([]string{"k"}, word("y"))), word("w"), word("twice"), word("one"))
	for _, c := range []struct {
		path []string
		want string
		ok   bool
	}{
		{[]string{"b"}, "w", true},
		{[]string{"1"}, "one", true},
		{[]string{"a", "0"}, "x", true},
		{[]string{"a", "1", "k"}, "y", true},
		{[]string{"a", "2"}, "", false},
		{[]string{"a", "01"}, "", false},
		{[]string{"a", "-1"}, "", false},
		{[]string{"a", ""}, "", false},
		{[]string{"a", "k"}, "", false},
		{[]string{"a", "1", "0"}, "", false},
		{[]string{"a", "0", "0"}, "", false},
		{[]string{"b", ""}, "", false},
		{[]string{"z"}, "", false},
		{[]string{"y"}, "", false},
		{[]string{""}, "", false},
		{[]string{"0"}, "", false},
		{[]string{"a", "999999999"}, "", false},
		{[]string{"a", "1000000000"}, "", false},
	} {
		got, ok := block.At(n, c.path...)
		if ok != c.ok || got.Text != c.want || !ok && shown(got, all, true) != shown(api.Node{}, all, true) {
			t.Errorf("At(%q): %v, %v, not %q, %v", c.path, got, ok, c.want, c.ok)
		}
	}
	for _, odd := range []api.Node{{}, {Kind: 1, Keys: []string{"0"}, Kids: []api.Node{word("a")}}, {Kind: 4, Keys: []string{"0"}, Kids: []api.Node{word("a")}}, {Kind: 2, Keys: []string{"a"}, Kids: []api.Node{word("a")}}} {
		holdPaths(t, odd)
	}
	holdPaths(t, n)
}

// grown is a tree that bytes tell, wrong ones too, and the bytes that are left.
func grown(b string, level int) (api.Node, string) {
	texts := []string{"", "a", "b", "-", "a b", "0", "1", "\xFF", "\n", strings.Repeat("k", 65), "c", "d", "e", "f", "g", "h"}
	take := func() int {
		if b == "" {
			return 0
		}
		c := int(b[0])
		b = b[1:]
		return c
	}
	kind := take()
	n := api.Node{Kind: uint8(kind%3 + 1), Line: kind}
	if kind > 250 {
		n.Kind = uint8(kind)
	}
	if n.Kind == 1 || kind > 240 {
		n.Text = texts[take()%len(texts)]
	}
	if n.Kind == 1 && kind < 240 || level > 20 {
		return n, b
	}
	for range take() % 6 {
		var kid api.Node
		if n.Kind == 3 {
			n.Keys = append(n.Keys, texts[take()%len(texts)])
		}
		kid, b = grown(b, level+1)
		n.Kids = append(n.Kids, kid)
	}
	return n, b
}

func TestGrown(t *testing.T) { // P20.2 to P20.5
	chance := rand.New(rand.NewSource(20))
	for range 20000 {
		b := make([]byte, chance.Intn(60))
		for i := range b {
			b[i] = byte(chance.Intn(256))
			if chance.Intn(10) > 0 {
				b[i] %= 100
			}
		}
		n, _ := grown(string(b), 1)
		holdTree(t, n)
		if block.Count(n) < 12 {
			holdPaths(t, n)
		}
	}
}

func FuzzParse(f *testing.F) { // E6
	for _, s := range []string{"", "a:\n  - 1", "- - a\n  - b: \"c d\"\n", "a: []\nb: {}\na: c", "a:\nb", "-\n  a\n", "a: b\n c", strings.Repeat("- ", 15) + "a: b"} {
		f.Add(s)
	}
	f.Fuzz(func(t *testing.T, s string) {
		if len(s) > 1<<12 {
			return
		}
		holdText(t, s)
		n, _ := grown(s, 1)
		holdTree(t, n)
	})
}
