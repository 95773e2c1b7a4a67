package canon_test

import (
	"fmt"
	"math"
	"math/rand"
	"regexp"
	"slices"
	"strconv"
	"strings"
	"testing"

	"rescript/api"
	"rescript/canon"
	"rescript/def"
	"rescript/line"
	"rescript/parse"
)

func word(s string) api.Node { return api.Node{Kind: 1, Text: s} }

func row(kids ...api.Node) api.Node { return api.Node{Kind: 2, Kids: kids} }

func keyed(keys []string, kids ...api.Node) api.Node {
	return api.Node{Kind: 3, Keys: keys, Kids: kids}
}

// rows is a node within so many rows.
func rows(n int, in api.Node) api.Node {
	for range n {
		in = row(in)
	}
	return in
}

// long is a name of so many bytes.
func long(n int) string { return strings.Repeat("k", n) }

// shown is all of a tree, of so many levels at most, as a text.
func shown(n api.Node, levels int) string {
	out := strconv.Itoa(int(n.Kind)) + strconv.Quote(n.Text) + "@" + strconv.Itoa(n.Line) + fmt.Sprintf("%q", n.Keys)
	if levels > 1 {
		for _, kid := range n.Kids {
			out += "(" + shown(kid, levels-1) + ")"
		}
	}
	return out
}

// shownDef is all of a definition as a text, its notes of 20 levels at most.
func shownDef(d api.Def) string {
	out := fmt.Sprintf("%q %q", d.Name, d.Text)
	for _, s := range d.Steps {
		out += fmt.Sprintf("\n%q %q %q %q %v %d ", s.Name, s.Action, s.Undo, s.After, s.Retry, s.Limit) + shown(s.Note, 20)
	}
	return out
}

// plain is which texts stand as they are.
var plain = regexp.MustCompile(`^[a-zA-Z0-9._/+@][a-zA-Z0-9._/+@-]*$`)

// put is a text as it stands in a definition's text, by layer 18's words.
func put(s string) string {
	if plain.MatchString(s) {
		return s
	}
	out := `"`
	for i := range len(s) {
		switch c := s[i]; {
		case c == '"' || c == '\\':
			out += `\` + string(rune(c))
		case c == '\n':
			out += `\n`
		case c == '\t':
			out += `\t`
		case c < 0x20 || c == 0x7F:
			out += fmt.Sprintf(`\x%02x`, c)
		default:
			out += s[i : i+1]
		}
	}
	return out + `"`
}

// noteLines is the lines of a note, by layer 20's words.
func noteLines(n api.Node) []string {
	if len(n.Kids) == 0 {
		return []string{[]string{1: put(n.Text), 2: "[]", 3: "{}"}[n.Kind]}
	}
	var out []string
	for i, kid := range n.Kids {
		l := noteLines(kid)
		switch {
		case n.Kind == 2:
			for j := range l {
				l[j] = []string{"- ", "  "}[min(j, 1)] + l[j]
			}
		case len(kid.Kids) == 0:
			l[0] = put(n.Keys[i]) + ": " + l[0]
		default:
			for j := range l {
				l[j] = "  " + l[j]
			}
			l = append([]string{put(n.Keys[i]) + ":"}, l...)
		}
		out = append(out, l...)
	}
	return out
}

// stepLines is the lines of a step, not moved in, by the chapters' words.
func stepLines(s api.Step) []string {
	out := []string{"name: " + put(s.Name), "action: " + put(s.Action)}
	if s.Undo != "" {
		out = append(out, "undo: "+put(s.Undo))
	}
	if len(s.After) > 0 {
		out = append(out, "after:")
		for _, name := range s.After {
			out = append(out, "  - "+put(name))
		}
	}
	if s.Retry != (api.Retry{}) {
		out = append(out, "retry:", "  most: "+strconv.Itoa(s.Retry.Most), "  first: "+strconv.Itoa(s.Retry.First), "  factor: "+strconv.Itoa(s.Retry.Factor))
	}
	if s.Limit != 0 {
		out = append(out, "limit: "+strconv.Itoa(s.Limit))
	}
	if n := s.Note; n.Kind != 0 {
		l := noteLines(n)
		if len(n.Kids) == 0 {
			return append(out, "note: "+l[0])
		}
		out = append(out, "note:")
		for _, one := range l {
			out = append(out, "  "+one)
		}
	}
	return out
}

// linesOf is the lines of a definition that may be, each with its line feed, and of each the step whose it is, or -1.
func linesOf(d api.Def) ([]string, []int) {
	out := []string{"saga: " + put(d.Name) + "\n"}
	if d.Text != "" {
		out = append(out, "text: "+put(d.Text)+"\n")
	}
	if len(d.Steps) == 0 {
		out = append(out, "steps: []\n")
	} else {
		out = append(out, "steps:\n")
	}
	whose := slices.Repeat([]int{-1}, len(out))
	for i, s := range d.Steps {
		for j, one := range stepLines(s) {
			out = append(out, []string{"  - ", "    "}[min(j, 1)]+one+"\n")
			whose = append(whose, i)
		}
	}
	return out, whose
}

// printed is what the chapters' words tell of a definition: its lines, of each whose it is, and a fault.
func printed(d api.Def) ([]string, []int, api.Fault) {
	if f := def.Check(d); f != (api.Fault{}) {
		return nil, nil, f
	}
	lines, whose := linesOf(d)
	if len(strings.Join(lines, "")) > 1<<20 {
		return nil, nil, api.Fault{Errno: api.ErrLong}
	}
	return lines, whose, api.Fault{}
}

// holdPlaces holds what is told of a definition's lines, all of them or some, against whose they are.
func holdPlaces(t *testing.T, d api.Def, whose []int, some int) {
	t.Helper()
	var first []int
	for i, step := range whose {
		if step >= 0 && (i == 0 || whose[i-1] != step) {
			first = append(first, i+1)
		}
	}
	if got := canon.Where(d); !slices.Equal(got, first) {
		t.Fatalf("Where(%.300s): %v, not %v", shownDef(d), got, first)
	}
	lines := []int{math.MinInt, -1, 0, 1, 2, 3, 4, len(whose) - 1, len(whose), len(whose) + 1, len(whose) + 2, math.MaxInt}
	for n := 5; n < len(whose); n += max(1, len(whose)/some) {
		lines = append(lines, n)
	}
	for _, n := range lines {
		want, there := 0, false
		if n >= 1 && n <= len(whose) && whose[n-1] >= 0 {
			want, there = whose[n-1], true
		}
		if got, ok := canon.Step(d, n); got != want || ok != there {
			t.Fatalf("Step(%.300s, %d): %d, %v, not %d, %v", shownDef(d), n, got, ok, want, there)
		}
	}
}

// hold holds what is told of a definition against the chapters' words, and what follows.
func hold(t *testing.T, d api.Def) (string, api.Fault) {
	t.Helper()
	was := shownDef(d)
	lines, whose, want := printed(d)
	s, f := canon.Print(d)
	if wanted := strings.Join(lines, ""); s != wanted || f != want {
		t.Fatalf("Print(%.300s): %.600q, %v, not %.600q, %v", was, s, f, wanted, want)
	}
	some := 40
	if len(s) > 1<<18 {
		some = 4
	}
	holdPlaces(t, d, whose, some)
	if got := shownDef(d); got != was {
		t.Fatalf("written to: %.300s, not %.300s", got, was)
	}
	if f != (api.Fault{}) {
		return s, f
	}
	if again, g := parse.Def(s); g != (api.Fault{}) || !def.Same(again, d) {
		t.Fatalf("%.600q is read: %.300s, %v, not %.300s", s, shownDef(again), g, was)
	}
	if fixed, g := canon.Fix(s); fixed != s || g != (api.Fault{}) || !canon.Is(s) {
		t.Fatalf("Fix(%.600q): %.600q, %v; Is: %v", s, fixed, g, canon.Is(s))
	}
	return s, f
}

// holdText holds what is told of a text against the chapters' words, and what follows.
func holdText(t *testing.T, s string) (string, api.Fault) {
	t.Helper()
	d, want := parse.Def(s)
	wanted := ""
	if want == (api.Fault{}) {
		var lines []string
		lines, _, want = printed(d)
		wanted = strings.Join(lines, "")
	}
	fixed, f := canon.Fix(s)
	if fixed != wanted || f != want {
		t.Fatalf("Fix(%.600q): %.600q, %v, not %.600q, %v", s, fixed, f, wanted, want)
	}
	if is := f == (api.Fault{}) && fixed == s; canon.Is(s) != is {
		t.Fatalf("Is(%.600q): %v", s, !is)
	}
	if f != (api.Fault{}) {
		return fixed, f
	}
	if g := def.Check(d); g != (api.Fault{}) {
		t.Fatalf("what is read of %.600q may not be: %v", s, g)
	}
	if again, g := parse.Def(fixed); g != (api.Fault{}) || !def.Same(again, d) {
		t.Fatalf("%.600q is read: %.300s, %v, not %.300s", fixed, shownDef(again), g, shownDef(d))
	}
	if again, g := canon.Fix(fixed); again != fixed || g != (api.Fault{}) || !canon.Is(fixed) {
		t.Fatalf("Fix(%.600q): %.600q, %v; Is: %v", fixed, again, g, canon.Is(fixed))
	}
	return fixed, f
}

// trip is a definition that has everything, and tripText its text.
func trip() api.Def {
	return api.Def{Name: "trip", Text: "a trip\n  - name: x", Steps: []api.Step{
		{Name: "hotel", Action: "book", Undo: "free"},
		{Name: "b c", Action: "fly", After: []string{"hotel", "-", "  - name: a"}, Retry: api.Retry{Most: 3, Factor: 2}, Limit: 7,
			Note: keyed([]string{"why", "- ", "steps"}, row(word("0\n"), keyed(nil), row(word("a"), word("b"))), word("\x7F#"), row())},
		{Note: row(keyed([]string{"a", "b"}, row(row(word("")), row()), word("c")), word("d"))},
		{Name: "last", Action: "pay", Limit: 999999999, Note: word("- x"), Retry: api.Retry{First: 1}},
	}}
}

const tripText = `saga: trip
text: "a trip\n  - name: x"
steps:
  - name: hotel
    action: book
    undo: free
  - name: "b c"
    action: fly
    after:
      - hotel
      - "-"
      - "  - name: a"
    retry:
      most: 3
      first: 0
      factor: 2
    limit: 7
    note:
      why:
        - "0\n"
        - {}
        - - a
          - b
      "- ": "\x7f#"
      steps: []
  - name: ""
    action: ""
    note:
      - a:
          - - ""
          - []
        b: c
      - d
  - name: last
    action: pay
    retry:
      most: 0
      first: 1
      factor: 0
    limit: 999999999
    note: "- x"
`

func TestPrint(t *testing.T) { // P23.1, P23.4, the example
	for _, c := range []struct {
		d    api.Def
		want string
	}{
		{api.Def{Name: "x"}, "saga: x\nsteps: []\n"},
		{api.Def{}, "saga: \"\"\nsteps: []\n"},
		{api.Def{Name: "x", Text: "[]", Steps: []api.Step{}}, "saga: x\ntext: \"[]\"\nsteps: []\n"},
		{api.Def{Name: "a b", Steps: []api.Step{{}}}, "saga: \"a b\"\nsteps:\n  - name: \"\"\n    action: \"\"\n"},
		{api.Def{Name: "x", Steps: []api.Step{{Name: "a", Action: "b", After: []string{}, Note: api.Node{Line: 9}}}}, "saga: x\nsteps:\n  - name: a\n    action: b\n"},
		{trip(), tripText},
	} {
		if s, f := hold(t, c.d); s != c.want || f != (api.Fault{}) {
			t.Errorf("Print(%s): %q, %v, not %q", shownDef(c.d), s, f, c.want)
		}
	}
}

// within is a row that has itself within.
func within() api.Node {
	kids := make([]api.Node, 2)
	kids[0], kids[1] = row(), word("a")
	kids[0].Kids = kids
	return api.Node{Kind: 2, Kids: kids}
}

func TestPrintFaults(t *testing.T) { // P23.1: layer 21's fault; P23.5: no lines beside it
	good := api.Step{Name: "a", Action: "b"}
	for i, c := range []struct {
		d    api.Def
		want api.Fault
	}{
		{api.Def{Name: long(64), Text: long(4096), Steps: slices.Repeat([]api.Step{good}, 1024)}, api.Fault{}},
		{api.Def{Name: long(65), Steps: []api.Step{good}}, api.Fault{Errno: api.ErrLong}},
		{api.Def{Name: "\xFF", Steps: []api.Step{good}}, api.Fault{Errno: api.ErrUtf}},
		{api.Def{Text: long(4097), Steps: []api.Step{good}}, api.Fault{Errno: api.ErrLong}},
		{api.Def{Text: "\x80", Steps: []api.Step{good}}, api.Fault{Errno: api.ErrUtf}},
		{api.Def{Steps: slices.Repeat([]api.Step{good}, 1025)}, api.Fault{Errno: api.ErrLong}},
		{api.Def{Steps: []api.Step{good, {Name: "\x80"}}}, api.Fault{Errno: api.ErrUtf, At: 2}},
		{api.Def{Steps: []api.Step{good, good, {After: make([]string, 65)}}}, api.Fault{Errno: api.ErrLong, At: 3}},
		{api.Def{Steps: []api.Step{{Limit: -1}, {Name: "\x80"}}}, api.Fault{Errno: api.ErrRange, At: 1}},
		{api.Def{Steps: []api.Step{{Retry: api.Retry{Most: 1000000000}}}}, api.Fault{Errno: api.ErrRange, At: 1}},
		{api.Def{Steps: []api.Step{good, {Note: api.Node{Kind: 4}}}}, api.Fault{Errno: api.ErrKind, At: 2}},
		{api.Def{Steps: []api.Step{{Note: api.Node{Kind: 3, Keys: []string{"a"}}}}}, api.Fault{Errno: api.ErrForm, At: 1}},
		{api.Def{Steps: []api.Step{{Note: rows(12, word("a"))}}}, api.Fault{}},
		{api.Def{Steps: []api.Step{{Note: rows(13, word("a"))}}}, api.Fault{Errno: api.ErrDepth, At: 1}},
		{api.Def{Steps: []api.Step{{Note: rows(16, word("a"))}}}, api.Fault{Errno: api.ErrDepth, At: 1}},
		{api.Def{Steps: []api.Step{good, {Note: within()}}}, api.Fault{Errno: api.ErrDepth, At: 2}},
	} {
		if _, f := hold(t, c.d); f != c.want {
			t.Errorf("%d: Print(%.300s): %v, not %v", i, shownDef(c.d), f, c.want)
		}
	}
}

// sized is a definition whose text has just so many bytes, most of them in a note of many lines.
func sized(size int) api.Def {
	d := api.Def{Name: "x", Steps: []api.Step{{Name: "a", Action: "b"}, {Name: "c", Action: "d", Note: row(word("e"))}}}
	lines, _ := linesOf(d)
	const ahead = len("      - \n")
	left := size - len(strings.Join(lines, ""))
	for left > 0 {
		n := min(left, 4096+ahead)
		if rest := left - n; rest > 0 && rest <= ahead {
			n -= ahead + 1
		}
		d.Steps[1].Note.Kids = append(d.Steps[1].Note.Kids, word(long(n-ahead)))
		left -= n
	}
	return d
}

func TestPrintLong(t *testing.T) { // P23.1: 2^20 bytes at most; P23.5: no lines beside the fault
	for _, c := range []struct {
		size int
		want api.Errno
	}{
		{1000, api.OK}, {5000, api.OK}, {1<<20 - 1, api.OK}, {1 << 20, api.OK}, {1<<20 + 1, api.ErrLong}, {1<<20 + 100, api.ErrLong}, {1 << 21, api.ErrLong},
	} {
		s, f := hold(t, sized(c.size))
		if f != (api.Fault{Errno: c.want}) || c.want == api.OK && len(s) != c.size {
			t.Errorf("Print of a definition of %d bytes: %d bytes, %v", c.size, len(s), f)
		}
	}
	// The greatest definition but for notes: far too long, and told at once.
	d := api.Def{Name: "x", Steps: slices.Repeat([]api.Step{{Name: "a", Action: "b", After: slices.Repeat([]string{strings.Repeat("\x00", 64)}, 64)}}, 1024)}
	if s, f := canon.Print(d); s != "" || f != (api.Fault{Errno: api.ErrLong}) {
		t.Errorf("Print of long names: %d bytes, %v", len(s), f)
	}
	if l := canon.Where(d); len(l) != 0 {
		t.Errorf("Where of long names: %v", l)
	}
	if i, ok := canon.Step(d, 4); i != 0 || ok {
		t.Errorf("Step of long names: %d, %v", i, ok)
	}
}

func TestFix(t *testing.T) { // P23.2, P23.4, E1
	const one = "saga: x\nsteps:\n  - name: a\n    action: b\n"
	for _, c := range []struct {
		s, want string
		fault   api.Fault
	}{
		{"saga: x\nsteps: []\n", "saga: x\nsteps: []\n", api.Fault{}},
		{"saga: x\nsteps: []", "saga: x\nsteps: []\n", api.Fault{}},
		{"saga: x\nsteps: []\n\n", "saga: x\nsteps: []\n", api.Fault{}},
		{"saga: x # y\nsteps: []\n", "saga: x\nsteps: []\n", api.Fault{}},
		{"# y\nsaga: x\nsteps: []\n", "saga: x\nsteps: []\n", api.Fault{}},
		{"saga: x \nsteps: []\n", "saga: x\nsteps: []\n", api.Fault{}},
		{"saga:  x\nsteps: []\n", "saga: x\nsteps: []\n", api.Fault{}},
		{"saga:\n  x\nsteps: []\n", "saga: x\nsteps: []\n", api.Fault{}},
		{"saga: \"x\"\nsteps: []\n", "saga: x\nsteps: []\n", api.Fault{}},
		{"\"saga\": x\nsteps: []\n", "saga: x\nsteps: []\n", api.Fault{}},
		{"steps: []\nsaga: x\n", "saga: x\nsteps: []\n", api.Fault{}},
		{"steps: []\ntext: \"\\x0a\"\nsaga: x\n", "saga: x\ntext: \"\\n\"\nsteps: []\n", api.Fault{}},
		{"saga: x\ntext: \"\"\nsteps: []\n", "saga: x\nsteps: []\n", api.Fault{}},
		{one, one, api.Fault{}},
		{"saga: x\nsteps:\n - name: a\n   action: b\n", one, api.Fault{}},
		{"saga: x\nsteps:\n  -\n    name: a\n    action: b\n", one, api.Fault{}},
		{"saga: x\nsteps:\n  - action: b\n    name: a\n", one, api.Fault{}},
		{"saga: x\nsteps:\n  - action: b\n    after: []\n    retry: {}\n    limit: 0\n    undo: \"\"\n    name: a\n", one, api.Fault{}},
		{"saga: x\nsteps:\n  - name: a\n    action: b\n    retry:\n      factor: 0\n", one, api.Fault{}},
		{"saga: x\nsteps:\n  - name: a\n    retry:\n      factor: 2\n    action: b\n", one + "    retry:\n      most: 0\n      first: 0\n      factor: 2\n", api.Fault{}},
		{"saga: x\nsteps:\n  - note:\n      b: 1\n      a:\n       - -  2\n    name: a\n    action: b\n", one + "    note:\n      b: 1\n      a:\n        - - 2\n", api.Fault{}},
		{tripText, tripText, api.Fault{}},
		{"", "", api.Fault{Errno: api.ErrEmpty}},
		{"# saga", "", api.Fault{Errno: api.ErrEmpty}},
		{"\n\nsaga: x\n", "", api.Fault{Errno: api.ErrNone, At: 3}},
		{"saga: x\nsteps: []\nsteps: []\n", "", api.Fault{Errno: api.ErrTwice, At: 3}},
		{"saga: x\n\tsteps: []\n", "", api.Fault{Errno: api.ErrForm, At: 2}},
		{"saga: x\nsteps: []\n\xFF", "", api.Fault{Errno: api.ErrUtf, At: 3}},
		{"saga: x\nsteps: []\r\n", "", api.Fault{Errno: api.ErrForm, At: 2}},
		{one + "    limit: 007\n", "", api.Fault{Errno: api.ErrForm, At: 5}},
		{one + "    other: 1\n", "", api.Fault{Errno: api.ErrName, At: 5}},
		{one + "  - name: b\n", "", api.Fault{Errno: api.ErrNone, At: 5}},
		{"saga: x\nsteps: []\n" + strings.Repeat("#", 1<<20), "", api.Fault{Errno: api.ErrLong}},
	} {
		if s, f := holdText(t, c.s); s != c.want || f != c.fault {
			t.Errorf("Fix(%.300q): %q, %v, not %q, %v", c.s, s, f, c.want, c.fault)
		}
		if is := c.s == c.want && c.s != ""; canon.Is(c.s) != is {
			t.Errorf("Is(%.300q): %v", c.s, !is)
		}
	}
}

// narrow is a definition's text in which all is moved in by one blank each, with a note of 13 levels that has so many lines.
func narrow(lines int) string {
	var out strings.Builder
	out.WriteString("saga: x\nsteps:\n - name: a\n   action: b\n   note:\n")
	in := 4
	for range 11 {
		out.WriteString(strings.Repeat(" ", in) + "a:\n")
		in++
	}
	for range lines {
		out.WriteString(strings.Repeat(" ", in) + "- b\n")
	}
	return out.String()
}

func TestFixLong(t *testing.T) { // P23.2: what is read may be too long when it is printed
	for _, c := range []struct {
		lines int
		want  api.Errno
	}{
		{20000, api.OK}, {40000, api.ErrLong}, {55000, api.ErrLong},
	} {
		s := narrow(c.lines)
		if len(s) > 1<<20 {
			t.Fatalf("a text of %d lines has %d bytes", c.lines, len(s))
		}
		if d, f := parse.Def(s); f != (api.Fault{}) || len(d.Steps) != 1 {
			t.Fatalf("a text of %d lines: %v", c.lines, f)
		}
		if _, f := holdText(t, s); f != (api.Fault{Errno: c.want}) {
			t.Errorf("Fix of a text of %d lines: %v", c.lines, f)
		}
	}
}

func TestIsBytes(t *testing.T) { // P23.2: each byte counts
	if !canon.Is(tripText) {
		t.Fatal("the one way isn't one")
	}
	for i := range len(tripText) {
		for _, s := range []string{tripText[:i], tripText[:i] + tripText[i+1:], tripText[:i] + " " + tripText[i:], tripText[:i] + "\n" + tripText[i:], tripText[:i] + "#" + tripText[i+1:], tripText[:i] + "-" + tripText[i+1:]} {
			holdText(t, s)
		}
	}
}

// cut is a text's lines: each up to a line feed, and what stands behind the last one.
func cut(s string) []string {
	var out []string
	one := ""
	for i := range len(s) {
		if s[i] == '\n' {
			out, one = append(out, one), ""
			continue
		}
		one += s[i : i+1]
	}
	if one != "" {
		out = append(out, one)
	}
	return out
}

// differ is what the chapter's words tell of two rows of lines.
func differ(a, b []string) int {
	for n := 1; n <= max(len(a), len(b)); n++ {
		if n > len(a) || n > len(b) || a[n-1] != b[n-1] {
			return n
		}
	}
	return 0
}

func TestDiff(t *testing.T) { // P23.3
	for _, c := range []struct {
		a, b string
		want int
	}{
		{"", "", 0}, {"a", "a", 0}, {"a", "a\n", 0}, {"a\nb", "a\nb\n", 0}, {"\n", "\n", 0},
		{"", "\n", 1}, {"", "a", 1}, {"a", "b", 1}, {"a", "a\n\n", 2}, {"a\n", "a\n\n", 2}, {"\n", "\n\n", 2}, {"a\n", "a\nb", 2},
		{"a\nb\nc", "a\nx\nc", 2}, {"a\nb\nc", "a\nb\nx", 3}, {"a\nb\nc", "a\nb", 3}, {"a\n\nb", "a\nb", 2}, {"\na", "a", 1},
		{"a ", "a", 1}, {"a\r\n", "a\n", 1}, {"a\x00", "a", 1}, {"\xFF", "\xFE", 1}, {"a # b", "a", 1}, {"ab\nc", "a\nbc", 1},
		{tripText, tripText, 0}, {tripText, strings.Replace(tripText, "limit: 7", "limit: 8", 1), 17},
		{strings.Repeat("\n", 100000), strings.Repeat("\n", 100001), 100001},
		{strings.Repeat("a", 1<<22), strings.Repeat("a", 1<<22) + "\n", 0},
	} {
		for range 2 {
			if got := canon.Diff(c.a, c.b); got != c.want {
				t.Errorf("Diff(%.60q, %.60q): %d, not %d", c.a, c.b, got, c.want)
			}
			c.a, c.b = c.b, c.a
		}
	}
}

// texts is all texts of up to so many of these bytes.
func texts(bytes string, most int) []string {
	out := []string{""}
	last := out
	for range most {
		var next []string
		for _, s := range last {
			for i := range len(bytes) {
				next = append(next, s+bytes[i:i+1])
			}
		}
		out, last = append(out, next...), next
	}
	return out
}

func TestDiffAll(t *testing.T) { // P23.3: all pairs of short texts
	all := texts("ab\n", 5)
	lines := map[string][]string{}
	for _, s := range all {
		lines[s] = cut(s)
		if line.Count(s) != len(lines[s]) {
			t.Fatalf("%q has %d lines", s, line.Count(s))
		}
	}
	for _, a := range all {
		for _, b := range all {
			if got, want := canon.Diff(a, b), differ(lines[a], lines[b]); got != want {
				t.Fatalf("Diff(%q, %q): %d, not %d", a, b, got, want)
			}
		}
	}
}

func TestWhere(t *testing.T) { // P23.5
	d := trip()
	if got := canon.Where(d); !slices.Equal(got, []int{4, 7, 26, 34}) {
		t.Errorf("Where: %v", got)
	}
	if got := canon.Where(api.Def{Name: "x"}); len(got) != 0 {
		t.Errorf("Where without steps: %v", got)
	}
	for _, c := range []struct {
		line, want int
		there      bool
	}{
		{-1, 0, false}, {0, 0, false}, {1, 0, false}, {2, 0, false}, {3, 0, false}, {4, 0, true}, {6, 0, true}, {7, 1, true}, {12, 1, true}, {25, 1, true}, {26, 2, true},
		{33, 2, true}, {34, 3, true}, {41, 3, true}, {42, 0, false}, {math.MaxInt, 0, false}, {math.MinInt, 0, false},
	} {
		if got, ok := canon.Step(d, c.line); got != c.want || ok != c.there {
			t.Errorf("Step(trip, %d): %d, %v, not %d, %v", c.line, got, ok, c.want, c.there)
		}
	}
	hold(t, d)
	d.Text = ""
	hold(t, d)
	d.Steps = d.Steps[1:2]
	holdPlaces(t, d, slices.Concat([]int{-1, -1}, make([]int, 19)), 100)
}

func TestMany(t *testing.T) { // P23.1, P23.5: all that there may be
	d := api.Def{Name: "x"}
	for i := range 1024 {
		s := api.Step{Name: "s" + strconv.Itoa(i), Action: "a", Limit: i}
		for j := range i % 9 {
			s.After = append(s.After, "- "+strconv.Itoa(i*j%1024))
		}
		d.Steps = append(d.Steps, s)
	}
	if _, f := hold(t, d); f != (api.Fault{}) {
		t.Error(f)
	}
}

func TestMemory(t *testing.T) { // P3: what lies behind a list's end is neither read nor written to, and what is answered is the caller's
	steps := []api.Step{{Name: "a", Action: "b"}, {Name: "behind", Limit: -1}}
	after := []string{"c", "\xFF"}
	kids := []api.Node{word("d"), {Kind: 9}}
	steps[0].After, steps[0].Note = after[:1], api.Node{Kind: 2, Kids: kids[:1]}
	d := api.Def{Name: "x", Steps: steps[:1]}
	if s, f := hold(t, d); f != (api.Fault{}) || s != "saga: x\nsteps:\n  - name: a\n    action: b\n    after:\n      - c\n    note:\n      - d\n" {
		t.Errorf("Print: %q, %v", s, f)
	}
	l := canon.Where(d)
	if !slices.Equal(l, []int{3}) {
		t.Fatalf("Where: %v", l)
	}
	l[0] = 7
	_ = append(l, 8)
	if again := canon.Where(d); !slices.Equal(again, []int{3}) {
		t.Errorf("Where again: %v", again)
	}
	if steps[1].Name != "behind" || steps[1].Limit != -1 || after[1] != "\xFF" || kids[1].Kind != 9 {
		t.Error("written behind an end")
	}
}

// giver gives numbers below others by bytes; 0, if there are no more.
type giver struct{ left []byte }

func (g *giver) below(n int) int {
	if len(g.left) == 0 {
		return 0
	}
	c := int(g.left[0])
	g.left = g.left[1:]
	return c % n
}

// pick is one of a list that bytes tell: most often one of the first so many, which are right.
func pick[T any](g *giver, right int, l []T) T {
	if g.below(50) == 1 {
		return l[g.below(len(l))]
	}
	return l[g.below(right)]
}

// noteMade is a note that bytes tell.
func noteMade(g *giver, level int) api.Node {
	kinds := []int{1, 1, 2, 3, 0}
	if level > 1 {
		kinds = kinds[:4]
	}
	if g.below(100) == 1 || level > 14 {
		return api.Node{Kind: uint8(g.below(5)), Text: "x"}
	}
	n := api.Node{Kind: uint8(pick(g, len(kinds), kinds))}
	if n.Kind == 1 {
		n.Text = pick(g, 8, []string{"a", "", "- a", "a: b", "[]", "  - name: a", "\n", "#", "\xFF", long(4097)})
	}
	if n.Kind == 2 || n.Kind == 3 {
		for i := range g.below(4) {
			n.Kids = append(n.Kids, noteMade(g, level+1))
			if n.Kind == 3 {
				n.Keys = append(n.Keys, pick(g, 6, []string{"a", "", "- ", "steps", "\"", long(62), "\xFF", long(65)})+[]string{"", "1", "22"}[i])
			}
		}
	}
	return n
}

// made is a definition that bytes tell, wrong ones too.
func made(g *giver) api.Def {
	names := []string{"", "a", "b-c", "a b", long(64), "\n", "- ", "[]", "a: b", "\u00E4\x7F\"\\", "#", long(65), "\xFF"}
	numbers := []int{0, 0, 1, 2, 999999999, 1000000000, -1, math.MaxInt}
	d := api.Def{Name: pick(g, 11, names), Text: pick(g, 11, names)}
	for range g.below(5) {
		s := api.Step{Name: pick(g, 11, names), Action: pick(g, 11, names), Undo: pick(g, 11, names), Limit: pick(g, 5, numbers), Note: noteMade(g, 1)}
		s.Retry = api.Retry{Most: pick(g, 4, numbers), First: pick(g, 3, numbers), Factor: pick(g, 3, numbers)}
		for range pick(g, 4, []int{0, 1, 2, 3, 64, 65}) {
			s.After = append(s.After, pick(g, 11, names))
		}
		d.Steps = append(d.Steps, s)
	}
	return d
}

// worn is a text in another way: some bytes put in, or taken away.
func worn(g *giver, s string) string {
	for range 1 + g.below(4) {
		at := (g.below(256)*256 + g.below(256)) % (len(s) + 1)
		switch more := []string{" ", "\n", "#", " #", "\n# x\n", "\n\n", "-", "\"", "a", ":", "  "}; g.below(4) {
		case 0:
			s = s[:at]
		case 1:
			s = s[:at] + s[min(at+1, len(s)):]
		default:
			s = s[:at] + more[g.below(len(more))] + s[at:]
		}
	}
	return s
}

// holdMade holds a definition that bytes tell, its text, and others like it.
func holdMade(t *testing.T, b []byte) api.Fault {
	t.Helper()
	g := giver{left: b}
	d := made(&g)
	s, f := hold(t, d)
	other, _ := canon.Print(made(&g))
	for _, more := range []string{worn(&g, s), worn(&g, s), other} {
		holdText(t, more)
		if got, want := canon.Diff(s, more), differ(cut(s), cut(more)); got != want {
			t.Fatalf("Diff(%q, %q): %d, not %d", s, more, got, want)
		}
	}
	return f
}

func TestMade(t *testing.T) { // P23.1 to P23.5
	chance := rand.New(rand.NewSource(24))
	times := map[api.Errno]int{}
	for range 5000 {
		b := make([]byte, chance.Intn(200))
		chance.Read(b)
		times[holdMade(t, b).Errno]++
	}
	for _, e := range []api.Errno{api.OK, api.ErrLong, api.ErrUtf, api.ErrRange, api.ErrForm, api.ErrKind} {
		if times[e] < 20 {
			t.Errorf("of the error %d there were but %d", e, times[e])
		}
	}
	if times[api.OK] < 1500 {
		t.Errorf("but %d definitions may be", times[api.OK])
	}
}

func FuzzFix(f *testing.F) { // E6
	for _, s := range []string{"", tripText, "saga: x\nsteps: []", "steps:\n  - name: a\n    action: b\n    note: {}\nsaga: x\n"} {
		f.Add(s)
	}
	f.Fuzz(func(t *testing.T, s string) {
		if len(s) < 1<<12 {
			holdText(t, s)
			holdMade(t, []byte(s))
		}
	})
}
