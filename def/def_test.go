package def_test

import (
	"math"
	"math/rand"
	"slices"
	"strconv"
	"strings"
	"testing"
	"unicode/utf8"

	"rescript/api"
	"rescript/block"
	"rescript/def"
)

func word(s string) api.Node { return api.Node{Kind: 1, Text: s} }

func row(kids ...api.Node) api.Node { return api.Node{Kind: 2, Kids: kids} }

func keyed(keys []string, kids ...api.Node) api.Node {
	return api.Node{Kind: 3, Keys: keys, Kids: kids}
}

// rows is a node within so many rows.
func rows(n int, in api.Node) api.Node {
	for range n {
		in = row(in)
	}
	return in
}

// shown is all of a tree, of so many levels at most, as a text.
func shown(n api.Node, levels int) string {
	out := strconv.Itoa(int(n.Kind)) + strconv.Quote(n.Text) + "@" + strconv.Itoa(n.Line)
	for _, key := range n.Keys {
		out += "," + strconv.Quote(key)
	}
	if levels > 1 && len(n.Kids) > 0 {
		var kids []string
		for _, kid := range n.Kids {
			kids = append(kids, shown(kid, levels-1))
		}
		out += "(" + strings.Join(kids, ";") + ")"
	}
	return out
}

// all is more levels than a tree of the tests has.
const all = 1000

// shownDef is all of a definition as a text, its notes of so many levels at most.
func shownDef(d api.Def, levels int) string {
	out := strconv.Quote(d.Name) + strconv.Quote(d.Text)
	for _, s := range d.Steps {
		out += "\n" + strconv.Quote(s.Name) + strconv.Quote(s.Action) + strconv.Quote(s.Undo)
		for _, name := range s.After {
			out += "," + strconv.Quote(name)
		}
		for _, n := range []int{s.Retry.Most, s.Retry.First, s.Retry.Factor, s.Limit} {
			out += " " + strconv.Itoa(n)
		}
		out += " " + shown(s.Note, levels)
	}
	return out
}

// noNote tells whether a note is none, by the chapter's words.
func noNote(n api.Node) bool {
	return n.Kind == 0 && n.Text == "" && len(n.Keys) == 0 && len(n.Kids) == 0
}

// texted is what layer 3's words tell of a text.
func texted(s string, most int) api.Errno {
	switch {
	case len(s) > most:
		return api.ErrLong
	case !utf8.ValidString(s):
		return api.ErrUtf
	}
	return api.OK
}

// checked is what the chapter's words tell of a definition: the first of all that is looked at.
func checked(d api.Def) api.Fault {
	looked := []api.Fault{{Errno: texted(d.Name, 64)}, {Errno: texted(d.Text, 4096)}}
	put := func(at int, wrong bool, e api.Errno) {
		if wrong {
			looked = append(looked, api.Fault{Errno: e, At: at})
		}
	}
	put(0, len(d.Steps) > 1024, api.ErrLong)
	for i, s := range d.Steps {
		put(i+1, true, texted(s.Name, 64))
		put(i+1, true, texted(s.Action, 64))
		put(i+1, true, texted(s.Undo, 64))
		put(i+1, len(s.After) > 64, api.ErrLong)
		for _, name := range s.After {
			put(i+1, true, texted(name, 64))
		}
		for _, n := range []int{s.Retry.Most, s.Retry.First, s.Retry.Factor, s.Limit} {
			put(i+1, n < 0 || n > 999999999, api.ErrRange)
		}
		if !noNote(s.Note) {
			put(i+1, true, block.Check(s.Note))
			put(i+1, block.Depth(s.Note) > 13, api.ErrDepth)
		}
	}
	for _, f := range looked {
		if f.Errno != api.OK {
			return f
		}
	}
	return api.Fault{}
}

// mapShown is what is shown of a Map with these keys, each with what is shown of its kid; nothing is none.
func mapShown(l ...string) string {
	out := `3""@0`
	var kids []string
	for i := 0; i < len(l); i += 2 {
		if l[i+1] != "" {
			out += "," + strconv.Quote(l[i])
			kids = append(kids, l[i+1])
		}
	}
	return out + "(" + strings.Join(kids, ";") + ")"
}

// wordShown is what is shown of a Scalar.
func wordShown(s string) string { return "1" + strconv.Quote(s) + "@0" }

// numberShown is what is shown of a number.
func numberShown(n int) string {
	if n < 0 || n > 999999999 {
		return wordShown("")
	}
	return wordShown(strconv.Itoa(n))
}

// rowShown is what is shown of a Seq with these kids.
func rowShown(kids []string) string {
	if len(kids) == 0 {
		return `2""@0`
	}
	return `2""@0(` + strings.Join(kids, ";") + ")"
}

// treeShown is what the chapter's words tell of a definition's tree.
func treeShown(d api.Def) string {
	var steps []string
	for _, s := range d.Steps {
		undo, after, retry, limit, note := "", "", "", "", ""
		if s.Undo != "" {
			undo = wordShown(s.Undo)
		}
		if len(s.After) > 0 {
			var names []string
			for _, name := range s.After {
				names = append(names, wordShown(name))
			}
			after = rowShown(names)
		}
		if s.Retry.Most != 0 || s.Retry.First != 0 || s.Retry.Factor != 0 {
			retry = mapShown("most", numberShown(s.Retry.Most), "first", numberShown(s.Retry.First), "factor", numberShown(s.Retry.Factor))
		}
		if s.Limit != 0 {
			limit = numberShown(s.Limit)
		}
		if !noNote(s.Note) {
			note = shown(s.Note, 18)
		}
		steps = append(steps, mapShown("name", wordShown(s.Name), "action", wordShown(s.Action), "undo", undo, "after", after, "retry", retry, "limit", limit, "note", note))
	}
	text := ""
	if d.Text != "" {
		text = wordShown(d.Text)
	}
	return mapShown("saga", wordShown(d.Name), "text", text, "steps", rowShown(steps))
}

// noLines is a tree without lines.
func noLines(n api.Node) api.Node {
	n.Line = 0
	n.Kids = slices.Clone(n.Kids)
	for i, kid := range n.Kids {
		n.Kids[i] = noLines(kid)
	}
	return n
}

// stepParts is what is held against another step's, by its name.
func stepParts(s api.Step) [][2]string {
	return [][2]string{
		{"name", s.Name}, {"action", s.Action}, {"undo", s.Undo}, {"after", strconv.Itoa(len(s.After)) + strings.Join(s.After, "\x00")},
		{"retry", strconv.Itoa(s.Retry.Most) + " " + strconv.Itoa(s.Retry.First) + " " + strconv.Itoa(s.Retry.Factor)},
		{"limit", strconv.Itoa(s.Limit)}, {"note", shown(noLines(s.Note), all)},
	}
}

// changed is what the chapter's words tell of what is unlike.
func changed(a, b api.Def) []string {
	var out []string
	if a.Name != b.Name {
		out = append(out, "saga")
	}
	if a.Text != b.Text {
		out = append(out, "text")
	}
	both := min(len(a.Steps), len(b.Steps))
	for i := range both {
		others := stepParts(b.Steps[i])
		for j, p := range stepParts(a.Steps[i]) {
			if p != others[j] {
				out = append(out, strconv.Itoa(i)+"."+p[0])
			}
		}
	}
	for i := both; i < len(a.Steps); i++ {
		out = append(out, "-"+strconv.Itoa(i))
	}
	for i := both; i < len(b.Steps); i++ {
		out = append(out, "+"+strconv.Itoa(i))
	}
	return out
}

// hold holds what is told of a definition against the chapter's words, and what follows.
func hold(t *testing.T, d api.Def) {
	t.Helper()
	was := shownDef(d, all)
	f := def.Check(d)
	if want := checked(d); f != want {
		t.Fatalf("Check(%.300s): %v, not %v", was, f, want)
	}
	n := def.Tree(d)
	if got, want := shown(n, all), treeShown(d); got != want {
		t.Fatalf("Tree(%.300s): %s, not %s", was, got, want)
	}
	if f == (api.Fault{}) && (block.Check(n) != api.OK || block.Depth(n) > 16) {
		t.Fatalf("the tree of %.300s: %d, of %d levels", was, block.Check(n), block.Depth(n))
	}
	own := def.Copy(d)
	if got := shownDef(own, all); got != shownDef(d, 18) {
		t.Fatalf("Copy(%.300s): %.300s", was, got)
	}
	for _, name := range []string{"", "a", "b", "a b", "\xFF", "nobody"} {
		want := -1
		for i := len(d.Steps) - 1; i >= 0; i-- {
			if d.Steps[i].Name == name {
				want = i
			}
		}
		if got := def.Index(d, name); got != want {
			t.Fatalf("Index(%.300s, %q): %d, not %d", was, name, got, want)
		}
	}
	scribble(&n)
	for i := range own.Steps {
		scribbleAfter(own.Steps[i].After)
		scribble(&own.Steps[i].Note)
		own.Steps[i] = api.Step{Name: "written"}
	}
	if got := shownDef(d, all); got != was {
		t.Fatalf("written to: %.300s, not %.300s", got, was)
	}
}

// scribble writes to all of a tree, and behind its lists' ends.
func scribble(n *api.Node) {
	for i := range n.Keys {
		n.Keys[i] = "written"
	}
	for i := range n.Kids {
		scribble(&n.Kids[i])
		n.Kids[i] = word("written")
	}
	_ = append(n.Keys, "written")
	_ = append(n.Kids, word("written"))
}

// scribbleAfter writes to a list of names, and behind its end.
func scribbleAfter(l []string) {
	for i := range l {
		l[i] = "written"
	}
	_ = append(l, "written")
}

// holdTwo holds what is told of two definitions against the chapter's words, and what follows.
func holdTwo(t *testing.T, a, b api.Def) {
	t.Helper()
	want := changed(a, b)
	if got := def.Changes(a, b); !slices.Equal(got, want) {
		t.Fatalf("Changes(%.300s, %.300s): %q, not %q", shownDef(a, all), shownDef(b, all), got, want)
	}
	same := def.Same(a, b)
	if same != (len(want) == 0) {
		t.Fatalf("Same(%.300s, %.300s): %v", shownDef(a, all), shownDef(b, all), same)
	}
	if same && !block.Same(def.Tree(a), def.Tree(b)) {
		t.Fatalf("of %.300s and %.300s, which are alike, the trees aren't", shownDef(a, all), shownDef(b, all))
	}
}

// with is a definition of one step, that something was done to.
func with(do func(s *api.Step)) api.Def {
	s := api.Step{Name: "a", Action: "b"}
	do(&s)
	return api.Def{Name: "x", Steps: []api.Step{s}}
}

// long is a name of so many bytes.
func long(n int) string { return strings.Repeat("k", n) }

func TestCheckWhole(t *testing.T) { // P21.1
	for _, c := range []struct {
		d    api.Def
		want api.Fault
	}{
		{api.Def{}, api.Fault{}},
		{api.Def{Name: "x"}, api.Fault{}},
		{api.Def{Name: long(64), Text: long(4096), Steps: make([]api.Step, 1024)}, api.Fault{}},
		{api.Def{Name: long(65)}, api.Fault{Errno: api.ErrLong}},
		{api.Def{Name: "\xC0\x80"}, api.Fault{Errno: api.ErrUtf}},
		{api.Def{Name: "\xFF" + long(64)}, api.Fault{Errno: api.ErrLong}},
		{api.Def{Text: long(4097)}, api.Fault{Errno: api.ErrLong}},
		{api.Def{Text: "\x80"}, api.Fault{Errno: api.ErrUtf}},
		{api.Def{Name: "\x80", Text: long(4097)}, api.Fault{Errno: api.ErrUtf}},
		{api.Def{Text: "\x80", Steps: make([]api.Step, 1025)}, api.Fault{Errno: api.ErrUtf}},
		{api.Def{Steps: make([]api.Step, 1025)}, api.Fault{Errno: api.ErrLong}},
		{api.Def{Steps: append([]api.Step{{Limit: -1}}, make([]api.Step, 1024)...)}, api.Fault{Errno: api.ErrLong}},
		{api.Def{Steps: append([]api.Step{{Limit: -1}}, make([]api.Step, 1023)...)}, api.Fault{Errno: api.ErrRange, At: 1}},
		{api.Def{Steps: append(make([]api.Step, 1023), api.Step{Limit: -1})}, api.Fault{Errno: api.ErrRange, At: 1024}},
		{api.Def{Text: "\x80", Steps: []api.Step{{Limit: -1}}}, api.Fault{Errno: api.ErrUtf}},
		{api.Def{Steps: []api.Step{{}, {Undo: "\x80"}, {Limit: -1}}}, api.Fault{Errno: api.ErrUtf, At: 2}},
		{api.Def{Name: "\n\x00\x7F \xC3\xA4", Text: "\n"}, api.Fault{}},
	} {
		if got := def.Check(c.d); got != c.want {
			t.Errorf("Check(%.100s): %v, not %v", shownDef(c.d, all), got, c.want)
		}
		hold(t, c.d)
	}
}

func TestCheckStep(t *testing.T) { // P21.1
	for i, c := range []struct {
		do   func(s *api.Step)
		want api.Errno
	}{
		{func(s *api.Step) {}, api.OK},
		{func(s *api.Step) { *s = api.Step{} }, api.OK},
		{func(s *api.Step) { s.Name, s.Action, s.Undo = long(64), long(64), long(64) }, api.OK},
		{func(s *api.Step) { s.Name = long(65) }, api.ErrLong},
		{func(s *api.Step) { s.Name = "\x80" }, api.ErrUtf},
		{func(s *api.Step) { s.Action = long(65) }, api.ErrLong},
		{func(s *api.Step) { s.Action = "\x80" }, api.ErrUtf},
		{func(s *api.Step) { s.Undo = long(65) }, api.ErrLong},
		{func(s *api.Step) { s.Undo = "\x80" }, api.ErrUtf},
		{func(s *api.Step) { s.Name, s.Action = "\x80", long(65) }, api.ErrUtf},
		{func(s *api.Step) { s.Action, s.Undo = "\x80", long(65) }, api.ErrUtf},
		{func(s *api.Step) { s.Action, s.Undo = long(65), "\x80" }, api.ErrLong},
		{func(s *api.Step) { s.Undo, s.After = "\x80", make([]string, 65) }, api.ErrUtf},
		{func(s *api.Step) { s.After = make([]string, 64) }, api.OK},
		{func(s *api.Step) { s.After = make([]string, 65) }, api.ErrLong},
		{func(s *api.Step) { s.After = append([]string{"\x80"}, make([]string, 64)...) }, api.ErrLong},
		{func(s *api.Step) { s.After = []string{"a", "a", long(64)} }, api.OK},
		{func(s *api.Step) { s.After = []string{"a", "\x80", long(65)} }, api.ErrUtf},
		{func(s *api.Step) { s.After = []string{"a", long(65), "\x80"} }, api.ErrLong},
		{func(s *api.Step) { s.After, s.Limit = []string{"\x80"}, -1 }, api.ErrUtf},
		{func(s *api.Step) {
			s.Retry, s.Limit = api.Retry{Most: 999999999, First: 999999999, Factor: 999999999}, 999999999
		}, api.OK},
		{func(s *api.Step) { s.Retry.Most = -1 }, api.ErrRange},
		{func(s *api.Step) { s.Retry.Most = 1000000000 }, api.ErrRange},
		{func(s *api.Step) { s.Retry.First = -1 }, api.ErrRange},
		{func(s *api.Step) { s.Retry.First = math.MaxInt }, api.ErrRange},
		{func(s *api.Step) { s.Retry.Factor = math.MinInt }, api.ErrRange},
		{func(s *api.Step) { s.Retry.Factor = 1000000000 }, api.ErrRange},
		{func(s *api.Step) { s.Limit = -1 }, api.ErrRange},
		{func(s *api.Step) { s.Limit = 1000000000 }, api.ErrRange},
		{func(s *api.Step) { s.Limit, s.Note = -1, api.Node{Kind: 4} }, api.ErrRange},
	} {
		d := with(c.do)
		want := api.Fault{}
		if c.want != api.OK {
			want = api.Fault{Errno: c.want, At: 1}
		}
		if got := def.Check(d); got != want {
			t.Errorf("%d: Check(%.100s): %v, not %v", i, shownDef(d, all), got, want)
		}
		hold(t, d)
	}
}

// within is a row that has itself within.
func within() api.Node {
	kids := make([]api.Node, 2)
	kids[0], kids[1] = row(), word("a")
	kids[0].Kids = kids
	return api.Node{Kind: 2, Kids: kids}
}

func TestCheckNote(t *testing.T) { // P21.1, P21.2
	for i, c := range []struct {
		note api.Node
		want api.Errno
	}{
		{api.Node{}, api.OK},
		{api.Node{Line: 7}, api.OK},
		{api.Node{Line: -1, Keys: []string{}, Kids: []api.Node{}}, api.OK},
		{api.Node{Text: "a"}, api.ErrKind},
		{api.Node{Keys: []string{"a"}}, api.ErrKind},
		{api.Node{Kids: []api.Node{{}}}, api.ErrKind},
		{api.Node{Kind: 4}, api.ErrKind},
		{word(""), api.OK},
		{word(long(4096)), api.OK},
		{word(long(4097)), api.ErrLong},
		{word("\x80"), api.ErrUtf},
		{row(), api.OK},
		{keyed(nil), api.OK},
		{keyed([]string{"a", "a"}, word("b"), word("c")), api.ErrTwice},
		{keyed([]string{"a"}), api.ErrForm},
		{row(word("a"), row(api.Node{})), api.ErrKind},
		{rows(11, word("a")), api.OK},
		{rows(12, word("a")), api.OK},
		{rows(13, word("a")), api.ErrDepth},
		{rows(15, word("a")), api.ErrDepth},
		{rows(16, word("a")), api.ErrDepth},
		{rows(30, word("a")), api.ErrDepth},
		{rows(13, word("\x80")), api.ErrUtf},
		{rows(15, api.Node{Kind: 9}), api.ErrKind},
		{row(rows(13, word("a")), word("\x80")), api.ErrUtf},
		{row(rows(16, word("a")), word("\x80")), api.ErrDepth},
	} {
		d := with(func(s *api.Step) { s.Note = c.note })
		want := api.Fault{}
		if c.want != api.OK {
			want = api.Fault{Errno: c.want, At: 1}
		}
		if got := def.Check(d); got != want {
			t.Errorf("%d: Check of a note: %v, not %v", i, got, want)
		}
		hold(t, d)
	}
	d := with(func(s *api.Step) { s.Note = within() })
	if got := def.Check(d); got != (api.Fault{Errno: api.ErrDepth, At: 1}) {
		t.Errorf("Check of a note that has itself within: %v", got)
	}
	if !def.Same(d, d) || block.Depth(def.Copy(d).Steps[0].Note) != 18 || block.Depth(def.Tree(d)) != 18 {
		t.Error("a note that has itself within")
	}
}

// full is a definition that has everything.
func full() api.Def {
	return api.Def{Name: "trip", Text: "a trip", Steps: []api.Step{
		{Name: "hotel", Action: "book", Undo: "free", Limit: 5},
		{Name: "b c", Action: "fly", After: []string{"hotel", "b c"}, Retry: api.Retry{Most: 3, First: 1, Factor: 2}, Limit: 999999999,
			Note: api.Node{Kind: 3, Keys: []string{"why"}, Line: 9, Kids: []api.Node{{Kind: 2, Line: 10, Kids: []api.Node{{Kind: 1, Text: "0", Line: 10}}}}}},
		{Name: "", Action: "", Retry: api.Retry{Factor: 1}, Note: word("")},
	}}
}

func TestTree(t *testing.T) { // P21.2, the first example
	const want = `saga: trip
text: "a trip"
steps:
  - name: hotel
    action: book
    undo: free
    limit: 5
  - name: "b c"
    action: fly
    after:
      - hotel
      - "b c"
    retry:
      most: 3
      first: 1
      factor: 2
    limit: 999999999
    note:
      why:
        - 0
  - name: ""
    action: ""
    retry:
      most: 0
      first: 0
      factor: 1
    note: ""
`
	d := full()
	n := def.Tree(d)
	if got, e := block.Print(n); got != want || e != api.OK {
		t.Errorf("the text of Tree: %s, %d", got, e)
	}
	if got := n.Kids[2].Kids[1].Kids[5]; got.Line != 9 || got.Kids[0].Kids[0].Line != 10 || n.Kids[2].Kids[1].Line != 0 {
		t.Errorf("the lines of Tree: %v", got)
	}
	hold(t, d)
	if got, _ := block.Print(def.Tree(api.Def{})); got != "saga: \"\"\nsteps: []\n" {
		t.Errorf("the text of Tree of nothing: %s", got)
	}
	if got, _ := block.Print(def.Tree(api.Def{Name: "x", Steps: []api.Step{}})); got != "saga: x\nsteps: []\n" {
		t.Errorf("the text of Tree without steps: %s", got)
	}
}

func TestTreeOfNumbers(t *testing.T) { // P21.2
	for _, n := range []int{-1, 0, 1, 10, 999999999, 1000000000, math.MinInt, math.MaxInt} {
		hold(t, with(func(s *api.Step) { s.Limit = n }))
		hold(t, with(func(s *api.Step) { s.Retry.Most = n }))
		hold(t, with(func(s *api.Step) { s.Retry.First = n }))
		hold(t, with(func(s *api.Step) { s.Retry.Factor = n }))
	}
	n := def.Tree(with(func(s *api.Step) { s.Retry.First, s.Limit = -1, -1 })).Kids[1].Kids[0]
	if !slices.Equal(n.Keys, []string{"name", "action", "retry", "limit"}) || n.Kids[3].Text != "" || n.Kids[2].Kids[1].Text != "" || n.Kids[2].Kids[0].Text != "0" {
		t.Errorf("Tree of numbers below 0: %v", n)
	}
}

func TestCopy(t *testing.T) { // P21.3, P3
	after, kids := []string{"a", "b"}, []api.Node{word("c"), word("d")}
	d := api.Def{Name: "x", Steps: []api.Step{{After: after, Note: row(kids...)}, {After: after, Note: row(kids...)}}}
	own := def.Copy(d)
	own.Steps[0].After[0], own.Steps[0].Note.Kids[0].Text = "x", "x"
	if own.Steps[1].After[0] != "a" || own.Steps[1].Note.Kids[0].Text != "c" || after[0] != "a" || kids[0].Text != "c" {
		t.Errorf("lists of a copy are one: %s", shownDef(own, all))
	}
	tree := def.Tree(d)
	tree.Kids[1].Kids[0].Kids[3].Kids[0].Text, tree.Kids[1].Kids[0].Keys[0] = "x", "x"
	if tree.Kids[1].Kids[1].Kids[3].Kids[0].Text != "c" || tree.Kids[1].Kids[1].Keys[0] != "name" || kids[0].Text != "c" {
		t.Errorf("lists of a tree are one: %s", shown(tree, all))
	}
	if got := def.Copy(api.Def{}); len(got.Steps) != 0 || got.Name != "" {
		t.Errorf("Copy of nothing: %v", got)
	}
}

func TestSpare(t *testing.T) { // P3: what lies behind a list's end
	steps := []api.Step{{Name: "a", After: []string{"b", "\xFF"}[:1]}, {Name: "behind", Limit: -1}}
	d := api.Def{Steps: steps[:1]}
	d.Steps[0].Note = api.Node{Kind: 3, Keys: []string{"k", "k"}[:1], Kids: []api.Node{word("v"), {}}[:1]}
	if f := def.Check(d); f != (api.Fault{}) {
		t.Errorf("Check: %v", f)
	}
	if def.Index(d, "behind") != -1 || !def.Same(d, def.Copy(d)) || len(def.Tree(d).Kids[1].Kids) != 1 {
		t.Error("what lies behind a list's end was read")
	}
	own := def.Copy(d)
	_ = append(own.Steps, api.Step{Name: "written"})
	_ = append(own.Steps[0].After, "written")
	_ = append(own.Steps[0].Note.Keys, "written")
	_ = append(own.Steps[0].Note.Kids, word("written"))
	if steps[1].Name != "behind" || steps[0].After[:2][1] != "\xFF" || steps[0].Note.Keys[:2][1] != "k" || steps[0].Note.Kids[:2][1].Kind != 0 {
		t.Error("what lies behind a list's end was written to")
	}
	if s := own.Steps[:cap(own.Steps)]; len(s) > 1 && s[1].Name == "behind" {
		t.Error("what lies behind a list's end was handed out")
	}
}

func TestIndex(t *testing.T) { // P21.3
	d := api.Def{Name: "x", Steps: []api.Step{{Name: "a", Action: "z"}, {Name: "b"}, {Name: "a"}, {Name: ""}, {Name: "\xFF"}}}
	for name, want := range map[string]int{"a": 0, "b": 1, "": 3, "\xFF": 4, "c": -1, "x": -1, "z": -1, "A": -1} {
		if got := def.Index(d, name); got != want {
			t.Errorf("Index of %q: %d, not %d", name, got, want)
		}
	}
	if got := def.Index(api.Def{}, ""); got != -1 {
		t.Errorf("Index of nothing: %d", got)
	}
}

func TestChanges(t *testing.T) { // P21.3, P21.5
	for i, c := range []struct {
		do   func(d *api.Def)
		want []string
	}{
		{func(d *api.Def) {}, nil},
		{func(d *api.Def) { d.Name = "" }, []string{"saga"}},
		{func(d *api.Def) { d.Text, d.Name = "", "y" }, []string{"saga", "text"}},
		{func(d *api.Def) { d.Steps = nil }, []string{"-0", "-1", "-2"}},
		{func(d *api.Def) { d.Steps = d.Steps[:2] }, []string{"-2"}},
		{func(d *api.Def) { d.Steps = append(d.Steps, api.Step{}, api.Step{}) }, []string{"+3", "+4"}},
		{func(d *api.Def) { d.Steps = append(d.Steps[1:], api.Step{Name: "z"})[:1]; d.Text = "" }, []string{"text", "0.name", "0.action", "0.undo", "0.after", "0.retry", "0.limit", "0.note", "-1", "-2"}},
		{func(d *api.Def) { d.Steps[0].Name = "z" }, []string{"0.name"}},
		{func(d *api.Def) { d.Steps[0].Action = "z" }, []string{"0.action"}},
		{func(d *api.Def) { d.Steps[0].Undo = "" }, []string{"0.undo"}},
		{func(d *api.Def) { d.Steps[1].After = nil }, []string{"1.after"}},
		{func(d *api.Def) { d.Steps[0].After = []string{} }, nil},
		{func(d *api.Def) { d.Steps[0].After = []string{""} }, []string{"0.after"}},
		{func(d *api.Def) { slices.Reverse(d.Steps[1].After) }, []string{"1.after"}},
		{func(d *api.Def) { d.Steps[1].Retry.Most = 0 }, []string{"1.retry"}},
		{func(d *api.Def) { d.Steps[1].Retry.First = 0 }, []string{"1.retry"}},
		{func(d *api.Def) { d.Steps[1].Retry.Factor = 0 }, []string{"1.retry"}},
		{func(d *api.Def) { d.Steps[2].Limit = 1 }, []string{"2.limit"}},
		{func(d *api.Def) { d.Steps[1].Note.Line, d.Steps[1].Note.Kids[0].Kids[0].Line = 0, 77 }, nil},
		{func(d *api.Def) { d.Steps[0].Note.Line = 77 }, nil},
		{func(d *api.Def) { d.Steps[1].Note.Kids[0].Kids[0].Text = "1" }, []string{"1.note"}},
		{func(d *api.Def) { d.Steps[2].Note = api.Node{} }, []string{"2.note"}},
		{func(d *api.Def) { d.Steps[0].Limit, d.Steps[0].Name, d.Steps[2].Undo = 0, "z", "z" }, []string{"0.name", "0.limit", "2.undo"}},
	} {
		a, b := full(), full()
		c.do(&b)
		if got := def.Changes(a, b); !slices.Equal(got, c.want) {
			t.Errorf("%d: Changes: %q, not %q", i, got, c.want)
		}
		if got := def.Same(a, b); got != (len(c.want) == 0) {
			t.Errorf("%d: Same: %v", i, got)
		}
		holdTwo(t, a, b)
		holdTwo(t, b, a)
	}
	many := api.Def{Steps: make([]api.Step, 1200)}
	holdTwo(t, many, api.Def{})
	holdTwo(t, api.Def{Steps: make([]api.Step, 11)}, many)
}

// giver gives numbers below others by bytes; 0, if there are no more.
type giver struct{ left []byte }

func (g *giver) below(n int) int {
	if len(g.left) == 0 {
		return 0
	}
	c := int(g.left[0])
	g.left = g.left[1:]
	return c % n
}

// pick is one of several, the first ones of which come far more often.
func pick[T any](g *giver, often int, l []T) T {
	if n := g.below(40); n > 0 {
		return l[n%often]
	}
	return l[g.below(len(l))]
}

// made is a definition that bytes tell, wrong ones too.
func made(g *giver) api.Def {
	texts := []string{"", "a", "b", "a b", long(64), "\n", long(65), "\xFF", "\xFF" + long(64), long(4096), long(4097)}
	numbers := []int{0, 0, 1, 2, 999999999, 1000000000, -1, math.MaxInt, math.MinInt}
	notes := []api.Node{
		{}, {Line: 3}, word("a"), word(""), row(), row(word("a"), keyed([]string{"a"}, row())), {Kind: 1, Text: "a", Line: 5}, rows(12, word("a")),
		rows(13, word("a")), rows(16, word("a")), rows(18, word("a")), {Text: "a"}, {Kind: 9}, keyed([]string{"a", "a"}, row(), row()), word("\xFF"), {Kind: 1, Kids: []api.Node{word("a")}},
	}
	d := api.Def{Name: pick(g, 6, texts), Text: pick(g, 6, texts)}
	for range g.below(4) {
		s := api.Step{Name: pick(g, 6, texts), Action: pick(g, 6, texts), Undo: pick(g, 6, texts), Limit: pick(g, 5, numbers), Note: pick(g, 8, notes)}
		s.Retry = api.Retry{Most: pick(g, 5, numbers), First: pick(g, 5, numbers), Factor: pick(g, 5, numbers)}
		for range pick(g, 3, []int{0, 1, 2, 3, 64, 65}) {
			s.After = append(s.After, pick(g, 6, texts))
		}
		d.Steps = append(d.Steps, s)
	}
	return d
}

// other is a definition that is another one but for what bytes tell.
func other(g *giver, d api.Def) api.Def {
	more := made(g)
	out := def.Copy(d)
	for range g.below(3) {
		if len(out.Steps) == 0 || len(more.Steps) == 0 {
			break
		}
		s, by := &out.Steps[g.below(len(out.Steps))], more.Steps[g.below(len(more.Steps))]
		switch g.below(8) {
		case 0:
			s.Name = by.Name
		case 1:
			s.Action = by.Action
		case 2:
			s.Undo = by.Undo
		case 3:
			s.After = by.After
		case 4:
			s.Retry = by.Retry
		case 5:
			s.Limit = by.Limit
		case 6:
			s.Note = by.Note
		default:
			out.Steps = out.Steps[:g.below(len(out.Steps))]
		}
	}
	switch g.below(6) {
	case 0:
		out.Name = more.Name
	case 1:
		out.Text = more.Text
	case 2:
		out.Steps = append(out.Steps, more.Steps...)
	}
	return out
}

// holdMade holds definitions that bytes tell.
func holdMade(t *testing.T, b []byte) {
	g := giver{left: b}
	d := made(&g)
	hold(t, d)
	more := other(&g, d)
	hold(t, more)
	holdTwo(t, d, more)
	holdTwo(t, d, made(&g))
}

func TestMade(t *testing.T) { // P21.1 to P21.5
	chance := rand.New(rand.NewSource(21))
	good := 0
	for range 20000 {
		b := make([]byte, chance.Intn(120))
		chance.Read(b)
		if def.Check(made(&giver{left: b})) == (api.Fault{}) {
			good++
		}
		holdMade(t, b)
	}
	if good < 2000 || good > 18000 {
		t.Errorf("%d definitions of 20000 may be: too many, or too few", good)
	}
}

func FuzzCheck(f *testing.F) { // P1
	f.Add([]byte{})
	f.Add([]byte("a definition of steps"))
	f.Fuzz(func(t *testing.T, b []byte) {
		if len(b) < 1000 {
			holdMade(t, b)
		}
	})
}
