package parse_test

import (
	"math/rand"
	"regexp"
	"slices"
	"strconv"
	"strings"
	"testing"
	"unicode/utf8"

	"rescript/api"
	"rescript/block"
	"rescript/def"
	"rescript/parse"
)

func word(s string) api.Node { return api.Node{Kind: 1, Text: s} }

func row(kids ...api.Node) api.Node { return api.Node{Kind: 2, Kids: kids} }

func keyed(keys []string, kids ...api.Node) api.Node {
	return api.Node{Kind: 3, Keys: keys, Kids: kids}
}

// rows is a node within so many rows.
func rows(n int, in api.Node) api.Node {
	for range n {
		in = row(in)
	}
	return in
}

// long is a name of so many bytes.
func long(n int) string { return strings.Repeat("k", n) }

// shown is all of a tree as a text.
func shown(n api.Node) string {
	out := strconv.Itoa(int(n.Kind)) + strconv.Quote(n.Text) + "@" + strconv.Itoa(n.Line)
	for _, key := range n.Keys {
		out += "," + strconv.Quote(key)
	}
	for _, kid := range n.Kids {
		out += "(" + shown(kid) + ")"
	}
	return out
}

// shownDef is all of a definition as a text.
func shownDef(d api.Def) string {
	out := strconv.Quote(d.Name) + strconv.Quote(d.Text)
	for _, s := range d.Steps {
		out += "\n" + strconv.Quote(s.Name) + strconv.Quote(s.Action) + strconv.Quote(s.Undo)
		for _, name := range s.After {
			out += "," + strconv.Quote(name)
		}
		for _, n := range []int{s.Retry.Most, s.Retry.First, s.Retry.Factor, s.Limit} {
			out += " " + strconv.Itoa(n)
		}
		out += " " + shown(s.Note)
	}
	return out
}

// stop is panicked with by what looks at a node that is wrong.
func stop(wrong bool, e api.Errno, n api.Node) {
	if wrong {
		panic(api.Fault{Errno: e, At: n.Line})
	}
}

// textOf is a node's text, by the chapter's words.
func textOf(n api.Node, most int) string {
	stop(n.Kind != 1, api.ErrKind, n)
	stop(len(n.Text) > most, api.ErrLong, n)
	stop(!utf8.ValidString(n.Text), api.ErrUtf, n)
	return n.Text
}

// numberForm is how a number is told.
var numberForm = regexp.MustCompile(`^(0|[1-9][0-9]{0,8})$`)

// numberOf is a node's number, by the chapter's words.
func numberOf(n api.Node) int {
	stop(n.Kind != 1, api.ErrKind, n)
	stop(!numberForm.MatchString(n.Text), api.ErrForm, n)
	i, _ := strconv.Atoi(n.Text)
	return i
}

// kidsOf is a node's kids, by the chapter's words.
func kidsOf(n api.Node, most int) []api.Node {
	stop(n.Kind != 2, api.ErrKind, n)
	stop(len(n.Kids) > most, api.ErrLong, n)
	return n.Kids
}

// mapOf is whether a node is a Map; each key is given, and at last those that must be there are asked for.
func mapOf(n api.Node, must []string, give func(key string, kid api.Node)) {
	stop(n.Kind != 3, api.ErrKind, n)
	stop(len(n.Keys) != len(n.Kids), api.ErrForm, n)
	for i := range n.Keys {
		give(n.Keys[i], n.Kids[i])
	}
	for _, key := range must {
		stop(!slices.Contains(n.Keys, key), api.ErrNone, n)
	}
}

// stepOf is a node's step, by the chapter's words.
func stepOf(n api.Node) (s api.Step) {
	mapOf(n, []string{"name", "action"}, func(key string, kid api.Node) {
		switch key {
		case "name":
			s.Name = textOf(kid, 64)
		case "action":
			s.Action = textOf(kid, 64)
		case "undo":
			s.Undo = textOf(kid, 64)
		case "after":
			s.After = nil
			for _, one := range kidsOf(kid, 64) {
				s.After = append(s.After, textOf(one, 64))
			}
		case "retry":
			l := map[string]int{}
			mapOf(kid, nil, func(key string, kid api.Node) {
				stop(key != "most" && key != "first" && key != "factor", api.ErrName, kid)
				l[key] = numberOf(kid)
			})
			s.Retry = api.Retry{Most: l["most"], First: l["first"], Factor: l["factor"]}
		case "limit":
			s.Limit = numberOf(kid)
		case "note":
			stop(block.Check(kid) != api.OK, block.Check(kid), kid)
			stop(block.Depth(kid) > 13, api.ErrDepth, kid)
			s.Note = kid
		default:
			stop(true, api.ErrName, kid)
		}
	})
	return s
}

// read is what the chapter's words tell of a tree.
func read(n api.Node) (d api.Def, f api.Fault) {
	defer func() {
		if what := recover(); what != nil {
			d, f = api.Def{}, what.(api.Fault)
		}
	}()
	mapOf(n, []string{"saga", "steps"}, func(key string, kid api.Node) {
		switch key {
		case "saga":
			d.Name = textOf(kid, 64)
		case "text":
			d.Text = textOf(kid, 4096)
		case "steps":
			d.Steps = nil
			for _, one := range kidsOf(kid, 1024) {
				d.Steps = append(d.Steps, stepOf(one))
			}
		default:
			stop(true, api.ErrName, kid)
		}
	})
	return d, api.Fault{}
}

// scribble writes to all of a tree, and behind its lists' ends.
func scribble(n *api.Node) {
	for i := range n.Keys {
		n.Keys[i] = "written"
	}
	for i := range n.Kids {
		scribble(&n.Kids[i])
		n.Kids[i] = word("written")
	}
	_ = append(n.Keys, "written")
	_ = append(n.Kids, word("written"))
}

// hold holds Of against the chapter's words, and what follows.
func hold(t *testing.T, n api.Node) (api.Def, api.Fault) {
	t.Helper()
	was := shown(n)
	d, f := parse.Of(n)
	want, g := read(n)
	if f != g || shownDef(d) != shownDef(want) {
		t.Fatalf("Of(%.600s): %.300s, %v, not %.300s, %v", was, shownDef(d), f, shownDef(want), g)
	}
	if f != (api.Fault{}) {
		return d, f
	}
	if g := def.Check(d); g != (api.Fault{}) {
		t.Fatalf("Of(%.600s) is %.300s, which may not be: %v", was, shownDef(d), g)
	}
	holdBack(t, d)
	own := def.Copy(d)
	for i := range d.Steps {
		scribble(&d.Steps[i].Note)
		_ = append(d.Steps[i].After, "written")
	}
	if shown(n) != was {
		t.Fatalf("written to: %.600s, not %.600s", shown(n), was)
	}
	return own, f
}

// holdBack holds that a definition that may be is read as its tree stands, and as that is printed.
func holdBack(t *testing.T, d api.Def) {
	t.Helper()
	if again, f := parse.Of(def.Tree(d)); f != (api.Fault{}) || !def.Same(again, d) {
		t.Fatalf("the tree of %.300s is read: %.300s, %v", shownDef(d), shownDef(again), f)
	}
	s, e := block.Print(def.Tree(d))
	if e != api.OK {
		t.Fatalf("%.300s isn't printed: %d", shownDef(d), e)
	}
	if again, f := parse.Def(s); f != (api.Fault{}) || !def.Same(again, d) {
		t.Fatalf("%.300s is read: %.300s, %v", s, shownDef(again), f)
	}
}

// numbered gives each node of a tree a line of its own, from above.
func numbered(n *api.Node, line *int) {
	*line++
	n.Line = *line
	for i := range n.Kids {
		numbered(&n.Kids[i], line)
	}
}

// step is a step's node with a name, an action, and more.
func step(keys []string, kids ...api.Node) api.Node {
	return keyed(append([]string{"name", "action"}, keys...), append([]api.Node{word("a"), word("b")}, kids...)...)
}

// saga is a definition's node with steps.
func saga(steps ...api.Node) api.Node {
	return keyed([]string{"saga", "steps"}, word("x"), row(steps...))
}

func TestOfWhole(t *testing.T) { // P22.1; lines are numbered from 1 on, each node ahead of its kids
	for i, c := range []struct {
		n    api.Node
		want api.Fault
	}{
		{saga(), api.Fault{}},
		{api.Node{}, api.Fault{Errno: api.ErrKind, At: 1}},
		{word("saga"), api.Fault{Errno: api.ErrKind, At: 1}},
		{row(), api.Fault{Errno: api.ErrKind, At: 1}},
		{api.Node{Kind: 4, Keys: []string{"saga"}}, api.Fault{Errno: api.ErrKind, At: 1}},
		{api.Node{Kind: 2, Keys: []string{"saga"}}, api.Fault{Errno: api.ErrKind, At: 1}},
		{keyed(nil), api.Fault{Errno: api.ErrNone, At: 1}},
		{keyed([]string{"saga"}, word("x")), api.Fault{Errno: api.ErrNone, At: 1}},
		{keyed([]string{"steps"}, row()), api.Fault{Errno: api.ErrNone, At: 1}},
		{keyed([]string{"text"}, word("x")), api.Fault{Errno: api.ErrNone, At: 1}},
		{keyed([]string{"steps", "saga"}, row(), word("")), api.Fault{}},
		{keyed([]string{"steps", "text", "saga"}, row(), word(long(4096)), word(long(64))), api.Fault{}},
		{keyed([]string{"saga", "steps"}, word("x")), api.Fault{Errno: api.ErrForm, At: 1}},
		{keyed([]string{"saga"}, word("x"), row()), api.Fault{Errno: api.ErrForm, At: 1}},
		{keyed([]string{"other"}), api.Fault{Errno: api.ErrForm, At: 1}},
		{keyed([]string{"other"}, word("x")), api.Fault{Errno: api.ErrName, At: 2}},
		{keyed([]string{"saga", "steps", "Text"}, word("x"), row(), word("y")), api.Fault{Errno: api.ErrName, At: 4}},
		{keyed([]string{"saga", "steps", ""}, word("x"), row(), word("y")), api.Fault{Errno: api.ErrName, At: 4}},
		{keyed([]string{"name", "action"}, word("x"), word("y")), api.Fault{Errno: api.ErrName, At: 2}},
		{keyed([]string{"saga", "other"}, row(), word("y")), api.Fault{Errno: api.ErrKind, At: 2}},
		{keyed([]string{"other", "saga"}, row(), row()), api.Fault{Errno: api.ErrName, At: 2}},
		{keyed([]string{"saga", "steps"}, keyed(nil), row()), api.Fault{Errno: api.ErrKind, At: 2}},
		{keyed([]string{"saga", "steps"}, api.Node{}, row()), api.Fault{Errno: api.ErrKind, At: 2}},
		{keyed([]string{"saga", "steps"}, word(long(65)), row()), api.Fault{Errno: api.ErrLong, At: 2}},
		{keyed([]string{"saga", "steps"}, word("\xFF"), row()), api.Fault{Errno: api.ErrUtf, At: 2}},
		{keyed([]string{"saga", "steps"}, word("\xFF"+long(64)), row()), api.Fault{Errno: api.ErrLong, At: 2}},
		{keyed([]string{"saga", "text", "steps"}, word("x"), row(), row()), api.Fault{Errno: api.ErrKind, At: 3}},
		{keyed([]string{"saga", "text", "steps"}, word("x"), word(long(4097)), row()), api.Fault{Errno: api.ErrLong, At: 3}},
		{keyed([]string{"saga", "text", "steps"}, word("x"), word("\xFF"), row()), api.Fault{Errno: api.ErrUtf, At: 3}},
		{keyed([]string{"saga", "steps"}, word("x"), word("y")), api.Fault{Errno: api.ErrKind, At: 3}},
		{keyed([]string{"saga", "steps"}, word("x"), keyed(nil)), api.Fault{Errno: api.ErrKind, At: 3}},
		{saga(slices.Repeat([]api.Node{step(nil)}, 1024)...), api.Fault{}},
		{saga(slices.Repeat([]api.Node{step(nil)}, 1025)...), api.Fault{Errno: api.ErrLong, At: 3}},
		{saga(slices.Repeat([]api.Node{word("a")}, 1025)...), api.Fault{Errno: api.ErrLong, At: 3}},
		{api.Node{Kind: 3, Text: "t", Keys: []string{"saga", "steps"}, Kids: []api.Node{{Kind: 1, Text: "x", Kids: []api.Node{row()}}, {Kind: 2, Text: "t", Keys: []string{"k"}}}}, api.Fault{}},
	} {
		line := 0
		c.n.Kids = slices.Clone(c.n.Kids)
		numbered(&c.n, &line)
		if d, f := hold(t, c.n); f != c.want || f != (api.Fault{}) && shownDef(d) != `""""` {
			t.Errorf("%d: Of(%.300s): %v, not %v", i, shown(c.n), f, c.want)
		}
	}
}

func TestOfSteps(t *testing.T) { // P22.1; the step is at line 4, its name at 5, its action at 6, what comes behind from 7 on
	for i, c := range []struct {
		n    api.Node
		want api.Fault
	}{
		{step(nil), api.Fault{}},
		{word("a"), api.Fault{Errno: api.ErrKind, At: 4}},
		{row(), api.Fault{Errno: api.ErrKind, At: 4}},
		{keyed(nil), api.Fault{Errno: api.ErrNone, At: 4}},
		{keyed([]string{"name"}, word("a")), api.Fault{Errno: api.ErrNone, At: 4}},
		{keyed([]string{"action"}, word("a")), api.Fault{Errno: api.ErrNone, At: 4}},
		{keyed([]string{"action", "undo"}, word("a"), word("b")), api.Fault{Errno: api.ErrNone, At: 4}},
		{keyed([]string{"action", "name"}, word(""), word("")), api.Fault{}},
		{keyed([]string{"name", "action"}, word("a")), api.Fault{Errno: api.ErrForm, At: 4}},
		{keyed([]string{"saga", "steps"}, word("a"), row()), api.Fault{Errno: api.ErrName, At: 5}},
		{step([]string{"most"}, word("1")), api.Fault{Errno: api.ErrName, At: 7}},
		{keyed([]string{"name", "action"}, row(), word("b")), api.Fault{Errno: api.ErrKind, At: 5}},
		{keyed([]string{"name", "action"}, word(long(65)), word("b")), api.Fault{Errno: api.ErrLong, At: 5}},
		{keyed([]string{"name", "action"}, word("\xFF"), word("b")), api.Fault{Errno: api.ErrUtf, At: 5}},
		{keyed([]string{"name", "action"}, word("a"), row()), api.Fault{Errno: api.ErrKind, At: 6}},
		{keyed([]string{"name", "action"}, word("a"), word(long(65))), api.Fault{Errno: api.ErrLong, At: 6}},
		{step([]string{"undo"}, row()), api.Fault{Errno: api.ErrKind, At: 7}},
		{step([]string{"undo"}, word(long(65))), api.Fault{Errno: api.ErrLong, At: 7}},
		{step([]string{"undo"}, word("\xFF")), api.Fault{Errno: api.ErrUtf, At: 7}},
		{step([]string{"undo", "limit"}, word(long(64)), word("0")), api.Fault{}},
		{step([]string{"limit"}, word("999999999")), api.Fault{}},
		{step([]string{"limit"}, word("1000000000")), api.Fault{Errno: api.ErrForm, At: 7}},
		{step([]string{"limit"}, word("01")), api.Fault{Errno: api.ErrForm, At: 7}},
		{step([]string{"limit"}, word("-1")), api.Fault{Errno: api.ErrForm, At: 7}},
		{step([]string{"limit"}, word("")), api.Fault{Errno: api.ErrForm, At: 7}},
		{step([]string{"limit"}, row(word("1"))), api.Fault{Errno: api.ErrKind, At: 7}},
		{step([]string{"after"}, row()), api.Fault{}},
		{step([]string{"after"}, row(slices.Repeat([]api.Node{word("a")}, 64)...)), api.Fault{}},
		{step([]string{"after"}, row(slices.Repeat([]api.Node{row()}, 65)...)), api.Fault{Errno: api.ErrLong, At: 7}},
		{step([]string{"after"}, word("a")), api.Fault{Errno: api.ErrKind, At: 7}},
		{step([]string{"after"}, keyed(nil)), api.Fault{Errno: api.ErrKind, At: 7}},
		{step([]string{"after"}, row(word("a"), row(), word("\xFF"))), api.Fault{Errno: api.ErrKind, At: 9}},
		{step([]string{"after"}, row(word("a"), word("\xFF"), row())), api.Fault{Errno: api.ErrUtf, At: 9}},
		{step([]string{"after"}, row(word(long(64)), word(long(65)))), api.Fault{Errno: api.ErrLong, At: 9}},
		{step([]string{"retry"}, keyed(nil)), api.Fault{}},
		{step([]string{"retry"}, keyed([]string{"factor", "most"}, word("2"), word("3"))), api.Fault{}},
		{step([]string{"retry"}, row()), api.Fault{Errno: api.ErrKind, At: 7}},
		{step([]string{"retry"}, word("1")), api.Fault{Errno: api.ErrKind, At: 7}},
		{step([]string{"retry"}, keyed([]string{"most"})), api.Fault{Errno: api.ErrForm, At: 7}},
		{step([]string{"retry"}, keyed([]string{"limit"}, word("1"))), api.Fault{Errno: api.ErrName, At: 8}},
		{step([]string{"retry"}, keyed([]string{"most", "first"}, word("1"), word("a"))), api.Fault{Errno: api.ErrForm, At: 9}},
		{step([]string{"retry"}, keyed([]string{"most", "factor"}, word("1"), row())), api.Fault{Errno: api.ErrKind, At: 9}},
		{step([]string{"other", "limit"}, word("1"), row()), api.Fault{Errno: api.ErrName, At: 7}},
		{step([]string{"limit", "other"}, row(), word("1")), api.Fault{Errno: api.ErrKind, At: 7}},
	} {
		n := saga(c.n, row())
		line := 0
		if c.want == (api.Fault{}) {
			n = saga(c.n)
		}
		numbered(&n, &line)
		if _, f := hold(t, n); f != c.want {
			t.Errorf("%d: Of(%.300s): %v, not %v", i, shown(n), f, c.want)
		}
	}
}

// within is a row that has itself within.
func within() api.Node {
	kids := make([]api.Node, 2)
	kids[0], kids[1] = row(), word("a")
	kids[0].Kids = kids
	return api.Node{Kind: 2, Kids: kids}
}

func TestOfNote(t *testing.T) { // P22.1: what is wrong within is told at the note's own line
	for i, c := range []struct {
		note api.Node
		want api.Errno
	}{
		{word(""), api.OK},
		{row(), api.OK},
		{keyed([]string{"saga", ""}, row(word("a")), keyed(nil)), api.OK},
		{word(long(4096)), api.OK},
		{rows(12, word("a")), api.OK},
		{rows(13, word("a")), api.ErrDepth},
		{rows(15, word("a")), api.ErrDepth},
		{rows(16, word("a")), api.ErrDepth},
		{rows(13, word("\xFF")), api.ErrUtf},
		{api.Node{}, api.ErrKind},
		{api.Node{Kind: 5}, api.ErrKind},
		{word(long(4097)), api.ErrLong},
		{row(word("a"), word("\xFF")), api.ErrUtf},
		{row(keyed([]string{"a", "a"}, word("b"), word("c"))), api.ErrTwice},
		{row(keyed([]string{long(65)}, word("b"))), api.ErrLong},
		{row(keyed([]string{"a"})), api.ErrForm},
		{api.Node{Kind: 1, Kids: []api.Node{word("a")}}, api.ErrForm},
	} {
		n := saga(step(nil), step([]string{"note", "limit"}, c.note, row()))
		line := 0
		if c.want == api.OK {
			n = saga(step(nil), step([]string{"note", "limit"}, c.note, word("3")))
		}
		numbered(&n, &line)
		want := api.Fault{}
		if c.want != api.OK {
			want = api.Fault{Errno: c.want, At: 10}
		}
		d, f := hold(t, n)
		if f != want {
			t.Errorf("%d: Of of a note: %v, not %v", i, f, want)
		}
		if f == (api.Fault{}) && shown(d.Steps[1].Note) != shown(n.Kids[1].Kids[1].Kids[2]) {
			t.Errorf("%d: the note is %s", i, shown(d.Steps[1].Note))
		}
	}
	if _, f := parse.Of(saga(step([]string{"note"}, within()))); f != (api.Fault{Errno: api.ErrDepth}) {
		t.Errorf("Of a note that has itself within: %v", f)
	}
	if _, f := parse.Of(within()); f != (api.Fault{Errno: api.ErrKind}) {
		t.Errorf("Of a row that has itself within: %v", f)
	}
}

func TestOfTwice(t *testing.T) { // P22.1: a key that stands there twice
	retry := func(keys []string, texts ...string) api.Node {
		n := keyed(keys)
		for _, s := range texts {
			n.Kids = append(n.Kids, word(s))
		}
		return n
	}
	d, f := hold(t, keyed([]string{"saga", "text", "steps", "text", "steps", "saga"}, word("x"), word("y"), row(step(nil), step(nil)), word(""), row(step([]string{"undo"}, word("u"))), word("z")))
	if f != (api.Fault{}) || d.Name != "z" || d.Text != "" || len(d.Steps) != 1 || d.Steps[0].Undo != "u" {
		t.Errorf("keys twice: %s, %v", shownDef(d), f)
	}
	d, f = hold(t, saga(step(
		[]string{"retry", "after", "limit", "undo", "note", "after", "retry", "name", "limit", "undo", "action", "note"},
		retry([]string{"most", "first", "factor"}, "1", "2", "3"), row(word("c"), word("d")), word("4"), word("u"), row(word("n")), row(word("e")),
		retry([]string{"first", "most", "first"}, "5", "7", "6"), word("f"), word("0"), word(""), word("g"), word("m"))))
	want := api.Step{Name: "f", Action: "g", After: []string{"e"}, Retry: api.Retry{Most: 7, First: 6}, Note: word("m")}
	if f != (api.Fault{}) || shownDef(d) != shownDef(api.Def{Name: "x", Steps: []api.Step{want}}) {
		t.Errorf("keys of a step twice: %s, %v", shownDef(d), f)
	}
	d, f = hold(t, saga(step([]string{"retry", "after", "after", "retry"}, retry([]string{"most"}, "1"), row(word("c")), row(), retry(nil))))
	if f != (api.Fault{}) || len(d.Steps[0].After) != 0 || d.Steps[0].Retry != (api.Retry{}) {
		t.Errorf("keys of a step twice, at last with nothing: %s, %v", shownDef(d), f)
	}
	n := keyed([]string{"steps", "saga", "steps", "steps"}, row(), word("x"), row(word("a")), word("b"))
	line := 0
	numbered(&n, &line)
	if _, f = hold(t, n); f != (api.Fault{Errno: api.ErrKind, At: 5}) {
		t.Errorf("keys twice, the second one wrong: %v", f)
	}
}

// trip is a definition's text that has everything.
const trip = `# a trip
text: "a trip"
steps:
  - action: book
    name: hotel   # first of all
    undo: free
  - name: "b c"
    note:
      why: # because
        - "0\n"
        - {}
    retry:
      factor: 2
      most: 3
    action: fly
    after:
     - hotel
    limit: 7
saga: trip
`

func TestDef(t *testing.T) { // P22.2
	d, f := parse.Def(trip)
	want := api.Def{Name: "trip", Text: "a trip", Steps: []api.Step{
		{Name: "hotel", Action: "book", Undo: "free"},
		{Name: "b c", Action: "fly", After: []string{"hotel"}, Retry: api.Retry{Most: 3, Factor: 2}, Limit: 7,
			Note: api.Node{Kind: 3, Keys: []string{"why"}, Line: 9, Kids: []api.Node{{Kind: 2, Line: 10, Kids: []api.Node{{Kind: 1, Text: "0\n", Line: 10}, {Kind: 3, Line: 11}}}}}},
	}}
	if f != (api.Fault{}) || shownDef(d) != shownDef(want) {
		t.Errorf("Def: %s, %v, not %s", shownDef(d), f, shownDef(want))
	}
	holdBack(t, d)
}

func TestDefFaults(t *testing.T) { // P22.2, the first example
	for _, c := range []struct {
		s    string
		want api.Fault
	}{
		{"saga: x\nsteps: []", api.Fault{}},
		{"steps: []\n\n# x\nsaga: \"\"\n", api.Fault{}},
		{"saga: x", api.Fault{Errno: api.ErrNone, At: 1}},
		{"\n\nsaga: x", api.Fault{Errno: api.ErrNone, At: 3}},
		{"", api.Fault{Errno: api.ErrEmpty}},
		{"# saga: x", api.Fault{Errno: api.ErrEmpty}},
		{"\xFF", api.Fault{Errno: api.ErrUtf, At: 1}},
		{"saga: x\nsteps: [] x", api.Fault{Errno: api.ErrForm, At: 2}},
		{"saga: x\nsaga: y\nsteps: []", api.Fault{Errno: api.ErrTwice, At: 2}},
		{"saga: x\nother: y\nsteps: []\nsaga: y", api.Fault{Errno: api.ErrTwice, At: 4}},
		{"saga: x\nother: y\nsteps: []", api.Fault{Errno: api.ErrName, At: 2}},
		{"saga: x\nother:\n  - y\nsteps: []", api.Fault{Errno: api.ErrName, At: 3}},
		{"saga: []\nsteps: []", api.Fault{Errno: api.ErrKind, At: 1}},
		{"[]", api.Fault{Errno: api.ErrKind, At: 1}},
		{"- saga: x", api.Fault{Errno: api.ErrKind, At: 1}},
		{"saga", api.Fault{Errno: api.ErrKind, At: 1}},
		{"{}", api.Fault{Errno: api.ErrNone, At: 1}},
		{"saga: x\nsteps: {}", api.Fault{Errno: api.ErrKind, At: 2}},
		{"saga: x\nsteps:\n  - []", api.Fault{Errno: api.ErrKind, At: 3}},
		{"saga: x\nsteps:\n  -\n    name: a", api.Fault{Errno: api.ErrNone, At: 4}},
		{"saga: x\nsteps:\n  -", api.Fault{Errno: api.ErrEmpty, At: 3}},
		{"saga: x\nsteps:\n  - name: a\n    action: b\n    after:\n    - c", api.Fault{Errno: api.ErrEmpty, At: 5}},
		{"saga: x\nsteps:\n  - name: a\n    action: b\n  - name: a\n", api.Fault{Errno: api.ErrNone, At: 5}},
		{"saga: x\nsteps:\n  - name: a\n    action: b\n    limit: 007\n", api.Fault{Errno: api.ErrForm, At: 5}},
		{"saga: x\nsteps:\n  - name: a\n    action: b\n    retry:\n      most: 1\n      first: x\n", api.Fault{Errno: api.ErrForm, At: 7}},
		{"saga: x\nsteps:\n  - name: a\n    action: b\n    after:\n      - " + long(65), api.Fault{Errno: api.ErrLong, At: 6}},
		{"saga: x\nsteps:\n  - name: a\n    action: b\n    note:\n      " + strings.Repeat("- ", 12) + "x", api.Fault{}},
		{"saga: x\nsteps:\n  - name: a\n    action: b\n    note:\n      " + strings.Repeat("- ", 13) + "x", api.Fault{Errno: api.ErrDepth, At: 6}},
		{"saga: x\ntext: " + long(4096) + "\nsteps: []", api.Fault{}},
		{"saga: x\ntext: " + long(4097) + "\nsteps: []", api.Fault{Errno: api.ErrLong, At: 2}},
		{"saga: " + long(65) + "\nsteps: []", api.Fault{Errno: api.ErrLong, At: 1}},
		{"saga: x\nsteps: []\n" + strings.Repeat("#", 1<<20), api.Fault{Errno: api.ErrLong}},
	} {
		holdText(t, c.s)
		if d, f := parse.Def(c.s); f != c.want || f != (api.Fault{}) && shownDef(d) != `""""` {
			t.Errorf("Def(%.100q): %v, not %v", c.s, f, c.want)
		}
	}
}

// holdText holds Def against the chapter's words, and what follows.
func holdText(t *testing.T, s string) {
	t.Helper()
	d, f := parse.Def(s)
	n, want := block.Parse(s)
	wanted := api.Def{}
	if want == (api.Fault{}) {
		wanted, want = hold(t, n)
	}
	if f != want || shownDef(d) != shownDef(wanted) {
		t.Fatalf("Def(%q): %s, %v, not %s, %v", s, shownDef(d), f, shownDef(wanted), want)
	}
}

// giver gives numbers below others by bytes; 0, if there are no more.
type giver struct{ left []byte }

func (g *giver) below(n int) int {
	if len(g.left) == 0 {
		return 0
	}
	c := int(g.left[0])
	g.left = g.left[1:]
	return c % n
}

// words are texts and numbers, wrong ones too.
func words() []string {
	return []string{"a", "", "b c", "0", "7", "12", long(64), "999999999", long(65), "\xFF", "01", "1000000000", long(4096), long(4097)}
}

// scalarMade is a Scalar that bytes tell: most often one that may stand there.
func scalarMade(g *giver, key string) api.Node {
	all := words()
	if g.below(30) == 0 {
		return word(all[g.below(len(all))])
	}
	if key == "most" || key == "first" || key == "factor" || key == "limit" {
		return word([]string{"0", "7", "12", "999999999"}[g.below(4)])
	}
	return word(all[g.below(7)])
}

// mapMade is a Map that bytes tell: these keys first, then more of all, and each made.
func mapMade(g *giver, must, may []string, made func(g *giver, key string) api.Node) api.Node {
	n := keyed(nil)
	put := func(key string) {
		n.Keys, n.Kids = append(n.Keys, key), append(n.Kids, made(g, key))
	}
	for _, key := range must {
		if g.below(40) != 1 {
			put(key)
		}
	}
	for range g.below(5) {
		if len(may) > 0 {
			put(may[g.below(len(may))])
		}
	}
	if g.below(40) == 1 {
		put([]string{"other", "", "saga", "name", "most"}[g.below(5)])
	}
	for range g.below(4) {
		i, j := g.below(len(n.Keys)+1)-1, g.below(len(n.Keys)+1)-1
		if i >= 0 && j >= 0 {
			n.Keys[i], n.Keys[j], n.Kids[i], n.Kids[j] = n.Keys[j], n.Keys[i], n.Kids[j], n.Kids[i]
		}
	}
	if g.below(60) == 1 {
		n.Keys = append(n.Keys, "saga")
	}
	return n
}

// listMade is a Seq that bytes tell.
func listMade(g *giver, most int, made func(g *giver, key string) api.Node) api.Node {
	n := row()
	size := g.below(4)
	if g.below(60) == 1 {
		size = most + g.below(2)
	}
	for range size {
		n.Kids = append(n.Kids, made(g, ""))
	}
	return n
}

// noteMade is a note that bytes tell.
func noteMade(g *giver) api.Node {
	notes := []api.Node{word("a"), row(), keyed(nil), keyed([]string{"saga", "a"}, row(word("a"), word("")), word("b")), rows(12, word("a")), rows(13, word("a")), rows(17, word("a")), {}, row(word("\xFF")), keyed([]string{"a", "a"}, row(), row())}
	if g.below(8) > 0 {
		return def.Copy(api.Def{Steps: []api.Step{{Note: notes[g.below(5)]}}}).Steps[0].Note
	}
	return def.Copy(api.Def{Steps: []api.Step{{Note: notes[g.below(len(notes))]}}}).Steps[0].Note
}

// made is the node of a key, by bytes.
func made(g *giver, key string) api.Node {
	if g.below(80) == 1 {
		return []api.Node{{}, word("a"), row(), keyed(nil), {Kind: 7}, {Kind: 3, Keys: []string{"a"}}}[g.below(6)]
	}
	switch key {
	case "whole":
		return mapMade(g, []string{"saga", "steps"}, []string{"text", "text", "saga", "steps"}, made)
	case "steps":
		return listMade(g, 3, func(g *giver, _ string) api.Node {
			return mapMade(g, []string{"name", "action"}, []string{"undo", "after", "retry", "limit", "note", "name", "action"}, made)
		})
	case "after":
		return listMade(g, 64, scalarMade)
	case "retry":
		return mapMade(g, nil, []string{"most", "first", "factor"}, scalarMade)
	case "note":
		return noteMade(g)
	}
	return scalarMade(g, key)
}

// holdMade holds a tree that bytes tell, and another order of its keys.
func holdMade(t *testing.T, b []byte) api.Fault {
	t.Helper()
	n := made(&giver{left: b}, "whole")
	line := len(b) % 5
	numbered(&n, &line)
	_, f := hold(t, n)
	return f
}

func TestMade(t *testing.T) { // P22.1, P22.3
	chance := rand.New(rand.NewSource(22))
	times := map[api.Errno]int{}
	for range 30000 {
		b := make([]byte, chance.Intn(150))
		chance.Read(b)
		times[holdMade(t, b).Errno]++
	}
	for _, e := range []api.Errno{api.OK, api.ErrKind, api.ErrForm, api.ErrName, api.ErrLong, api.ErrUtf, api.ErrNone, api.ErrDepth} {
		if times[e] < 50 {
			t.Errorf("of the error %d there were but %d", e, times[e])
		}
	}
	if times[api.OK] < 5000 {
		t.Errorf("but %d definitions may be", times[api.OK])
	}
}

// turned is a tree with the keys of all its Maps in another order, but for notes.
func turned(n api.Node, chance *rand.Rand) api.Node {
	out := n
	out.Keys, out.Kids = nil, nil
	for _, i := range chance.Perm(len(n.Kids)) {
		kid := n.Kids[i]
		if n.Kind == 3 {
			out.Keys = append(out.Keys, n.Keys[i])
		} else {
			kid = n.Kids[len(out.Kids)]
		}
		if n.Kind == 2 || n.Keys[i] != "note" {
			kid = turned(kid, chance)
		}
		out.Kids = append(out.Kids, kid)
	}
	return out
}

func TestOrder(t *testing.T) { // P22.3: the order of keys changes nothing
	d, f := parse.Def(trip)
	if f != (api.Fault{}) {
		t.Fatal(f)
	}
	chance := rand.New(rand.NewSource(23))
	for range 500 {
		n := turned(def.Tree(d), chance)
		if again, f := hold(t, n); f != (api.Fault{}) || !def.Same(again, d) {
			t.Fatalf("Of(%s): %s, %v", shown(n), shownDef(again), f)
		}
	}
}

func TestMemory(t *testing.T) { // P3
	kids := []api.Node{word("c"), word("d"), word("behind")}
	one := step([]string{"note", "after"}, row(kids[:2]...), api.Node{Kind: 2, Kids: kids[:2]})
	d, f := parse.Of(saga(one, one))
	if f != (api.Fault{}) || !slices.Equal(d.Steps[0].After, []string{"c", "d"}) {
		t.Fatalf("Of: %s, %v", shownDef(d), f)
	}
	d.Steps[0].After[0], d.Steps[0].Note.Kids[0].Text = "x", "x"
	_ = append(d.Steps[0].Note.Kids, word("x"))
	if d.Steps[1].After[0] != "c" || d.Steps[1].Note.Kids[0].Text != "c" || kids[0].Text != "c" || kids[2].Text != "behind" {
		t.Error("lists of an answer are one, or one with what was handed in")
	}
	// What lies behind a list's end isn't read.
	keys := []string{"saga", "steps", "other"}
	if _, f := parse.Of(api.Node{Kind: 3, Keys: keys[:2], Kids: []api.Node{word("x"), row(), {}}[:2]}); f != (api.Fault{}) {
		t.Errorf("Of with more behind: %v", f)
	}
	if _, f := parse.Of(api.Node{Kind: 3, Keys: keys[:1], Kids: []api.Node{word("x"), row()}[:1]}); f != (api.Fault{Errno: api.ErrNone}) {
		t.Errorf("Of with more behind: %v", f)
	}
}

func TestMany(t *testing.T) { // P22.1: all that there may be
	d := api.Def{Name: "x"}
	for i := range 1024 {
		s := api.Step{Name: "s" + strconv.Itoa(i), Action: "a", Limit: i, Retry: api.Retry{Most: i}}
		for j := range 8 {
			s.After = append(s.After, "s"+strconv.Itoa(i*j%1024))
		}
		d.Steps = append(d.Steps, s)
	}
	holdBack(t, d)
	d.Steps = d.Steps[:100]
	for i := range d.Steps {
		d.Steps[i].After = slices.Repeat([]string{long(64)}, 64)
	}
	holdBack(t, d)
}

func FuzzDef(f *testing.F) { // E6
	for _, s := range []string{"", trip, "saga: x\nsteps: []", "saga: x\nsteps:\n  - name: a\n    action: b\n    retry:\n      most: 1\n    note: {}\n"} {
		f.Add(s)
	}
	f.Fuzz(func(t *testing.T, s string) {
		if len(s) < 1<<12 {
			holdText(t, s)
			holdMade(t, []byte(s))
		}
	})
}
