package lint_test

import (
	"cmp"
	"math"
	"math/rand"
	"slices"
	"strconv"
	"strings"
	"testing"
	"time"

	"rescript/api"
	"rescript/bounds"
	"rescript/canon"
	"rescript/def"
	"rescript/graph"
	"rescript/lint"
	"rescript/names"
	"rescript/parse"
)

// refs is, of each step, behind which ones it comes, by layer 25's words.
func refs(d api.Def) [][]int {
	out := make([][]int, len(d.Steps))
	for i, s := range d.Steps {
		for _, name := range s.After {
			at := slices.IndexFunc(d.Steps, func(s api.Step) bool { return s.Name == name })
			if at >= 0 && at != i && !slices.Contains(out[i], at) {
				out[i] = append(out[i], at)
			}
		}
	}
	return out
}

// order is the steps that come, by layer 26's words: again and again the least one that isn't there, and may come.
func order(d api.Def) []int {
	var out []int
	deps := refs(d)
	there := make([]bool, len(deps))
	for i := 0; i < len(deps); {
		if there[i] || slices.ContainsFunc(deps[i], func(at int) bool { return !there[at] }) {
			i++
			continue
		}
		there[i] = true
		out = append(out, i)
		i = 0
	}
	return out
}

// compare tells which one of two stands ahead, by layer 24's words.
func compare(a, b api.Diag) int {
	return cmp.Or(a.Step-b.Step, int(a.Errno-b.Errno), strings.Compare(a.Text, b.Text))
}

// wrong is all that the chapter's words tell to be wrong, of what the layers below tell.
func wrong(d api.Def) []api.Diag {
	out := slices.Concat(names.Check(d), bounds.Check(d))
	come := order(d)
	for i, s := range d.Steps {
		if !slices.Contains(come, i) {
			out = append(out, api.Diag{Step: i, Errno: 16, Text: s.Name})
		}
	}
	slices.SortFunc(out, compare)
	return slices.Compact(out)
}

// shown is all of a definition as a text, its notes but for what is within.
func shown(d api.Def) string {
	out := strconv.Quote(d.Name) + strconv.Quote(d.Text)
	for _, s := range d.Steps {
		out += "\n" + strconv.Quote(s.Name) + strconv.Quote(s.Action) + strconv.Quote(s.Undo)
		for _, name := range s.After {
			out += "," + strconv.Quote(name)
		}
		for _, n := range []int{s.Retry.Most, s.Retry.First, s.Retry.Factor, s.Limit, int(s.Note.Kind), len(s.Note.Kids), s.Note.Line} {
			out += " " + strconv.Itoa(n)
		}
	}
	return out
}

// hold holds what is told of a definition against the chapter's words, and what follows.
func hold(t *testing.T, d api.Def) []api.Diag {
	t.Helper()
	was := shown(d)
	want, come := wrong(d), order(d)
	for range 2 {
		got := lint.All(d)
		if !slices.Equal(got, want) {
			t.Fatalf("All(%v): %v, not %v", d, got, want)
		}
		row := lint.Order(d)
		if !slices.Equal(row, come) {
			t.Fatalf("Order(%v): %v, not %v", d, row, come)
		}
		clean := lint.Clean(d)
		if clean != (len(want) == 0 && def.Check(d).Errno == api.OK) {
			t.Fatalf("Clean(%v): %v", d, clean)
		}
		if clean {
			holdClean(t, d, row)
		}
		// What is answered is the caller's.
		for i := range got {
			got[i] = api.Diag{Text: "written"}
		}
		for i := range row {
			row[i] = -7
		}
	}
	if shown(d) != was {
		t.Fatalf("written to: %v, not %v", d, was)
	}
	return want
}

// holdClean holds what follows, if a definition is clean.
func holdClean(t *testing.T, d api.Def, row []int) { // P28.3
	t.Helper()
	if len(row) != len(d.Steps) {
		t.Fatalf("Order(%v): %v", d, row)
	}
	there := map[string]int{}
	for _, i := range row {
		for _, name := range d.Steps[i].After {
			if there[name] == 0 {
				t.Fatalf("Order(%v): %d ahead of %s", d, i, name)
			}
		}
		there[d.Steps[i].Name]++
	}
	around := d
	around.Steps = slices.Clone(d.Steps)
	slices.Reverse(around.Steps)
	if !lint.Clean(around) || len(lint.Order(around)) != len(row) {
		t.Fatalf("turned round isn't clean: %v", around)
	}
	chance := rand.New(rand.NewSource(int64(len(row))))
	chance.Shuffle(len(row), func(i, j int) { around.Steps[i], around.Steps[j] = around.Steps[j], around.Steps[i] })
	if !lint.Clean(around) {
		t.Fatalf("in another order isn't clean: %v", around)
	}
}

// holdText holds what is told of a text against the chapter's words.
func holdText(t *testing.T, s string) ([]api.Diag, api.Fault) {
	t.Helper()
	got, f := lint.Text(s)
	d, want := parse.Def(s)
	if f != want {
		t.Fatalf("Text(%q): %v, not %v", s, f, want)
	}
	if f.Errno != api.OK {
		// What is wrong with a text is told with its line.
		if len(got) != 0 || f.At < 0 || f.At > strings.Count(s, "\n")+1 {
			t.Fatalf("Text(%q): %v, %v", s, got, f)
		}
		return got, f
	}
	if !slices.Equal(got, hold(t, d)) {
		t.Fatalf("Text(%q): %v", s, got)
	}
	if lint.Clean(d) != (len(got) == 0) {
		t.Fatalf("what is read may be: %q", s)
	}
	if fixed, f := canon.Fix(s); f.Errno == api.OK {
		if again, f := lint.Text(fixed); f.Errno != api.OK || !slices.Equal(again, got) {
			t.Fatalf("Text(%q): %v, %v, not %v", fixed, again, f, got)
		}
	}
	return got, f
}

// holdPrinted holds that what is wrong with a definition is wrong with its text, if it has one.
func holdPrinted(t *testing.T, d api.Def) bool { // E1
	t.Helper()
	text, f := canon.Print(d)
	if f.Errno != api.OK {
		return false
	}
	got, f := holdText(t, text)
	if f.Errno != api.OK || !slices.Equal(got, wrong(d)) {
		t.Fatalf("Text(%q): %v, %v, not %v", text, got, f, wrong(d))
	}
	return true
}

// to is a step, behind others, that something undoes.
func to(name string, after ...string) api.Step {
	return api.Step{Name: name, Action: "do", Undo: "un", After: after}
}

// point is a step, behind others, that nothing undoes.
func point(name string, after ...string) api.Step {
	return api.Step{Name: name, Action: "do", After: after}
}

// saga is a definition with steps.
func saga(steps ...api.Step) api.Def { return api.Def{Name: "x", Steps: steps} }

// cycle is that a step waits for itself.
func cycle(step int, name string) api.Diag {
	return api.Diag{Step: step, Errno: api.ErrCycle, Text: name}
}

func TestAll(t *testing.T) { // P28.1, the example
	for _, c := range []struct {
		d    api.Def
		want []api.Diag
	}{
		{saga(to("a", "b"), to("b", "a")), []api.Diag{cycle(0, "a"), cycle(1, "b")}},
		{saga(to("a")), nil},
		{saga(to("a"), to("b", "a"), point("c", "a", "b")), nil},
		{api.Def{}, []api.Diag{{Step: -1, Errno: api.ErrEmpty}, {Step: -1, Errno: api.ErrName}}},
		{saga(), []api.Diag{{Step: -1, Errno: api.ErrEmpty}}},
		// Who waits for such waits, too; who is waited for doesn't.
		{saga(to("a", "b"), to("b", "a"), to("c", "b"), to("d")), []api.Diag{cycle(0, "a"), cycle(1, "b"), cycle(2, "c")}},
		{saga(to("a", "b", "d"), to("b", "a"), to("d")), []api.Diag{cycle(0, "a"), cycle(1, "b")}},
		{saga(to("a", "c"), to("b", "a"), to("c", "b")), []api.Diag{cycle(0, "a"), cycle(1, "b"), cycle(2, "c")}},
		// One that names itself doesn't wait so.
		{saga(to("a", "a")), []api.Diag{{Errno: api.ErrOrder, Text: "a"}}},
		{saga(to("a", "z")), []api.Diag{{Errno: api.ErrNone, Text: "z"}}},
		// Of one step in order: names, numbers, rounds, points.
		{
			saga(api.Step{Name: "a", Action: "-", Limit: -1, After: []string{"b", "b", "z", "a"}}, to("b", "a")),
			[]api.Diag{
				{Errno: api.ErrRange, Text: "limit"}, {Errno: api.ErrNone, Text: "z"}, {Errno: api.ErrTwice, Text: "b"}, {Errno: api.ErrOrder, Text: "a"},
				cycle(0, "a"), {Errno: api.ErrName, Text: "-"}, {Errno: api.ErrUndo, Text: "a"}, cycle(1, "b"),
			},
		},
		// Of several steps what is wrong with an earlier one stands ahead.
		{
			api.Def{Name: "-", Steps: []api.Step{point("a"), to("b", "a"), to("a", "z"), {Name: "c", Action: "do", Retry: api.Retry{Most: 11}}}},
			[]api.Diag{
				{Step: -1, Errno: api.ErrName, Text: "-"}, {Errno: api.ErrUndo, Text: "a"},
				{Step: 2, Errno: api.ErrNone, Text: "z"}, {Step: 2, Errno: api.ErrTwice, Text: "a"}, {Step: 3, Errno: api.ErrRange, Text: "most"},
			},
		},
		// Two steps of one name in a round: each is told, and the one that comes isn't.
		{saga(to("a", "b"), to("a", "b"), to("b", "a")), []api.Diag{cycle(0, "a"), {Step: 1, Errno: api.ErrTwice, Text: "a"}, cycle(1, "a"), cycle(2, "b")}},
		{saga(to("a"), to("a", "b"), to("b", "a")), []api.Diag{{Step: 1, Errno: api.ErrTwice, Text: "a"}}},
		{saga(to("", "b"), to("b", "")), []api.Diag{cycle(0, ""), {Errno: api.ErrName}, cycle(1, "b")}},
	} {
		if got := lint.All(c.d); !slices.Equal(got, c.want) {
			t.Errorf("All(%v): %v, not %v", c.d, got, c.want)
		}
		hold(t, c.d)
		holdPrinted(t, c.d)
	}
}

// rows is a Scalar within so many rows.
func rows(n int) api.Node {
	in := api.Node{Kind: 1, Text: "x"}
	for range n {
		in = api.Node{Kind: 2, Kids: []api.Node{in}}
	}
	return in
}

// many is a definition of so many steps.
func many(n int) api.Def {
	d := saga()
	for i := range n {
		d.Steps = append(d.Steps, to("s"+strconv.Itoa(i)))
	}
	return d
}

// behind is a definition of a step behind so many others.
func behind(n int) api.Def {
	d := many(n + 1)
	for i := range n {
		d.Steps[n].After = append(d.Steps[n].After, d.Steps[i].Name)
	}
	return d
}

// noted is a definition of a step with a note.
func noted(n api.Node) api.Def { return saga(api.Step{Name: "a", Action: "do", Note: n}) }

func TestClean(t *testing.T) { // P28.1: what may not be isn't clean, though All tells nothing
	for _, c := range []struct {
		d           api.Def
		told, clean bool
	}{
		{saga(to("a")), false, true},
		{saga(point("a")), false, true},
		{saga(point("a"), to("b"), point("c", "b", "a")), false, true},
		{api.Def{}, true, false},
		{saga(), true, false},
		{saga(to("a", "a")), true, false},
		{saga(to("a"), to("a")), true, false},
		{saga(to("a", "b"), to("b", "a")), true, false},
		{saga(point("a"), to("b", "a")), true, false},
		{saga(api.Step{Name: "a", Action: "do", Retry: api.Retry{First: 1001}}), true, false},
		{saga(api.Step{Name: "a", Action: "do", Limit: -1}), true, false},
		{saga(api.Step{Name: "a", Action: "do", Limit: 1 << 30}), true, false},
		{api.Def{Name: "x", Text: strings.Repeat("t", 4096), Steps: []api.Step{to("a")}}, false, true},
		{api.Def{Name: "x", Text: strings.Repeat("t", 4097), Steps: []api.Step{to("a")}}, false, false},
		{api.Def{Name: "x", Text: "\xFF", Steps: []api.Step{to("a")}}, false, false},
		{many(1024), false, true},
		{many(1025), false, false},
		{behind(64), false, true},
		{behind(65), false, false},
		{noted(rows(12)), false, true},
		{noted(rows(13)), false, false},
		{noted(api.Node{Line: 5}), false, true},
		{noted(api.Node{Kind: 4}), false, false},
		{noted(api.Node{Kind: 1, Text: "\xC0"}), false, false},
		{noted(api.Node{Kind: 3, Keys: []string{"k", "k"}, Kids: []api.Node{rows(0), rows(0)}}), false, false},
	} {
		if got := lint.Clean(c.d); got != c.clean {
			t.Errorf("Clean(%v): %v", c.d, got)
		}
		if got := lint.All(c.d); (len(got) > 0) != c.told {
			t.Errorf("All(%v): %v", c.d, got)
		}
		hold(t, c.d)
		holdPrinted(t, c.d)
	}
	within := []api.Node{{Kind: 2}}
	within[0].Kids = within
	if lint.Clean(noted(within[0])) || len(lint.All(noted(within[0]))) != 0 {
		t.Error("a note within itself")
	}
}

func TestOrder(t *testing.T) { // P28.2, P28.3
	for _, c := range []struct {
		d    api.Def
		want []int
	}{
		{api.Def{}, nil},
		{saga(to("a")), []int{0}},
		{saga(to("a"), to("b")), []int{0, 1}},
		{saga(to("a", "b"), to("b")), []int{1, 0}},
		{saga(to("c", "b", "a"), to("b", "a"), to("a")), []int{2, 1, 0}},
		{saga(to("c", "a"), to("b"), to("a")), []int{1, 2, 0}},
		{saga(to("a", "b"), to("b", "a"), to("c")), []int{2}},
		{saga(to("a", "b"), to("b", "a"), to("c", "a")), nil},
		{saga(to("a", "a")), []int{0}},
		{saga(to("a", "z"), to("a", "b"), to("b")), []int{0, 2, 1}},
		{saga(to("a"), to("a", "a")), []int{0, 1}},
	} {
		if got := lint.Order(c.d); !slices.Equal(got, c.want) {
			t.Errorf("Order(%v): %v, not %v", c.d, got, c.want)
		}
		hold(t, c.d)
	}
}

func TestText(t *testing.T) { // P28.2, E1
	head := "saga: x\nsteps:\n  - name: a\n    action: do\n"
	for _, c := range []struct {
		s    string
		want []api.Diag
		f    api.Fault
	}{
		{head, nil, api.Fault{}},
		{head + "    limit: 10000", nil, api.Fault{}},
		{head + "    limit: 10001", []api.Diag{{Errno: api.ErrRange, Text: "limit"}}, api.Fault{}},
		{head + "    retry:\n      most: 11\n", []api.Diag{{Errno: api.ErrRange, Text: "most"}}, api.Fault{}},
		{head + "    retry:\n      most: 0\n      factor: 0\n      first: 1001", []api.Diag{{Errno: api.ErrRange, Text: "first"}}, api.Fault{}},
		{head + "    after:\n      - a\n", []api.Diag{{Errno: api.ErrOrder, Text: "a"}}, api.Fault{}},
		{head + "    after:\n      - b\n  - name: b\n    action: do\n    after:\n      - a\n", []api.Diag{cycle(0, "a"), cycle(1, "b")}, api.Fault{}},
		{head + "  - name: b\n    action: do\n    undo: un\n    after:\n      - a\n", []api.Diag{{Errno: api.ErrUndo, Text: "a"}}, api.Fault{}},
		{"steps: [] # none\nsaga: x", []api.Diag{{Step: -1, Errno: api.ErrEmpty}}, api.Fault{}},
		{"saga: \"a b\"\nsteps: []", []api.Diag{{Step: -1, Errno: api.ErrEmpty}, {Step: -1, Errno: api.ErrName, Text: "a b"}}, api.Fault{}},
		// What can't be read has its own fault, and nothing more.
		{"", nil, api.Fault{Errno: api.ErrEmpty}},
		{"saga: x", nil, api.Fault{Errno: api.ErrNone, At: 1}},
		{"\n\nsaga: x", nil, api.Fault{Errno: api.ErrNone, At: 3}},
		{"saga: x\nsteps: [] []", nil, api.Fault{Errno: api.ErrForm, At: 2}},
		{"saga: -\nsteps: []", nil, api.Fault{Errno: api.ErrForm, At: 1}},
		{head + "    limit: -1", nil, api.Fault{Errno: api.ErrForm, At: 5}},
		{head + "    limits: 1", nil, api.Fault{Errno: api.ErrName, At: 5}},
		{head + "    undo:\n      - un", nil, api.Fault{Errno: api.ErrKind, At: 6}},
		{head + "    undo: " + strings.Repeat("u", 65), nil, api.Fault{Errno: api.ErrLong, At: 5}},
		{head + "\xFF", nil, api.Fault{Errno: api.ErrUtf, At: 5}},
		{"saga: x\nsteps:\n  - name: a\n", nil, api.Fault{Errno: api.ErrNone, At: 3}},
	} {
		got, f := lint.Text(c.s)
		if !slices.Equal(got, c.want) || f != c.f {
			t.Errorf("Text(%q): %v, %v, not %v, %v", c.s, got, f, c.want, c.f)
		}
		holdText(t, c.s)
	}
}

func TestTextBytes(t *testing.T) { // P28.2, E1, E6: a text with a byte put in, or taken away, at each place
	whole := "saga: x\ntext: \"t\"\nsteps:\n  - name: a\n    action: do\n    undo: un\n    retry:\n      most: 9\n  - name: b\n    action: do\n    after:\n      - a\n    limit: 9\n"
	if got, f := holdText(t, whole); len(got) != 0 || f != (api.Fault{}) {
		t.Fatalf("Text(%q): %v, %v", whole, got, f)
	}
	read, told := 0, 0
	for i := range len(whole) {
		for _, in := range []string{"", "a", "b", "0", "9", "-", " ", "\n", ":", "#", "\"", "\\", "\xFF", "\x00"} {
			for _, s := range []string{whole[:i] + in + whole[i:], whole[:i] + in + whole[i+1:]} {
				got, f := holdText(t, s)
				if f.Errno == api.OK {
					read++
				}
				if len(got) > 0 {
					told++
				}
			}
		}
	}
	if read < 300 || told < 20 {
		t.Errorf("%d that are read, %d with something wrong", read, told)
	}
}

func TestFew(t *testing.T) { // P28.1 to P28.3: all ways to put together three steps of three names
	few := [][]string{nil, {"a"}, {"b"}, {"c"}, {"b", "a"}, {"c", "b"}, {"a", "c"}, {"a", "b", "c"}}
	clean := 0
	for undone := range 8 {
		for _, a := range few {
			for _, b := range few {
				for _, c := range few {
					d := saga(point("a", a...), point("b", b...), point("c", c...))
					for i := range d.Steps {
						if undone>>i&1 == 1 {
							d.Steps[i].Undo = "un"
						}
					}
					if len(hold(t, d)) == 0 {
						clean++
					}
					holdPrinted(t, d)
					d.Steps[2].Name = "a"
					hold(t, d)
				}
			}
		}
	}
	if clean < 50 {
		t.Errorf("%d clean ones", clean)
	}
}

func TestEnds(t *testing.T) { // P3: what lies behind a list's end is neither read nor written to
	steps := []api.Step{to("a", "c"), to("b", "a"), to("c", "b"), to("c")}
	after := []string{"a", "c", "z"}
	steps[1].After = after[:1]
	want := shown(saga(steps...))
	for range 2 {
		if got := lint.All(saga(steps[:2]...)); !slices.Equal(got, []api.Diag{{Errno: api.ErrNone, Text: "c"}}) {
			t.Errorf("All: %v", got)
		}
		if got := lint.Order(saga(steps[:2]...)); !slices.Equal(got, []int{0, 1}) {
			t.Errorf("Order: %v", got)
		}
		hold(t, saga(steps[:2]...))
		hold(t, saga(steps...))
		if shown(saga(steps...)) != want || !slices.Equal(after, []string{"a", "c", "z"}) {
			t.Errorf("written to: %v, %v", steps, after)
		}
	}
}

// made is a definition that bytes tell, its names a few, its numbers at their edges.
func made(b []byte) api.Def {
	few := []string{"a", "b", "c", "d", "e", "", "a b", "\xFF", strings.Repeat("n", 64), strings.Repeat("n", 65)}
	numbers := []int{0, 1, 10, 11, -1, 1000, 1001, 10000, 10001, 999999999, 1000000000, math.MinInt, math.MaxInt}
	next := func(most int) int {
		if len(b) == 0 {
			return 0
		}
		n := int(b[0]) % most
		b = b[1:]
		return n
	}
	d := api.Def{Name: few[next(len(few))]}
	if next(8) == 1 {
		d.Text = few[next(len(few))]
	}
	for len(b) > 0 {
		s := api.Step{Name: few[next(len(few))], Action: "do"}
		if next(2) == 1 {
			s.Undo = few[next(len(few))]
		}
		for range next(4) {
			s.After = append(s.After, few[next(len(few))])
		}
		if next(6) == 1 {
			s.Retry = api.Retry{Most: numbers[next(len(numbers))], First: numbers[next(len(numbers))], Factor: numbers[next(len(numbers))]}
			s.Limit = numbers[next(len(numbers))]
		}
		if next(8) == 1 {
			s.Note = rows(next(16))
		}
		d.Steps = append(d.Steps, s)
	}
	return d
}

func TestMade(t *testing.T) { // P28.1 to P28.3, E1
	chance := rand.New(rand.NewSource(28))
	clean, printed := 0, 0
	for range 20000 {
		b := make([]byte, chance.Intn(60))
		few := 1 + chance.Intn(12)
		for i := range b {
			b[i] = byte(chance.Intn(few))
		}
		d := made(b)
		if len(hold(t, d)) == 0 {
			clean++
		}
		if holdPrinted(t, d) {
			printed++
		}
	}
	if clean < 30 || printed < 1000 {
		t.Errorf("%d clean ones, %d texts", clean, printed)
	}
}

func TestMadeClean(t *testing.T) { // P28.3: clean ones of many steps, in whatever order
	chance := rand.New(rand.NewSource(3))
	for range 300 {
		n := 1 + chance.Intn(30)
		d := many(n)
		points := chance.Intn(n + 1)
		for i := range d.Steps {
			s := &d.Steps[i]
			if i >= points { // points come last: nothing that can be undone comes behind them
				s.Undo = ""
			}
			for j := range i {
				if chance.Intn(4) == 0 {
					s.After = append(s.After, d.Steps[j].Name)
				}
			}
			s.Retry = api.Retry{Most: chance.Intn(11), First: chance.Intn(1001), Factor: chance.Intn(11)}
			s.Limit = chance.Intn(10001)
		}
		chance.Shuffle(n, func(i, j int) { d.Steps[i], d.Steps[j] = d.Steps[j], d.Steps[i] })
		if l := hold(t, d); len(l) != 0 {
			t.Fatalf("All(%v): %v", d, l)
		}
		if !holdPrinted(t, d) {
			t.Fatalf("%v has no text", d)
		}
		// A round put into it is told of all that are in it.
		first, last := lint.Order(d)[0], lint.Order(d)[n-1]
		if before := graph.Before(names.Refs(d), last); n > 1 && slices.Contains(before, first) {
			d.Steps[first].After = append(d.Steps[first].After, d.Steps[last].Name)
			l := hold(t, d)
			if lint.Clean(d) || !slices.Contains(l, cycle(first, d.Steps[first].Name)) || !slices.Contains(l, cycle(last, d.Steps[last].Name)) {
				t.Fatalf("All(%v): %v", d, l)
			}
		}
	}
}

func TestMany(t *testing.T) { // P28.1 to P28.3: as many steps and names as may be, and more
	began := time.Now()
	d := many(1024)
	for i := range d.Steps {
		for j := i + 1; j < 1024 && len(d.Steps[i].After) < 64; j++ {
			d.Steps[i].After = append(d.Steps[i].After, d.Steps[j].Name)
		}
	}
	row := lint.Order(d)
	if !lint.Clean(d) || len(row) != 1024 || row[0] != 1023 || row[1023] != 0 {
		t.Errorf("Order of many: %v", row)
	}
	d.Steps[1023].After = []string{"s0"}
	if l := lint.All(d); len(l) != 1024 || l[1023] != cycle(1023, "s1023") || lint.Clean(d) || len(lint.Order(d)) != 0 {
		t.Errorf("a round of many: %d", len(l))
	}
	d = many(100000)
	if l := lint.All(d); len(l) != 0 || lint.Clean(d) || len(lint.Order(d)) != 100000 {
		t.Errorf("many: %d", len(l))
	}
	if took := time.Since(began); took > 20*time.Second {
		t.Errorf("took %v", took)
	}
}

func FuzzAll(f *testing.F) { // P1
	f.Add([]byte{}, "")
	f.Add([]byte("all that is wrong with a definition"), "saga: x\nsteps: []")
	f.Fuzz(func(t *testing.T, b []byte, s string) {
		if len(b) > 200 || len(s) > 2000 {
			return
		}
		d := made(b)
		hold(t, d)
		holdPrinted(t, d)
		holdText(t, s)
		d.Steps = append(d.Steps, to(s, strings.Split(s, " ")...))
		hold(t, d)
		holdPrinted(t, d)
	})
}
