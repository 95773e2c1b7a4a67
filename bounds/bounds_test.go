package bounds_test

import (
	"math"
	"math/rand"
	"reflect"
	"slices"
	"strconv"
	"strings"
	"testing"
	"time"

	"rescript/api"
	"rescript/bounds"
	"rescript/canon"
	"rescript/def"
	"rescript/names"
	"rescript/parse"
)

// meant is a number, or what is meant instead of 0.
func meant(n, instead int) int {
	if n == 0 {
		return instead
	}
	return n
}

// limits tells whether each of a step's numbers, as they are meant, is beyond its bounds, by the chapter's words.
func limits(s api.Step) map[string]bool {
	most, factor, limit := meant(s.Retry.Most, 1), meant(s.Retry.Factor, 1), meant(s.Limit, 100)
	return map[string]bool{
		"most":   most < 1 || most > 10,
		"first":  s.Retry.First < 0 || s.Retry.First > 1000,
		"factor": factor < 1 || factor > 10,
		"limit":  limit < 1 || limit > 10000,
	}
}

// standsFor is the first step with a name; -1: there is none.
func standsFor(d api.Def, name string) int {
	for i, s := range d.Steps {
		if s.Name == name {
			return i
		}
	}
	return -1
}

// left tells whether a step is a point behind which, right behind, one comes that isn't, by the chapter's words.
func left(d api.Def, i int) bool {
	if d.Steps[i].Undo != "" {
		return false
	}
	for j, s := range d.Steps {
		for _, name := range s.After {
			if j != i && s.Undo != "" && standsFor(d, name) == i {
				return true
			}
		}
	}
	return false
}

// wrong is all that the chapter's words tell to be wrong, in layer 24's order (so numbers go by their names).
func wrong(d api.Def) []api.Diag {
	var out []api.Diag
	for i, s := range d.Steps {
		beyond := limits(s)
		for _, name := range []string{"factor", "first", "limit", "most"} {
			if beyond[name] {
				out = append(out, api.Diag{Step: i, Errno: 1, Text: name})
			}
		}
		if left(d, i) {
			out = append(out, api.Diag{Step: i, Errno: 19, Text: s.Name})
		}
	}
	return out
}

// shown is all of a tree, of so many levels at most, as a text.
func shown(n api.Node, levels int) string {
	out := strconv.Itoa(int(n.Kind)) + strconv.Quote(n.Text) + "@" + strconv.Itoa(n.Line)
	for _, key := range n.Keys {
		out += "," + strconv.Quote(key)
	}
	if levels > 1 {
		for _, kid := range n.Kids {
			out += "(" + shown(kid, levels-1) + ")"
		}
	}
	return out
}

// shownStep is all of a step as a text.
func shownStep(s api.Step) string {
	out := strconv.Quote(s.Name) + strconv.Quote(s.Action) + strconv.Quote(s.Undo)
	for _, name := range s.After {
		out += "," + strconv.Quote(name)
	}
	for _, n := range []int{s.Retry.Most, s.Retry.First, s.Retry.Factor, s.Limit} {
		out += " " + strconv.Itoa(n)
	}
	return out + " " + shown(s.Note, 20)
}

// shownDef is all of a definition as a text.
func shownDef(d api.Def) string {
	out := strconv.Quote(d.Name) + strconv.Quote(d.Text)
	for _, s := range d.Steps {
		out += "\n" + shownStep(s)
	}
	return out
}

// holdReal holds what is meant by a step against the chapter's words.
func holdReal(t *testing.T, s api.Step) api.Step {
	t.Helper()
	was := shownStep(s)
	got := bounds.Real(s)
	want := s
	want.Retry = api.Retry{Most: meant(s.Retry.Most, 1), First: s.Retry.First, Factor: meant(s.Retry.Factor, 1)}
	want.Limit = meant(s.Limit, 100)
	if shownStep(got) != shownStep(want) {
		t.Fatalf("Real(%v): %v, not %v", s, got, want)
	}
	if shownStep(s) != was {
		t.Fatalf("written to: %v, not %v", s, was)
	}
	if again := bounds.Real(got); shownStep(again) != shownStep(got) { // P27.3
		t.Fatalf("Real(%v): %v", got, again)
	}
	holdShared(t, s.After, got.After)
	holdShared(t, s.Note.Keys, got.Note.Keys)
	if len(got.Note.Kids) > 0 && &got.Note.Kids[0] != &s.Note.Kids[0] {
		t.Fatalf("Real(%v): kids of its own", s)
	}
	return got
}

// holdShared holds that two rows are one, and that nothing is handed out behind its end.
func holdShared(t *testing.T, row, got []string) {
	t.Helper()
	if len(got) != len(row) || cap(got) != len(row) {
		t.Fatalf("%q, not %q", got[:cap(got)], row)
	}
	if len(row) > 0 && &row[0] != &got[0] {
		t.Fatalf("%q isn't shared", row)
	}
}

// hold holds what is told of a definition against the chapter's words, and what follows.
func hold(t *testing.T, d api.Def) []api.Diag {
	t.Helper()
	was := shownDef(d)
	want := wrong(d)
	for range 2 {
		got := bounds.Check(d)
		if !slices.Equal(got, want) {
			t.Fatalf("Check(%v): %v, not %v", d, got, want)
		}
		for i := range got {
			got[i] = api.Diag{Text: "written"}
		}
	}
	for range 2 {
		holdPoints(t, d)
	}
	for _, s := range d.Steps {
		real := holdReal(t, s)
		if n := min(real.Retry.Most, real.Retry.Factor, real.Limit); len(want) == 0 && n < 1 { // P27.3
			t.Fatalf("nothing is wrong with %v", d)
		}
	}
	if shownDef(d) != was {
		t.Fatalf("written to: %v, not %v", d, was)
	}
	return want
}

// holdPoints holds points and others against the chapter's words; what is answered is written to.
func holdPoints(t *testing.T, d api.Def) {
	t.Helper()
	points, others := bounds.Points(d), bounds.Steps(d)
	if len(points)+others != len(d.Steps) { // P27.3
		t.Fatalf("%v and %d others: %v", points, others, d)
	}
	at := 0
	for i, s := range d.Steps {
		if s.Undo != "" {
			continue
		}
		if at >= len(points) || points[at] != i {
			t.Fatalf("Points(%v): %v", d, points)
		}
		at++
	}
	if at != len(points) || others != len(d.Steps)-at {
		t.Fatalf("Points(%v): %v, and %d others", d, points, others)
	}
	for i := range points {
		points[i] = -7
	}
}

// numbered is a step with numbers.
func numbered(most, first, factor, limit int) api.Step {
	return api.Step{Name: "a", Action: "do", Undo: "un", Retry: api.Retry{Most: most, First: first, Factor: factor}, Limit: limit}
}

// to is a step, behind others, that something undoes.
func to(name string, after ...string) api.Step {
	return api.Step{Name: name, Action: "do", Undo: "un", After: after}
}

// point is a step, behind others, that nothing undoes.
func point(name string, after ...string) api.Step {
	return api.Step{Name: name, Action: "do", After: after}
}

// saga is a definition with steps.
func saga(steps ...api.Step) api.Def { return api.Def{Name: "x", Steps: steps} }

// ranged is what is wrong with one step's number.
func ranged(name string) []api.Diag { return []api.Diag{{Errno: api.ErrRange, Text: name}} }

func TestReal(t *testing.T) { // P27.1
	for _, c := range []struct{ s, want api.Step }{
		{api.Step{}, api.Step{Retry: api.Retry{Most: 1, Factor: 1}, Limit: 100}},
		{numbered(0, 0, 0, 0), numbered(1, 0, 1, 100)},
		{numbered(1, 0, 1, 100), numbered(1, 0, 1, 100)},
		{numbered(3, 0, 0, 0), numbered(3, 0, 1, 100)},
		{numbered(0, 3, 0, 0), numbered(1, 3, 1, 100)},
		{numbered(0, 0, 3, 0), numbered(1, 0, 3, 100)},
		{numbered(0, 0, 0, 3), numbered(1, 0, 1, 3)},
		// 0 alone stands for something else, whatever is wrong.
		{numbered(-1, -1, -1, -1), numbered(-1, -1, -1, -1)},
		{numbered(11, 1001, 11, 10001), numbered(11, 1001, 11, 10001)},
		{numbered(math.MinInt, math.MinInt, math.MinInt, math.MinInt), numbered(math.MinInt, math.MinInt, math.MinInt, math.MinInt)},
		{numbered(math.MaxInt, math.MaxInt, math.MaxInt, math.MaxInt), numbered(math.MaxInt, math.MaxInt, math.MaxInt, math.MaxInt)},
		{numbered(2, 1, 2, 1), numbered(2, 1, 2, 1)},
	} {
		if got := bounds.Real(c.s); !reflect.DeepEqual(got, c.want) {
			t.Errorf("Real(%v): %v, not %v", c.s, got, c.want)
		}
		holdReal(t, c.s)
	}
	if bounds.Usual != 100 || bounds.Greatest != 10 {
		t.Errorf("%d, %d", bounds.Usual, bounds.Greatest)
	}
}

func TestRealRows(t *testing.T) { // P27.1: its rows are shared; P3: nothing behind their ends is handed out
	after := []string{"a", "b", "c"}
	keys := []string{"k", "l", "m"}
	kids := []api.Node{{Kind: 1, Text: "x"}, {Kind: 1, Text: "y"}, {Kind: 1, Text: "z"}}
	s := api.Step{Name: "s", After: after[:2], Note: api.Node{Kind: 3, Text: "t", Keys: keys[:1], Kids: kids[:1], Line: 7}}
	got := holdReal(t, s)
	if cap(got.After) != 2 || cap(got.Note.Keys) != 1 || cap(got.Note.Kids) != 1 {
		t.Errorf("room: %d, %d, %d", cap(got.After), cap(got.Note.Keys), cap(got.Note.Kids))
	}
	_ = append(got.After, "written")
	_ = append(got.Note.Keys, "written")
	_ = append(got.Note.Kids, api.Node{Text: "written"})
	if after[2] != "c" || keys[1] != "l" || kids[1].Text != "y" {
		t.Errorf("written to: %v, %v, %v", after, keys, kids)
	}
	after[0], keys[0], kids[0].Text = "A", "K", "X"
	if got.After[0] != "A" || got.Note.Keys[0] != "K" || got.Note.Kids[0].Text != "X" {
		t.Errorf("rows of its own: %v", got)
	}
	if got.Note.Text != "t" || got.Note.Line != 7 || got.Note.Kind != 3 {
		t.Errorf("another note: %v", got.Note)
	}
	// One that has itself within.
	round := []api.Node{{Kind: 2}}
	round[0].Kids = round
	if got := bounds.Real(api.Step{Note: round[0]}); len(got.Note.Kids) != 1 || &got.Note.Kids[0] != &round[0] {
		t.Errorf("a note within itself: %v", got.Note.Kind)
	}
}

func TestNumbers(t *testing.T) { // P27.2, the example
	for _, c := range []struct {
		name        string
		put         func(n int) api.Step
		least, most int
		instead     bool // is something else meant by 0?
	}{
		{"most", func(n int) api.Step { return numbered(n, 1, 1, 1) }, 1, 10, true},
		{"first", func(n int) api.Step { return numbered(1, n, 1, 1) }, 0, 1000, false},
		{"factor", func(n int) api.Step { return numbered(1, 1, n, 1) }, 1, 10, true},
		{"limit", func(n int) api.Step { return numbered(1, 1, 1, n) }, 1, 10000, true},
	} {
		tried := []int{math.MinInt, math.MinInt + 1, math.MinInt32, -1 << 32, 1 << 32, 1<<32 + 1, 999999999, math.MaxInt32, math.MaxInt - 1, math.MaxInt}
		for n := -20; n <= 12000; n++ {
			tried = append(tried, n)
		}
		for _, n := range tried {
			var want []api.Diag
			if (n < c.least || n > c.most) && !(n == 0 && c.instead) {
				want = ranged(c.name)
			}
			if got := bounds.Check(saga(c.put(n))); !slices.Equal(got, want) {
				t.Fatalf("Check of %s %d: %v, not %v", c.name, n, got, want)
			}
		}
	}
	if got := bounds.Check(saga(numbered(11, 0, 0, 0))); !slices.Equal(got, ranged("most")) {
		t.Errorf("Check of Most 11: %v", got)
	}
}

func TestNumbersAll(t *testing.T) { // P27.2: all numbers' edges together, of several steps
	edges := [][]int{{-1, 0, 1, 10, 11}, {-1, 0, 1000, 1001}, {-1, 0, 1, 10, 11}, {-1, 0, 1, 10000, 10001}}
	var steps []api.Step
	for _, most := range edges[0] {
		for _, first := range edges[1] {
			for _, factor := range edges[2] {
				for _, limit := range edges[3] {
					s := numbered(most, first, factor, limit)
					hold(t, saga(s))
					steps = append(steps, s)
				}
			}
		}
	}
	hold(t, saga(steps...))
	all := []api.Diag{
		{Errno: api.ErrRange, Text: "factor"}, {Errno: api.ErrRange, Text: "first"}, {Errno: api.ErrRange, Text: "limit"}, {Errno: api.ErrRange, Text: "most"},
		{Step: 2, Errno: api.ErrRange, Text: "limit"},
	}
	if got := bounds.Check(saga(numbered(-1, -1, -1, -1), to("b"), numbered(1, 0, 1, 10001))); !slices.Equal(got, all) {
		t.Errorf("Check: %v, not %v", got, all)
	}
}

func TestUndo(t *testing.T) { // P27.2
	undo := func(step int, name string) api.Diag {
		return api.Diag{Step: step, Errno: api.ErrUndo, Text: name}
	}
	for _, c := range []struct {
		d    api.Def
		want []api.Diag
	}{
		{api.Def{}, nil},
		{saga(), nil},
		{saga(point("a")), nil},
		{saga(to("a")), nil},
		{saga(point("a"), to("b")), nil},
		{saga(point("a"), to("b", "a")), []api.Diag{undo(0, "a")}},
		{saga(to("b", "a"), point("a")), []api.Diag{undo(1, "a")}},
		{saga(to("a"), point("b", "a")), nil},
		{saga(point("a"), point("b", "a")), nil},
		{saga(to("a"), to("b", "a")), nil},
		// Right behind it alone.
		{saga(point("a"), point("b", "a"), to("c", "b")), []api.Diag{undo(1, "b")}},
		{saga(point("a"), point("b", "a"), to("c", "b", "a")), []api.Diag{undo(0, "a"), undo(1, "b")}},
		{saga(point("a"), to("b", "a"), to("c", "a"), to("d", "a", "a")), []api.Diag{undo(0, "a")}},
		{saga(point("a"), point("b", "a"), to("c", "a")), []api.Diag{undo(0, "a")}},
		{saga(to("c", "a"), point("b", "a"), point("a")), []api.Diag{undo(2, "a")}},
		{saga(to("a", "b"), point("b", "a")), []api.Diag{undo(1, "b")}},
		{saga(to("a"), to("b", "z")), nil},
		// The first step with a name is meant.
		{saga(point("a"), to("a"), to("b", "a")), []api.Diag{undo(0, "a")}},
		{saga(to("a"), point("a"), to("b", "a")), nil},
		{saga(point("a"), to("a", "a")), []api.Diag{undo(0, "a")}},
		{saga(point("a", "a")), nil},
		{saga(point(""), to("b", "")), []api.Diag{undo(0, "")}},
		{saga(point("a b"), to("\xFF", "a b")), []api.Diag{undo(0, "a b")}},
		// Whatever undoes it, something does.
		{saga(api.Step{Name: "a", Undo: " "}, to("b", "a")), nil},
		{saga(point("a"), api.Step{Name: "b", Undo: "\x00", After: []string{"a"}}), []api.Diag{undo(0, "a")}},
		{saga(api.Step{Name: "a", Limit: -1, Retry: api.Retry{Most: 11}}, to("b", "a")), []api.Diag{{Errno: api.ErrRange, Text: "limit"}, {Errno: api.ErrRange, Text: "most"}, undo(0, "a")}},
	} {
		if got := bounds.Check(c.d); !slices.Equal(got, c.want) {
			t.Errorf("Check(%v): %v, not %v", c.d, got, c.want)
		}
		hold(t, c.d)
	}
}

func TestPoints(t *testing.T) { // P27.1
	for _, c := range []struct {
		d      api.Def
		want   []int
		others int
	}{
		{api.Def{}, nil, 0},
		{saga(point("a")), []int{0}, 0},
		{saga(to("a")), nil, 1},
		{saga(point("a"), to("b"), point("c")), []int{0, 2}, 1},
		{saga(to("a"), to("b"), point("b"), to("c")), []int{2}, 3},
		{saga(api.Step{}, api.Step{Undo: " "}, api.Step{Action: "do"}), []int{0, 2}, 1},
	} {
		if got := bounds.Points(c.d); !slices.Equal(got, c.want) {
			t.Errorf("Points(%v): %v", c.d, got)
		}
		if got := bounds.Steps(c.d); got != c.others {
			t.Errorf("Steps(%v): %d", c.d, got)
		}
		hold(t, c.d)
	}
}

func TestFew(t *testing.T) { // P27.1 to P27.3: all ways to put together three steps of three names
	few := [][]string{nil, {"a"}, {"b"}, {"c"}, {"b", "a"}, {"c", "b"}, {"a", "c"}, {"a", "b", "c"}}
	for undone := range 8 {
		for _, a := range few {
			for _, b := range few {
				for _, c := range few {
					d := saga(point("a", a...), point("b", b...), point("c", c...))
					for i := range d.Steps {
						if undone>>i&1 == 1 {
							d.Steps[i].Undo = "un"
						}
					}
					hold(t, d)
					d.Steps[2].Name = "a"
					hold(t, d)
				}
			}
		}
	}
}

func TestEnds(t *testing.T) { // P3: what lies behind a list's end is neither read nor written to
	steps := []api.Step{point("a"), point("b"), to("c", "a"), numbered(-1, -1, -1, -1)}
	after := []string{"b", "a"}
	steps[2].After = after[:1]
	want := shownDef(saga(steps...))
	for range 2 {
		if got := hold(t, saga(steps[:2]...)); len(got) != 0 {
			t.Errorf("Check: %v", got)
		}
		if got := hold(t, saga(steps[:3]...)); !slices.Equal(got, []api.Diag{{Step: 1, Errno: api.ErrUndo, Text: "b"}}) {
			t.Errorf("Check: %v", got)
		}
		if got := bounds.Points(saga(steps[:1]...)); !slices.Equal(got, []int{0}) {
			t.Errorf("Points: %v", got)
		}
	}
	if shownDef(saga(steps...)) != want || after[1] != "a" {
		t.Errorf("written to: %v, %v", steps, after)
	}
}

// made is a definition that bytes tell, its names a few, its numbers at their edges.
func made(b []byte) api.Def {
	few := []string{"a", "b", "c", "d", "", "a b", "\xFF", strings.Repeat("n", 65)}
	numbers := []int{0, 1, 2, 9, 10, 11, -1, 999, 1000, 1001, 9999, 10000, 10001, 100, 999999999, 1000000000, math.MinInt, math.MaxInt}
	next := func(most int) int {
		if len(b) == 0 {
			return 0
		}
		n := int(b[0]) % most
		b = b[1:]
		return n
	}
	d := api.Def{Name: few[next(len(few))]}
	for len(b) > 0 {
		s := api.Step{Name: few[next(len(few))], Action: "do"}
		if next(2) == 1 {
			s.Undo = few[next(len(few))]
		}
		for range next(4) {
			s.After = append(s.After, few[next(len(few))])
		}
		if next(3) == 1 {
			s.Retry = api.Retry{Most: numbers[next(len(numbers))], First: numbers[next(len(numbers))], Factor: numbers[next(len(numbers))]}
			s.Limit = numbers[next(len(numbers))]
		}
		if next(4) == 1 {
			s.Note = api.Node{Kind: 3, Keys: []string{"k"}, Kids: []api.Node{{Kind: 1, Text: few[next(len(few))]}}}
		}
		d.Steps = append(d.Steps, s)
	}
	return d
}

func TestMade(t *testing.T) { // P27.1 to P27.3, E1
	chance := rand.New(rand.NewSource(27))
	right, told, printed := 0, 0, 0
	for range 20000 {
		b := make([]byte, chance.Intn(80))
		few := 1 + chance.Intn(20)
		for i := range b {
			b[i] = byte(chance.Intn(few))
		}
		d := made(b)
		if l := hold(t, d); len(l) == 0 {
			right++
		} else {
			told += len(l)
		}
		if holdText(t, d) {
			printed++
		}
	}
	if right < 100 || told < 1000 || printed < 1000 {
		t.Errorf("%d that are right, %d times something wrong, %d texts", right, told, printed)
	}
}

// holdText holds that of a definition and of its text alike is told, if it may be.
func holdText(t *testing.T, d api.Def) bool { // E1
	t.Helper()
	text, f := canon.Print(d)
	if f.Errno != api.OK {
		return false
	}
	read, f := parse.Def(text)
	if f.Errno != api.OK {
		t.Fatalf("Def(%q): %v", text, f)
	}
	if got, want := bounds.Check(read), wrong(d); !slices.Equal(got, want) {
		t.Fatalf("Check of %q: %v, not %v", text, got, want)
	}
	if got, want := bounds.Points(read), bounds.Points(d); !slices.Equal(got, want) {
		t.Fatalf("Points of %q: %v, not %v", text, got, want)
	}
	return true
}

func TestMeant(t *testing.T) { // E1: what is meant may be told, too: the same is wrong with it
	for _, s := range []api.Step{to("a"), point("a", "b"), numbered(11, 1001, 11, 10001), numbered(0, 1001, 0, 0)} {
		d, told := saga(s), saga(bounds.Real(s))
		if !slices.Equal(bounds.Check(d), bounds.Check(told)) || def.Check(told).Errno != api.OK {
			t.Errorf("Check(%v): %v, not %v", told, bounds.Check(told), bounds.Check(d))
		}
		if !holdText(t, d) || !holdText(t, told) {
			t.Errorf("%v has no text", told)
		}
	}
}

func TestMany(t *testing.T) { // P27.2: as many steps and names as may be, and more
	began := time.Now()
	d := saga()
	for i := range 4000 {
		s := point("s" + strconv.Itoa(i))
		if i%2 == 1 {
			s.Undo = "un"
		}
		for j := i - 1; j >= 0 && len(s.After) < 64; j-- {
			s.After = append(s.After, "s"+strconv.Itoa(j))
		}
		d.Steps = append(d.Steps, s)
	}
	got := bounds.Check(d)
	if len(got) != 2000 {
		t.Fatalf("Check of many: %d", len(got))
	}
	for i, one := range got {
		if one != (api.Diag{Step: 2 * i, Errno: api.ErrUndo, Text: "s" + strconv.Itoa(2*i)}) {
			t.Fatalf("Check of many: %v at %d", one, i)
		}
	}
	if len(bounds.Points(d)) != 2000 || bounds.Steps(d) != 2000 || len(names.Check(d)) != 0 {
		t.Errorf("Points of many: %d", len(bounds.Points(d)))
	}
	if took := time.Since(began); took > 20*time.Second {
		t.Errorf("took %v", took)
	}
}

func FuzzCheck(f *testing.F) { // P1
	f.Add([]byte{}, 0, 0)
	f.Add([]byte("numbers, and what undoes steps"), 11, -1)
	f.Fuzz(func(t *testing.T, b []byte, n, m int) {
		if len(b) > 300 {
			return
		}
		d := made(b)
		hold(t, d)
		holdText(t, d)
		d.Steps = append(d.Steps, numbered(n, m, n, m), numbered(m, n, m, n))
		hold(t, d)
		holdText(t, d)
	})
}
