package names_test

import (
	"math/rand"
	"slices"
	"strconv"
	"strings"
	"testing"
	"time"

	"rescript/api"
	"rescript/canon"
	"rescript/names"
	"rescript/parse"
)

// plain is the bytes of which a name may be made, by layer 18's words.
const plain = "abcdefghijklmnopqrstuvwxyzABCDEFGHIJKLMNOPQRSTUVWXYZ0123456789._/+@-"

// right is what the chapter's words tell of a name.
func right(s string) bool {
	return s != "" && len(s) <= 64 && s[0] != '-' && strings.Trim(s, plain) == "" && !strings.ContainsFunc(s, func(r rune) bool { return !strings.ContainsRune(plain, r) })
}

// standsFor is the first step with a name; -1: there is none.
func standsFor(d api.Def, name string) int {
	for i, s := range d.Steps {
		if s.Name == name {
			return i
		}
	}
	return -1
}

// refs is what the chapter's words tell of a definition's references.
func refs(d api.Def) [][]int {
	var out [][]int
	for i, s := range d.Steps {
		var row []int
		for _, name := range s.After {
			at := standsFor(d, name)
			if at >= 0 && at != i && !slices.Contains(row, at) {
				row = append(row, at)
			}
		}
		out = append(out, row)
	}
	return out
}

// missing is what the chapter's words tell of the names that stand for no step.
func missing(d api.Def) []string {
	var out []string
	for _, s := range d.Steps {
		for _, name := range s.After {
			if standsFor(d, name) < 0 && !slices.Contains(out, name) {
				out = append(out, name)
			}
		}
	}
	return out
}

// wrong is all that the chapter's words tell to be wrong, in no order.
func wrong(d api.Def) []api.Diag {
	var out []api.Diag
	put := func(step int, e api.Errno, name string) {
		out = append(out, api.Diag{Step: step, Errno: e, Text: name})
	}
	if len(d.Steps) == 0 {
		put(-1, 17, "")
	}
	if !right(d.Name) {
		put(-1, 18, d.Name)
	}
	for i, s := range d.Steps {
		for _, name := range []string{s.Name, s.Action} {
			if !right(name) {
				put(i, 18, name)
			}
		}
		if s.Undo != "" && !right(s.Undo) {
			put(i, 18, s.Undo)
		}
		for j := range i {
			if d.Steps[j].Name == s.Name {
				put(i, 6, s.Name)
			}
		}
		for j, name := range s.After {
			if standsFor(d, name) < 0 {
				put(i, 5, name)
			}
			if name == s.Name {
				put(i, 8, name)
			}
			for k := range j {
				if s.After[k] == name {
					put(i, 6, name)
				}
			}
		}
	}
	return out
}

// less tells whether one stands ahead of another one, by layer 24's words.
func less(a, b api.Diag) bool {
	if a.Step != b.Step {
		return a.Step < b.Step
	}
	if a.Errno != b.Errno {
		return a.Errno < b.Errno
	}
	return a.Text < b.Text
}

// holdDiags holds that what is told is all that is wrong, in order, each once.
func holdDiags(t *testing.T, d api.Def, got []api.Diag) {
	t.Helper()
	want := wrong(d)
	for i, one := range got {
		if !slices.Contains(want, one) {
			t.Fatalf("Check(%v): %v isn't wrong", d, one)
		}
		if i > 0 && !less(got[i-1], one) {
			t.Fatalf("Check(%v): %v behind %v", d, one, got[i-1])
		}
	}
	for _, one := range want {
		if !slices.Contains(got, one) {
			t.Fatalf("Check(%v): %v isn't told", d, one)
		}
	}
}

// sameRows tells whether rows are alike.
func sameRows(a, b [][]int) bool {
	return slices.EqualFunc(a, b, func(a, b []int) bool { return slices.Equal(a, b) })
}

// shown is all of a definition that this layer looks at.
func shown(d api.Def) string {
	out := strconv.Quote(d.Name)
	for _, s := range d.Steps {
		out += " " + strconv.Quote(s.Name) + strconv.Quote(s.Action) + strconv.Quote(s.Undo)
		for _, name := range s.After {
			out += "," + strconv.Quote(name)
		}
	}
	return out
}

// hold holds what is told of a definition against the chapter's words, and what follows.
func hold(t *testing.T, d api.Def) {
	t.Helper()
	was := shown(d)
	diags, rows, gone := names.Check(d), names.Refs(d), names.Missing(d)
	holdDiags(t, d, diags)
	if want := refs(d); !sameRows(rows, want) {
		t.Fatalf("Refs(%v): %v, not %v", d, rows, want)
	}
	if want := missing(d); !slices.Equal(gone, want) {
		t.Fatalf("Missing(%v): %q, not %q", d, gone, want)
	}
	if len(diags) == 0 {
		holdClean(t, d, rows)
	}
	holdOwn(t, rows, gone, diags)
	if shown(d) != was {
		t.Fatalf("written to: %v, not %v", d, was)
	}
	holdDiags(t, d, names.Check(d))
	if !sameRows(names.Refs(d), refs(d)) || !slices.Equal(names.Missing(d), missing(d)) {
		t.Fatalf("asked again, other answers of %v", d)
	}
}

// holdClean holds what follows, if nothing is wrong.
func holdClean(t *testing.T, d api.Def, rows [][]int) { // P25.4
	t.Helper()
	for i, s := range d.Steps {
		if len(rows[i]) != len(s.After) {
			t.Fatalf("Refs(%v): %v", d, rows)
		}
		if standsFor(d, s.Name) != i {
			t.Fatalf("nothing is wrong with %v", d)
		}
		for j, name := range s.After {
			if d.Steps[rows[i][j]].Name != name {
				t.Fatalf("Refs(%v): %v", d, rows)
			}
		}
	}
}

// holdOwn holds that what is answered is the caller's: no two lists of it share anything.
func holdOwn(t *testing.T, rows [][]int, gone []string, diags []api.Diag) {
	t.Helper()
	was := make([][]int, len(rows))
	for i, row := range rows {
		was[i] = slices.Clone(row)
	}
	for i, row := range rows {
		_ = append(row, -7)
		for j := range row {
			row[j] = -7
		}
		for j := i + 1; j < len(rows); j++ {
			if !slices.Equal(rows[j], was[j]) {
				t.Fatalf("rows share memory: %v, not %v", rows[j], was[j])
			}
		}
	}
	for i := range gone {
		gone[i] = "written"
	}
	_ = append(gone, "written")
	for i := range diags {
		diags[i] = api.Diag{Text: "written"}
	}
	_ = append(diags, api.Diag{Text: "written"})
}

// step is a step with a name, that comes behind others.
func step(name string, after ...string) api.Step {
	return api.Step{Name: name, Action: "do", After: after}
}

// saga is a definition with steps.
func saga(steps ...api.Step) api.Def { return api.Def{Name: "x", Steps: steps} }

func TestRight(t *testing.T) { // P25.1
	for _, c := range []struct {
		s    string
		want bool
	}{
		{"", false}, {"a", true}, {"-", false}, {"-a", false}, {"a-", true}, {"a-b", true}, {".", true}, {"_", true}, {"/", true}, {"+", true}, {"@", true},
		{"0", true}, {"a b", false}, {" a", false}, {"a ", false}, {"a\n", false}, {"a:", false}, {"a\"", false}, {"\"a\"", false}, {"a#", false}, {"\x00", false},
		{"\u00E4", false}, {"a\u00E4", false}, {"\xFF", false}, {"a\x7F", false}, {"Az09._/+@-", true}, {"a,b", false}, {"[]", false}, {"{}", false},
		{strings.Repeat("a", 63), true}, {strings.Repeat("a", 64), true}, {strings.Repeat("a", 65), false}, {strings.Repeat("a", 4096), false},
		{strings.Repeat("a", 63) + "-", true}, {"-" + strings.Repeat("a", 63), false}, {strings.Repeat("a", 63) + " ", false}, {strings.Repeat("a", 64) + " ", false},
		{strings.Repeat("\u00E4", 32), false},
	} {
		if got := names.Right(c.s); got != c.want {
			t.Errorf("Right(%q): %v", c.s, got)
		}
	}
	for a := range 256 {
		one := string([]byte{byte(a)})
		for _, s := range []string{one, one + "a", "a" + one, "a" + one + "b", one + one} {
			if got := names.Right(s); got != right(s) {
				t.Errorf("Right(%q): %v", s, got)
			}
		}
		for b := range 256 {
			s := string([]byte{byte(a), byte(b)})
			if got := names.Right(s); got != right(s) {
				t.Fatalf("Right(%q): %v", s, got)
			}
		}
	}
	for size := range 130 {
		if got := names.Right(strings.Repeat("z", size)); got != (size >= 1 && size <= 64) {
			t.Errorf("Right of %d bytes: %v", size, got)
		}
	}
}

func TestRefs(t *testing.T) { // P25.2
	for _, c := range []struct {
		d    api.Def
		want [][]int
		gone []string
	}{
		{api.Def{}, nil, nil},
		{saga(), nil, nil},
		{saga(step("a")), [][]int{{}}, nil},
		{saga(step("a"), step("b", "a")), [][]int{{}, {0}}, nil},
		{saga(step("a", "b"), step("b")), [][]int{{1}, {}}, nil},
		{saga(step("a", "b"), step("b", "a")), [][]int{{1}, {0}}, nil},
		{saga(step("a", "a")), [][]int{{}}, nil},
		{saga(step("a", "b")), [][]int{{}}, []string{"b"}},
		{saga(step("a"), step("b"), step("c", "b", "a")), [][]int{{}, {}, {1, 0}}, nil},
		{saga(step("a"), step("b"), step("c", "b", "a", "b", "a")), [][]int{{}, {}, {1, 0}}, nil},
		// Each row has each once, not all of them.
		{saga(step("a"), step("b", "a"), step("c", "a", "b")), [][]int{{}, {0}, {0, 1}}, nil},
		// The first step with a name is meant, though the step has it itself.
		{saga(step("a", "a"), step("a", "a"), step("b", "a")), [][]int{{}, {0}, {0}}, nil},
		{saga(step("b", "a"), step("a"), step("a")), [][]int{{1}, {}, {}}, nil},
		{saga(step("c", "z", "y", "z", "c"), step("b", "y", "x", "c")), [][]int{{}, {0}}, []string{"z", "y", "x"}},
		{saga(step("a", "z", "b", "z"), step("b", "z", "a", "y")), [][]int{{1}, {0}}, []string{"z", "y"}},
		// Names that may not be stand for steps likewise.
		{saga(step(""), step("b", "", "")), [][]int{{}, {0}}, nil},
		{saga(step("a", "")), [][]int{{}}, []string{""}},
		{saga(step("", "")), [][]int{{}}, nil},
		{saga(step("\xFF"), step("a b", "\xFF")), [][]int{{}, {0}}, nil},
		{saga(step("a"), step("A", "a"), step("c", "A", "a ", "a\x00")), [][]int{{}, {0}, {1}}, []string{"a ", "a\x00"}},
		// What is done, or undone, is no name of a step.
		{saga(step("a", "do", "un"), api.Step{Name: "b", Action: "do", Undo: "un"}), [][]int{{}, {}}, []string{"do", "un"}},
		{saga(step("a", "x")), [][]int{{}}, []string{"x"}},
	} {
		if got := names.Refs(c.d); !sameRows(got, c.want) {
			t.Errorf("Refs(%v): %v, not %v", c.d, got, c.want)
		}
		if got := names.Missing(c.d); !slices.Equal(got, c.gone) {
			t.Errorf("Missing(%v): %q, not %q", c.d, got, c.gone)
		}
		hold(t, c.d)
	}
}

func TestCheck(t *testing.T) { // P25.3, the example
	long, longer := strings.Repeat("n", 64), strings.Repeat("n", 65)
	for _, c := range []struct {
		d    api.Def
		want []api.Diag
	}{
		{saga(step("a"), step("a")), []api.Diag{{Step: 1, Errno: api.ErrTwice, Text: "a"}}},
		{saga(step("a")), nil},
		{saga(), []api.Diag{{Step: -1, Errno: api.ErrEmpty}}},
		{api.Def{Name: "a b", Steps: []api.Step{step("a")}}, []api.Diag{{Step: -1, Errno: api.ErrName, Text: "a b"}}},
		{api.Def{}, []api.Diag{{Step: -1, Errno: api.ErrEmpty}, {Step: -1, Errno: api.ErrName}}},
		{api.Def{Name: longer}, []api.Diag{{Step: -1, Errno: api.ErrEmpty}, {Step: -1, Errno: api.ErrName, Text: longer}}},
		{api.Def{Name: long, Text: "\xFF \x00", Steps: []api.Step{{Name: long, Action: long, Undo: long, Limit: -1}}}, nil},
		{saga(api.Step{Name: "-", Action: "b c", Undo: ":"}), []api.Diag{{Errno: api.ErrName, Text: "-"}, {Errno: api.ErrName, Text: ":"}, {Errno: api.ErrName, Text: "b c"}}},
		{saga(api.Step{Name: "", Action: "", Undo: ""}), []api.Diag{{Errno: api.ErrName}}},
		{saga(api.Step{Name: "a", Action: "", Undo: ""}), []api.Diag{{Errno: api.ErrName}}},
		{saga(api.Step{Name: "a", Action: "b", Undo: " "}), []api.Diag{{Errno: api.ErrName, Text: " "}}},
		{saga(api.Step{Name: "a", Action: longer, Undo: longer}), []api.Diag{{Errno: api.ErrName, Text: longer}}},
		{saga(step("a", "b")), []api.Diag{{Errno: api.ErrNone, Text: "b"}}},
		{saga(step("a", "b", "b")), []api.Diag{{Errno: api.ErrNone, Text: "b"}, {Errno: api.ErrTwice, Text: "b"}}},
		{saga(step("a", "a")), []api.Diag{{Errno: api.ErrOrder, Text: "a"}}},
		{saga(step("a", "a", "a", "a")), []api.Diag{{Errno: api.ErrTwice, Text: "a"}, {Errno: api.ErrOrder, Text: "a"}}},
		{saga(step("b"), step("a", "b", "b")), []api.Diag{{Step: 1, Errno: api.ErrTwice, Text: "b"}}},
		{saga(step("b"), step("a", "b", "c", "b", "c")), []api.Diag{{Step: 1, Errno: api.ErrNone, Text: "c"}, {Step: 1, Errno: api.ErrTwice, Text: "b"}, {Step: 1, Errno: api.ErrTwice, Text: "c"}}},
		// A name in After that may not be is told as what it stands for, and no more.
		{saga(step("a", "b c")), []api.Diag{{Errno: api.ErrNone, Text: "b c"}}},
		{saga(step("a", "")), []api.Diag{{Errno: api.ErrNone}}},
		// Two steps of one name, the later one behind it: it is its own, and stands for the other one.
		{saga(step("a"), step("a", "a")), []api.Diag{{Step: 1, Errno: api.ErrTwice, Text: "a"}, {Step: 1, Errno: api.ErrOrder, Text: "a"}}},
		{saga(step("a"), step("a", "a", "a")), []api.Diag{{Step: 1, Errno: api.ErrTwice, Text: "a"}, {Step: 1, Errno: api.ErrOrder, Text: "a"}}},
		{saga(step("a"), step("b"), step("a"), step("a"), step("b")), []api.Diag{{Step: 2, Errno: api.ErrTwice, Text: "a"}, {Step: 3, Errno: api.ErrTwice, Text: "a"}, {Step: 4, Errno: api.ErrTwice, Text: "b"}}},
		{saga(step(""), step("")), []api.Diag{{Errno: api.ErrName}, {Step: 1, Errno: api.ErrTwice}, {Step: 1, Errno: api.ErrName}}},
		// One that waits for another one that waits for it is no matter of names.
		{saga(step("a", "b"), step("b", "a")), nil},
		{saga(step("a"), step("b", "a"), step("c", "a", "b")), nil},
		// The definition's name, and what is done, may be a step's name, too.
		{saga(api.Step{Name: "x", Action: "x", Undo: "x"}, api.Step{Name: "y", Action: "x", Undo: "x"}), nil},
	} {
		if got := names.Check(c.d); !slices.Equal(got, c.want) {
			t.Errorf("Check(%v): %v, not %v", c.d, got, c.want)
		}
		hold(t, c.d)
	}
}

func TestEnds(t *testing.T) { // P3: what lies behind a list's end is neither read nor written to
	steps := []api.Step{step("a", "b"), step("c"), step("b"), step("a")}
	after := []string{"c", "b", "a", "z"}
	steps[1].After = after[:1]
	want := shown(saga(steps...))
	d := saga(steps[:2]...)
	for range 2 {
		if got := names.Refs(d); !sameRows(got, [][]int{{}, {}}) {
			t.Errorf("Refs(%v): %v", d, got)
		}
		if got := names.Missing(d); !slices.Equal(got, []string{"b"}) {
			t.Errorf("Missing(%v): %v", d, got)
		}
		if got := names.Check(d); !slices.Equal(got, []api.Diag{{Errno: api.ErrNone, Text: "b"}, {Step: 1, Errno: api.ErrOrder, Text: "c"}}) {
			t.Errorf("Check(%v): %v", d, got)
		}
		hold(t, d)
		if shown(saga(steps...)) != want || !slices.Equal(after, []string{"c", "b", "a", "z"}) {
			t.Errorf("written to: %v, %v", steps, after)
		}
	}
}

// made is a definition that bytes tell, its names a few.
func made(b []byte) api.Def {
	few := []string{"a", "b", "c", "d", "", "-", "a b", "\xFF", strings.Repeat("n", 64), strings.Repeat("n", 65)}
	next := func() string {
		if len(b) == 0 {
			return "a"
		}
		name := few[int(b[0])%len(few)]
		b = b[1:]
		return name
	}
	d := api.Def{Name: next()}
	for len(b) > 0 {
		size := int(b[0]) % 5
		b = b[1:]
		s := api.Step{Name: next(), Action: next(), Undo: next()}
		for range size {
			s.After = append(s.After, next())
		}
		d.Steps = append(d.Steps, s)
	}
	return d
}

func TestMade(t *testing.T) { // P25.2 to P25.4
	chance := rand.New(rand.NewSource(28))
	clean := 0
	for range 20000 {
		b := make([]byte, chance.Intn(60))
		few := 1 + chance.Intn(10)
		for i := range b {
			b[i] = byte(chance.Intn(few))
		}
		d := made(b)
		hold(t, d)
		if len(names.Check(d)) == 0 {
			clean++
		}
	}
	if clean < 10 {
		t.Errorf("%d clean ones", clean)
	}
}

func TestFew(t *testing.T) { // P25.2 to P25.4: all ways to put together three steps of few names, each behind two at most
	few := []string{"a", "b", "c"}
	var afters [][]string
	afters = append(afters, nil)
	for _, one := range few {
		afters = append(afters, []string{one})
		for _, other := range few {
			afters = append(afters, []string{one, other})
		}
	}
	for _, a := range afters {
		for _, b := range afters {
			for _, c := range afters {
				hold(t, saga(step("a", a...), step("b", b...)))
				hold(t, saga(step("a", a...), step("b", b...), step("a", c...)))
				hold(t, saga(step("a", a...), step("b", b...), step("c", c...)))
			}
		}
	}
}

// deep is a definition of so many steps, each behind as many ahead of it as may be.
func deep(steps, most int) api.Def {
	d := api.Def{Name: "deep"}
	for i := range steps {
		s := api.Step{Name: "s" + strconv.Itoa(i), Action: "do"}
		for j := i - 1; j >= 0 && len(s.After) < most; j-- {
			s.After = append(s.After, "s"+strconv.Itoa(j))
		}
		d.Steps = append(d.Steps, s)
	}
	return d
}

func TestMany(t *testing.T) { // P25.2 to P25.4: as many steps and names as may be, and more
	began := time.Now()
	for _, d := range []api.Def{deep(1024, 64), deep(5000, 10), deep(400, 400)} {
		if l := names.Check(d); len(l) != 0 {
			t.Errorf("Check of many: %v", l)
		}
		if l := names.Missing(d); len(l) != 0 {
			t.Errorf("Missing of many: %v", l)
		}
		rows := names.Refs(d)
		if len(rows) != len(d.Steps) {
			t.Fatalf("Refs of many: %d rows", len(rows))
		}
		for i, row := range rows {
			if len(row) != len(d.Steps[i].After) {
				t.Fatalf("Refs of many: %d at %d", len(row), i)
			}
			for j, at := range row {
				if at != i-1-j {
					t.Fatalf("Refs of many: %v at %d", row, i)
				}
			}
		}
	}
	// Names that stand for none, many times.
	d := saga(step("a"), step("b"))
	for i := range 100000 {
		d.Steps[i%2].After = append(d.Steps[i%2].After, "z"+strconv.Itoa(i/4))
	}
	if got := names.Missing(d); len(got) != 25000 || got[0] != "z0" || got[24999] != "z24999" {
		t.Errorf("Missing of many: %d", len(got))
	}
	if got := names.Check(d); len(got) != 100000 {
		t.Errorf("Check of many: %d", len(got))
	}
	if took := time.Since(began); took > 20*time.Second {
		t.Errorf("took %v", took)
	}
}

func TestTexts(t *testing.T) { // E1: what is wrong with a definition is wrong with its text
	for _, d := range []api.Def{
		saga(), saga(step("a")), saga(step("a"), step("a")), saga(step("a", "b", "a", "b")), deep(20, 3),
		{Name: "a b"}, saga(step("a b", "c\nd")), saga(step("", "")), {Name: "-", Steps: []api.Step{{Name: "-", Action: "\x07", Undo: "#"}}},
	} {
		holdText(t, d)
	}
	chance := rand.New(rand.NewSource(29))
	for range 2000 {
		b := make([]byte, chance.Intn(40))
		for i := range b {
			b[i] = byte(chance.Intn(256))
		}
		holdText(t, made(b))
	}
}

// holdText holds that of a definition and of its text alike is told, if it may be.
func holdText(t *testing.T, d api.Def) {
	t.Helper()
	text, f := canon.Print(d)
	if f.Errno != api.OK {
		return
	}
	read, f := parse.Def(text)
	if f.Errno != api.OK {
		t.Fatalf("Def(%q): %v", text, f)
	}
	if got, want := names.Check(read), names.Check(d); !slices.Equal(got, want) {
		t.Fatalf("Check of %q: %v, not %v", text, got, want)
	}
	if got, want := names.Refs(read), names.Refs(d); !sameRows(got, want) {
		t.Fatalf("Refs of %q: %v, not %v", text, got, want)
	}
	if got, want := names.Missing(read), names.Missing(d); !slices.Equal(got, want) {
		t.Fatalf("Missing of %q: %v, not %v", text, got, want)
	}
}

func FuzzCheck(f *testing.F) { // P1
	f.Add([]byte{})
	f.Add([]byte("names, and what they stand for"))
	f.Fuzz(func(t *testing.T, b []byte) {
		if len(b) > 300 {
			return
		}
		d := made(b)
		hold(t, d)
		holdText(t, d)
		s := string(b)
		if got := names.Right(s); got != right(s) {
			t.Fatalf("Right(%q): %v", s, got)
		}
		l := strings.Split(s, ",")
		hold(t, saga(step(s, l...), step(l[0], l...), step("a", s)))
	})
}
