package diag_test

import (
	"fmt"
	"math"
	"math/rand"
	"slices"
	"sort"
	"strconv"
	"strings"
	"testing"

	"rescript/api"
	"rescript/diag"
	"rescript/scalar"
)

// words is the chapter's own row of words, from OK (0) on.
const words = "ok, range, long, form, short, none, twice, kind, order, utf, wire, depth, sum, state, full, version, cycle, empty, name, undo, left"

// wordOf is the word of an error, by the chapter's row.
func wordOf(e api.Errno) string {
	for i, word := range strings.Split(words, ", ") {
		if i == int(e) {
			return word
		}
	}
	return ""
}

// ahead tells whether a text is less than another one: by the first byte that isn't the same, or by its end.
func ahead(a, b string) bool {
	for i := 0; i < len(a) && i < len(b); i++ {
		if a[i] != b[i] {
			return a[i] < b[i]
		}
	}
	return len(a) < len(b)
}

// less is what the chapter's words tell of two.
func less(a, b api.Diag) bool {
	switch {
	case a.Step != b.Step:
		return a.Step < b.Step
	case a.Errno != b.Errno:
		return a.Errno < b.Errno
	}
	return ahead(a.Text, b.Text)
}

// sorted is what the chapter's words tell of a list: again and again the least one of those that are greater than all so far.
func sorted(l []api.Diag) []api.Diag {
	var out []api.Diag
	for {
		var next *api.Diag
		for i := range l {
			if len(out) > 0 && !less(out[len(out)-1], l[i]) {
				continue
			}
			if next == nil || less(l[i], *next) {
				next = &l[i]
			}
		}
		if next == nil {
			return out
		}
		out = append(out, *next)
	}
}

// text is what the chapter's words tell of one.
func text(d api.Diag) string {
	out := "-"
	if d.Step >= 0 {
		out = scalar.Digits(d.Step)
	}
	out += " " + wordOf(d.Errno)
	if d.Text == "" {
		return out
	}
	return out + " " + scalar.Put(d.Text)
}

// some is diags at their edges: all ways to put together a few parts.
func some() []api.Diag {
	var out []api.Diag
	for _, step := range []int{math.MinInt, -2, -1, 0, 1, 9, 10, 999999999, 1000000000, math.MaxInt} {
		for _, e := range []api.Errno{math.MinInt, -1, 0, 1, 9, 10, 20, 21, math.MaxInt} {
			for _, s := range []string{"", "a", "B", "ab", "b", "\n", "\xFF", "\u00E4", "a\x00"} {
				out = append(out, api.Diag{Step: step, Errno: e, Text: s})
			}
		}
	}
	return out
}

func TestLess(t *testing.T) { // P24.1
	for _, c := range []struct {
		a, b api.Diag
		want bool
	}{
		{api.Diag{}, api.Diag{}, false},
		{api.Diag{Step: -1}, api.Diag{}, true},
		{api.Diag{Step: 2}, api.Diag{Step: 10}, true},
		{api.Diag{Step: 10}, api.Diag{Step: 2}, false},
		{api.Diag{Step: 1, Errno: 5, Text: "b"}, api.Diag{Step: 2, Errno: 4, Text: "a"}, true},
		{api.Diag{Step: 2, Errno: 4, Text: "a"}, api.Diag{Step: 1, Errno: 5, Text: "b"}, false},
		{api.Diag{Step: 1, Errno: 4, Text: "b"}, api.Diag{Step: 1, Errno: 5, Text: "a"}, true},
		{api.Diag{Step: 1, Errno: 5, Text: "a"}, api.Diag{Step: 1, Errno: 4, Text: "b"}, false},
		{api.Diag{Step: 1, Errno: 5, Text: "a"}, api.Diag{Step: 1, Errno: 5, Text: "b"}, true},
		{api.Diag{Step: 1, Errno: 5, Text: "b"}, api.Diag{Step: 1, Errno: 5, Text: "a"}, false},
		{api.Diag{Step: 1, Errno: 5, Text: "a"}, api.Diag{Step: 1, Errno: 5, Text: "a"}, false},
		{api.Diag{Text: "a"}, api.Diag{Text: "ab"}, true},
		{api.Diag{Text: "ab"}, api.Diag{Text: "a"}, false},
		{api.Diag{Text: "ab"}, api.Diag{Text: "b"}, true},
		{api.Diag{Text: ""}, api.Diag{Text: "\x00"}, true},
		{api.Diag{Text: "B"}, api.Diag{Text: "a"}, true},
		{api.Diag{Text: "10"}, api.Diag{Text: "9"}, true},
		{api.Diag{Text: "z"}, api.Diag{Text: "\u00E4"}, true},
		{api.Diag{Text: "\u00E4"}, api.Diag{Text: "\xFF"}, true},
		{api.Diag{Step: math.MinInt}, api.Diag{Step: math.MaxInt}, true},
		{api.Diag{Step: math.MaxInt}, api.Diag{Step: math.MinInt}, false},
		{api.Diag{Errno: math.MinInt}, api.Diag{Errno: math.MaxInt}, true},
		{api.Diag{Errno: math.MaxInt}, api.Diag{Errno: math.MinInt}, false},
	} {
		if got := diag.Less(c.a, c.b); got != c.want {
			t.Errorf("Less(%v, %v): %v", c.a, c.b, got)
		}
	}
	all := some()
	for _, a := range all {
		for _, b := range all {
			if got := diag.Less(a, b); got != less(a, b) {
				t.Fatalf("Less(%v, %v): %v", a, b, got)
			}
		}
	}
}

// hold holds what is told of a list against the chapter's words, and what follows.
func hold(t *testing.T, l []api.Diag) {
	t.Helper()
	was := slices.Clone(l)
	got, want := diag.Sort(l), sorted(l)
	if !slices.Equal(got, want) {
		t.Fatalf("Sort(%v): %v, not %v", l, got, want)
	}
	if again := diag.Sort(got); !slices.Equal(again, want) {
		t.Fatalf("Sort(%v): %v", got, again)
	}
	lines := ""
	for _, d := range l {
		if got, want := diag.Text(d), text(d); got != want {
			t.Fatalf("Text(%v): %q, not %q", d, got, want)
		}
		lines += text(d) + "\n"
		holdOf(t, l, d.Step)
	}
	holdOf(t, l, 3)
	if got := diag.Lines(l); got != lines {
		t.Fatalf("Lines(%v): %q, not %q", l, got, lines)
	}
	// What is answered is the caller's.
	for i := range got {
		got[i] = api.Diag{Text: "written"}
	}
	_ = append(got, api.Diag{Text: "written"})
	if !slices.Equal(l, was) {
		t.Fatalf("written to: %v, not %v", l, was)
	}
}

// holdOf holds Of against the chapter's words.
func holdOf(t *testing.T, l []api.Diag, step int) {
	t.Helper()
	was := slices.Clone(l)
	want := slices.DeleteFunc(slices.Clone(l), func(d api.Diag) bool { return d.Step != step })
	got := diag.Of(l, step)
	if !slices.Equal(got, want) {
		t.Fatalf("Of(%v, %d): %v, not %v", l, step, got, want)
	}
	for i := range got {
		got[i] = api.Diag{Text: "written"}
	}
	_ = append(got, api.Diag{Text: "written"})
	if !slices.Equal(l, was) {
		t.Fatalf("written to: %v, not %v", l, was)
	}
}

// holdParts holds that the order of parts that are sorted, and whether they are, matters to nobody.
func holdParts(t *testing.T, a, b []api.Diag) {
	t.Helper()
	want := diag.Sort(slices.Concat(a, b))
	first, other := diag.Sort(a), diag.Sort(b)
	for _, l := range [][]api.Diag{slices.Concat(b, a), slices.Concat(first, other), slices.Concat(other, first), slices.Concat(a, other), slices.Concat(b, a, b)} {
		if got := diag.Sort(l); !slices.Equal(got, want) {
			t.Fatalf("Sort(%v): %v, not %v", l, got, want)
		}
	}
}

func TestSort(t *testing.T) { // P24.1, P24.4
	a, b, c, d := api.Diag{Step: -1, Errno: 17}, api.Diag{Step: 2, Errno: 5, Text: "a"}, api.Diag{Step: 2, Errno: 6, Text: ""}, api.Diag{Step: 2, Errno: 6, Text: "a"}
	for _, l := range []struct{ l, want []api.Diag }{
		{nil, nil},
		{[]api.Diag{}, nil},
		{[]api.Diag{{}}, []api.Diag{{}}},
		{[]api.Diag{{}, {}}, []api.Diag{{}}},
		{[]api.Diag{a}, []api.Diag{a}},
		{[]api.Diag{d, c, b, a}, []api.Diag{a, b, c, d}},
		{[]api.Diag{d, a, d, b, a, c, d}, []api.Diag{a, b, c, d}},
		{[]api.Diag{a, b, c, d}, []api.Diag{a, b, c, d}},
	} {
		if got := diag.Sort(l.l); !slices.Equal(got, l.want) {
			t.Errorf("Sort(%v): %v, not %v", l.l, got, l.want)
		}
		hold(t, l.l)
	}
	// All lists of up to five of four.
	four := []api.Diag{a, b, c, d}
	for size := range 6 {
		for n := range 1 << (2 * size) {
			var l []api.Diag
			for i := range size {
				l = append(l, four[n>>(2*i)&3])
			}
			hold(t, l)
			holdParts(t, l[:size/2], l[size/2:])
		}
	}
	all := some()
	if got := diag.Sort(slices.Concat(all, all)); !slices.Equal(got, sorted(all)) || len(got) != len(all) {
		t.Errorf("Sort of all, twice: %d, not %d", len(got), len(all))
	}
	rand.New(rand.NewSource(25)).Shuffle(len(all), func(i, j int) { all[i], all[j] = all[j], all[i] })
	hold(t, all)
}

func TestSortMany(t *testing.T) { // P24.1: none is lost, and none there twice
	chance := rand.New(rand.NewSource(26))
	var l []api.Diag
	known := map[api.Diag]int{}
	for range 200000 {
		d := api.Diag{Step: chance.Intn(2000) - 1, Errno: api.Errno(chance.Intn(21)), Text: strconv.Itoa(chance.Intn(10))}
		l = append(l, d)
		known[d]++
	}
	got := diag.Sort(l)
	if len(got) != len(known) || !sort.SliceIsSorted(got, func(i, j int) bool { return less(got[i], got[j]) }) {
		t.Errorf("Sort of many: %d, not %d, or not in order", len(got), len(known))
	}
	for i, d := range got {
		if known[d] == 0 || i > 0 && got[i-1] == d {
			t.Fatalf("%v is there by no right", d)
		}
	}
}

func TestOf(t *testing.T) { // P24.1: in their order, and as often as they stand there
	a, b, c := api.Diag{Step: 2, Errno: 6, Text: "b"}, api.Diag{Step: -1, Errno: 17}, api.Diag{Step: 2, Errno: 5, Text: "a"}
	l := []api.Diag{a, b, c, a, b}
	for _, one := range []struct {
		step int
		want []api.Diag
	}{
		{2, []api.Diag{a, c, a}}, {-1, []api.Diag{b, b}}, {0, nil}, {-2, nil}, {math.MaxInt, nil}, {math.MinInt, nil},
	} {
		if got := diag.Of(l, one.step); !slices.Equal(got, one.want) {
			t.Errorf("Of(%v, %d): %v, not %v", l, one.step, got, one.want)
		}
	}
	holdOf(t, nil, 0)
	holdOf(t, []api.Diag{{}}, 0)
	// What lies behind a list's end is neither read nor written to.
	own := l[:3:3]
	for range 2 {
		if got := diag.Of(l[:3], 2); !slices.Equal(got, []api.Diag{a, c}) {
			t.Errorf("Of with more behind: %v", got)
		}
		if got := diag.Sort(l[:2]); !slices.Equal(got, []api.Diag{b, a}) {
			t.Errorf("Sort with more behind: %v", got)
		}
		if got := diag.Lines(l[:2]); got != "2 twice b\n- empty\n" {
			t.Errorf("Lines with more behind: %q", got)
		}
		if !slices.Equal(own, []api.Diag{a, b, c}) || l[3] != a {
			t.Errorf("written to: %v", l)
		}
	}
}

func TestWord(t *testing.T) { // P24.2
	all := strings.Split(words, ", ")
	if len(all) != int(api.ErrLeft)+1 {
		t.Fatalf("%d words", len(all))
	}
	for i, word := range all {
		if got := diag.Word(api.Errno(i)); got != word {
			t.Errorf("Word(%d): %q, not %q", i, got, word)
		}
		if e, ok := diag.Errno(word); e != api.Errno(i) || !ok {
			t.Errorf("Errno(%q): %d, %v", word, e, ok)
		}
		for _, s := range []string{strings.ToUpper(word), word + " ", " " + word, word[1:], word[:len(word)-1], word + "s", word + "\x00", "err" + word, strconv.Itoa(i)} {
			if e, ok := diag.Errno(s); e != 0 || ok {
				t.Errorf("Errno(%q): %d, %v", s, e, ok)
			}
		}
	}
	for _, e := range []api.Errno{-1, 21, 22, 256, 1 << 32, math.MaxInt, math.MinInt, math.MinInt + 5, -20} {
		if got := diag.Word(e); got != "" {
			t.Errorf("Word(%d): %q", e, got)
		}
	}
	for _, s := range []string{"", "-", "OK", "ok, range", "other", "\xFF", "rang\u0435"} {
		if e, ok := diag.Errno(s); e != 0 || ok {
			t.Errorf("Errno(%q): %d, %v", s, e, ok)
		}
	}
}

func TestText(t *testing.T) { // P24.3, the examples
	for _, c := range []struct {
		d    api.Diag
		want string
	}{
		{api.Diag{Step: 2, Errno: api.ErrTwice, Text: "a"}, "2 twice a"},
		{api.Diag{Step: -1, Errno: api.ErrEmpty}, "- empty"},
		{api.Diag{}, "0 ok"},
		{api.Diag{Step: -2, Errno: api.ErrName, Text: "a b"}, `- name "a b"`},
		{api.Diag{Step: math.MinInt, Errno: api.ErrName}, "- name"},
		{api.Diag{Step: 1023, Errno: api.ErrNone, Text: "x\ny"}, `1023 none "x\ny"`},
		{api.Diag{Step: 10, Errno: api.ErrOrder, Text: "-"}, `10 order "-"`},
		{api.Diag{Step: 10, Errno: api.ErrOrder, Text: " "}, `10 order " "`},
		{api.Diag{Step: 7, Errno: api.ErrRange, Text: "most"}, "7 range most"},
		{api.Diag{Step: 7, Errno: api.ErrUtf, Text: "\xFF\x00"}, "7 utf \"\xFF\\x00\""},
		{api.Diag{Step: 999999999, Errno: api.ErrLeft, Text: "\""}, `999999999 left "\""`},
		{api.Diag{Step: 1000000000, Errno: api.ErrUndo, Text: "a"}, " undo a"},
		{api.Diag{Step: 3, Errno: 21, Text: "a"}, "3  a"},
		{api.Diag{Step: 3, Errno: -1}, "3 "},
		{api.Diag{Step: -1, Errno: 99}, "- "},
	} {
		if got := diag.Text(c.d); got != c.want {
			t.Errorf("Text(%v): %q, not %q", c.d, got, c.want)
		}
		hold(t, []api.Diag{c.d, c.d})
	}
	if got := diag.Lines(nil); got != "" {
		t.Errorf("Lines of nothing: %q", got)
	}
	l := []api.Diag{{Step: 2, Errno: 6, Text: "a"}, {Step: -1, Errno: 17}, {Step: 2, Errno: 6, Text: "a"}}
	if got := diag.Lines(l); got != "2 twice a\n- empty\n2 twice a\n" {
		t.Errorf("Lines(%v): %q", l, got)
	}
}

// made is a list that bytes tell.
func made(b []byte) []api.Diag {
	var out []api.Diag
	for len(b) >= 4 {
		size := min(int(b[2])%4, len(b)-3)
		out = append(out, api.Diag{Step: int(b[0])%5 - 2, Errno: api.Errno(b[1])%24 - 1, Text: string(b[3 : 3+size])})
		b = b[3+size:]
	}
	return out
}

func TestMade(t *testing.T) { // P24.1 to P24.4
	chance := rand.New(rand.NewSource(27))
	for range 3000 {
		b := make([]byte, chance.Intn(200))
		for i := range b {
			b[i] = byte(chance.Intn(4 + chance.Intn(252)))
		}
		l := made(b)
		hold(t, l)
		at := chance.Intn(len(l) + 1)
		holdParts(t, l[:at], l[at:])
	}
}

func FuzzSort(f *testing.F) { // P1
	f.Add([]byte{})
	f.Add([]byte("what is wrong, as bytes"))
	f.Fuzz(func(t *testing.T, b []byte) {
		if len(b) > 1000 {
			return
		}
		l := made(b)
		hold(t, l)
		holdParts(t, l[:len(l)/2], l[len(l)/2:])
		s := string(b)
		if e, ok := diag.Errno(s); ok != (wordOf(e) == s) || !ok && e != 0 {
			t.Fatalf("Errno(%q): %d, %v", s, e, ok)
		}
		hold(t, []api.Diag{{Step: len(s), Errno: api.Errno(len(s)), Text: s}, {Text: fmt.Sprintf("%q", s)}})
	})
}
