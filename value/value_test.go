package value_test

import (
	"math"
	"slices"
	"strconv"
	"strings"
	"testing"

	"rescript/api"
	"rescript/schema"
	"rescript/utf"
	"rescript/value"
)

// noVersion is versions that aren't any.
var noVersion = []int{0, -1, 4, 5, 255, 256, 257, math.MinInt, math.MaxInt}

// fault is an error and a place.
func fault(e api.Errno, at int) api.Fault { return api.Fault{Errno: e, At: at} }

// list is so many texts.
func list(n int) []string { return slices.Repeat([]string{"a"}, n) }

// full is a message in which every place has something that may be in any field.
func full(kind uint8) api.Msg {
	return api.Msg{Kind: kind, N: [6]uint64{1, 1, 1, 1, 1, 1}, S: [2]string{"a", "b"}, L: []string{"c", "", "d"}}
}

// sort is what a type's values are kept as.
func sort(typ int) string {
	switch typ {
	case api.U32, api.U64, api.S64, api.Bool, api.F32, api.F64:
		return "number"
	case api.Name, api.Text, api.Source:
		return "text"
	case api.List:
		return "list"
	}
	return ""
}

// has tells whether a place of a sort belongs to a field.
func has(fields []api.Spec, s string, slot int) bool {
	return slices.ContainsFunc(fields, func(x api.Spec) bool { return sort(x.Type) == s && x.Slot == slot })
}

// only is a message without the places that have no field.
func only(m api.Msg, fields []api.Spec) api.Msg {
	out := api.Msg{Kind: m.Kind}
	for _, x := range fields {
		switch sort(x.Type) {
		case "number":
			out.N[x.Slot] = m.N[x.Slot]
		case "text":
			out.S[x.Slot] = m.S[x.Slot]
		case "list":
			out.L = append(out.L, m.L...)
		}
	}
	return out
}

// eachField calls a function with every field of each kind and version.
func eachField(do func(kind uint8, version int, x api.Spec)) {
	for version := 1; version <= api.Versions; version++ {
		for _, kind := range schema.Kinds(version) {
			fields, _ := schema.Of(kind, version)
			for _, x := range fields {
				do(kind, version, x)
			}
		}
	}
}

func TestCheckOfNothing(t *testing.T) { // P9.1: no field needs to have something, of a kind that is known
	for _, version := range append([]int{1, 2, 3}, noVersion...) {
		for kind := range 256 {
			want := api.Fault{}
			if !slices.Contains(schema.Kinds(version), uint8(kind)) {
				want = fault(api.ErrKind, 0)
			}
			if f := value.Check(api.Msg{Kind: uint8(kind)}, version); f != want {
				t.Errorf("Check of %d in version %d, without anything: %v, not %v", kind, version, f, want)
			}
			if f := value.Check(api.Msg{Kind: uint8(kind), L: []string{}}, version); f != want {
				t.Errorf("Check of %d in version %d, with a list of nothing: %v, not %v", kind, version, f, want)
			}
		}
	}
}

func TestExamples(t *testing.T) { // P9.1
	query := api.Msg{Kind: api.Query, N: [6]uint64{5}}
	cancel := api.Msg{Kind: api.Cancel, N: [6]uint64{5}, S: [2]string{"why"}}
	for _, c := range []struct {
		name    string
		m       api.Msg
		version int
		want    api.Fault
	}{
		{"a Query in version 1", query, 1, fault(api.ErrKind, 0)},
		{"a Query in version 2", query, 2, api.Fault{}},
		{"a Query in version 3", query, 3, api.Fault{}},
		{"a Query in version 4", query, 4, fault(api.ErrKind, 0)},
		{"a Cancel with a text in version 1", cancel, 1, fault(api.ErrLeft, 0)},
		{"a Cancel with a text in version 2", cancel, 2, api.Fault{}},
		{"a Cancel with a text in version 3", cancel, 3, api.Fault{}},
		{"a Cancel without a text in version 1", api.Msg{Kind: api.Cancel, N: [6]uint64{5}}, 1, api.Fault{}},
	} {
		if f := value.Check(c.m, c.version); f != c.want {
			t.Errorf("Check of %s: %v, not %v", c.name, f, c.want)
		}
	}
}

func TestCheckOfNumbers(t *testing.T) { // P9.1
	most := map[int]uint64{
		api.U32: 1<<32 - 1, api.F32: 1<<32 - 1, api.Bool: 1,
		api.U64: math.MaxUint64, api.S64: math.MaxUint64, api.F64: math.MaxUint64,
	}
	seen := map[int]bool{}
	eachField(func(kind uint8, version int, x api.Spec) {
		greatest, ok := most[x.Type]
		if !ok {
			return
		}
		seen[x.Type] = true
		for _, n := range []uint64{0, 1, 2, 255, 1<<31 - 1, 1 << 31, 1<<32 - 1, 1 << 32, 1<<32 + 1, math.MaxInt64, 1 << 63, math.MaxUint64} {
			m, want := api.Msg{Kind: kind}, api.Fault{}
			m.N[x.Slot] = n
			if n > greatest {
				want = fault(api.ErrRange, x.Num)
			}
			if f := value.Check(m, version); f != want {
				t.Errorf("Check of %d in version %d with %d in field %d: %v, not %v", kind, version, n, x.Num, f, want)
			}
		}
	})
	if len(seen) != len(most) {
		t.Errorf("types that a field has: %v", seen)
	}
}

func TestCheckOfTexts(t *testing.T) { // P9.1
	most := map[int]int{api.Name: 64, api.Text: 4096, api.Source: 7000}
	seen := map[int]bool{}
	eachField(func(kind uint8, version int, x api.Spec) {
		k, ok := most[x.Type]
		if !ok {
			return
		}
		seen[x.Type] = true
		for _, c := range []struct {
			name, s string
			e       api.Errno
		}{
			{"one byte", "a", api.OK},
			{"a nought", "\x00", api.OK},
			{"the most that may be", strings.Repeat("a", k), api.OK},
			{"the most that may be, of two bytes each", strings.Repeat("\xC3\xA4", k/2), api.OK},
			{"one too many", strings.Repeat("a", k+1), api.ErrLong},
			{"as many runes as bytes may be", strings.Repeat("\xC3\xA4", k), api.ErrLong},
			{"many too many", strings.Repeat("a", 8*k), api.ErrLong},
			{"no text", "ab\xFF", api.ErrUtf},
			{"the most that may be, and no text", strings.Repeat("a", k-1) + "\xC3", api.ErrUtf},
			{"too many, and no text", "\xFF" + strings.Repeat("a", k), api.ErrLong},
			{"no rune's bytes", "\xED\xA0\x80", api.ErrUtf},
		} {
			m := api.Msg{Kind: kind}
			m.S[x.Slot] = c.s
			want := fault(c.e, x.Num)
			if c.e == api.OK {
				want = api.Fault{}
			}
			if f := value.Check(m, version); f != want {
				t.Errorf("Check of %d in version %d with %s in field %d: %v, not %v", kind, version, c.name, x.Num, f, want)
			}
		}
	})
	if len(seen) != len(most) {
		t.Errorf("types that a field has: %v", seen)
	}
}

func TestCheckOfLists(t *testing.T) { // P9.1
	long, seen := strings.Repeat("a", 65), 0
	eachField(func(kind uint8, version int, x api.Spec) {
		if x.Type != api.List {
			return
		}
		seen++
		for _, c := range []struct {
			name string
			l    []string
			e    api.Errno
		}{
			{"nil", nil, api.OK},
			{"no text", []string{}, api.OK},
			{"one text", list(1), api.OK},
			{"empty texts", []string{"", "", ""}, api.OK},
			{"alike texts", list(3), api.OK},
			{"as many as may be", list(64), api.OK},
			{"as many as may be, each as long as may be", slices.Repeat([]string{long[1:]}, 64), api.OK},
			{"one too many", list(65), api.ErrLong},
			{"many too many, all empty", make([]string, 1000), api.ErrLong},
			{"a text too long", []string{"a", long, "b"}, api.ErrLong},
			{"a text that is none", []string{"a", "b", "\xFF"}, api.ErrUtf},
			{"a text that is none ahead of one too long", []string{"\xFF", long}, api.ErrUtf},
			{"a text too long ahead of one that is none", []string{long, "\xFF"}, api.ErrLong},
			{"a text that is none and too long", []string{long + "\xFF"}, api.ErrLong},
			{"the last of as many as may be is none", append(list(63), "\x80"), api.ErrUtf},
			{"one too many, the first one is none", append([]string{"\xFF"}, list(64)...), api.ErrLong},
			{"one too many, and that one is none", append(list(64), "\xFF"), api.ErrLong},
		} {
			want := fault(c.e, x.Num)
			if c.e == api.OK {
				want = api.Fault{}
			}
			if f := value.Check(api.Msg{Kind: kind, L: c.l}, version); f != want {
				t.Errorf("Check of %d in version %d with a list of %s: %v, not %v", kind, version, c.name, f, want)
			}
		}
	})
	if seen == 0 {
		t.Error("no field is a list")
	}
}

func TestCheckOfWhatIsLeft(t *testing.T) { // P9.1
	for version := 1; version <= api.Versions; version++ {
		for _, kind := range schema.Kinds(version) {
			fields, _ := schema.Of(kind, version)
			for _, place := range []struct {
				sort string
				slot int
				m    api.Msg
			}{
				{"number", 0, api.Msg{N: [6]uint64{0: 1}}},
				{"number", 1, api.Msg{N: [6]uint64{1: 1}}},
				{"number", 2, api.Msg{N: [6]uint64{2: 1}}},
				{"number", 3, api.Msg{N: [6]uint64{3: 1}}},
				{"number", 4, api.Msg{N: [6]uint64{4: 1}}},
				{"number", 5, api.Msg{N: [6]uint64{5: 1}}},
				{"text", 0, api.Msg{S: [2]string{0: "a"}}},
				{"text", 1, api.Msg{S: [2]string{1: "a"}}},
				{"list", 0, api.Msg{L: []string{"a"}}},
				{"list", 0, api.Msg{L: []string{""}}},
			} {
				want := fault(api.ErrLeft, 0)
				if has(fields, place.sort, place.slot) {
					want = api.Fault{}
				}
				place.m.Kind = kind
				if f := value.Check(place.m, version); f != want {
					t.Errorf("Check of %d in version %d with the %s %d: %v, not %v", kind, version, place.sort, place.slot, f, want)
				}
			}
		}
	}
}

func TestWhatIsLeftMayBeAnything(t *testing.T) { // P9.1: of a place that belongs to no field nothing else is looked at
	for name, m := range map[string]api.Msg{
		"a great number":   {N: [6]uint64{3: math.MaxUint64}},
		"no text":          {S: [2]string{"", "\xFF"}},
		"a long text":      {S: [2]string{"", strings.Repeat("a", 9000)}},
		"a long list":      {L: list(1000)},
		"a list of none":   {L: []string{"\xFF"}},
		"all of it":        {N: [6]uint64{5: 2}, S: [2]string{"", "\xFF"}, L: list(65)},
		"beside much else": {N: [6]uint64{1, 2}, S: [2]string{"a", "b"}},
	} {
		m.Kind = api.Hello
		if f := value.Check(m, 3); f != fault(api.ErrLeft, 0) {
			t.Errorf("Check of a Hello with %s where it has no field: %v", name, f)
		}
	}
}

func TestTheFirstFaultIsTold(t *testing.T) { // P9.1, P2
	reply := func(change func(m *api.Msg)) api.Msg {
		m := api.Msg{Kind: api.Reply, N: [6]uint64{1, 2, 3, 1, 5, 6}, S: [2]string{"note"}}
		change(&m)
		return m
	}
	for _, c := range []struct {
		name    string
		m       api.Msg
		version int
		want    api.Fault
	}{
		{"nothing", reply(func(m *api.Msg) {}), 3, api.Fault{}},
		{"two numbers", reply(func(m *api.Msg) { m.N[1], m.N[2] = 1<<32, 1<<32 }), 3, fault(api.ErrRange, 2)},
		{"the latter of them", reply(func(m *api.Msg) { m.N[2] = 1 << 32 }), 3, fault(api.ErrRange, 3)},
		{"a Bool ahead of a U32", reply(func(m *api.Msg) { m.N[3], m.N[4] = 2, 1<<32 }), 3, fault(api.ErrRange, 4)},
		{"a U32 ahead of a text", reply(func(m *api.Msg) { m.N[4], m.S[0] = 1<<32, "\xFF" }), 3, fault(api.ErrRange, 5)},
		{"a text ahead of what is left", reply(func(m *api.Msg) { m.S[0], m.S[1], m.L = "\xFF", "a", list(1) }), 3, fault(api.ErrUtf, 6)},
		{"a number ahead of what is left", reply(func(m *api.Msg) { m.N[3], m.S[1] = 2, "a" }), 3, fault(api.ErrRange, 4)},
		{"what is left alone", reply(func(m *api.Msg) { m.S[1] = "a" }), 3, fault(api.ErrLeft, 0)},
		{"a number of a later version", reply(func(m *api.Msg) {}), 2, fault(api.ErrLeft, 0)},
		{"a text of a later version that is none", reply(func(m *api.Msg) { m.S[0] = "\xFF" }), 1, fault(api.ErrLeft, 0)},
		{"a kind of a later version", api.Msg{Kind: api.Query, S: [2]string{"\xFF"}}, 1, fault(api.ErrKind, 0)},
		{"all, of no kind", api.Msg{Kind: 11, N: [6]uint64{1 << 32}, S: [2]string{"\xFF"}, L: list(65)}, 3, fault(api.ErrKind, 0)},
		{"all, of no version", full(api.Status), 4, fault(api.ErrKind, 0)},
		// Its fields' places don't rise as their numbers do.
		{"a name ahead of a number", api.Msg{Kind: api.Command, N: [6]uint64{0, 0, 1 << 32, 2}, S: [2]string{"\xFF"}}, 3, fault(api.ErrUtf, 3)},
		{"a number ahead of a name", api.Msg{Kind: api.Command, N: [6]uint64{0, 1 << 32}, S: [2]string{"\xFF"}}, 3, fault(api.ErrRange, 2)},
		{"a number behind a name", api.Msg{Kind: api.Command, N: [6]uint64{0, 0, 1 << 32, 2}}, 3, fault(api.ErrRange, 4)},
		{"a name ahead of a source", api.Msg{Kind: api.Submit, N: [6]uint64{2}, S: [2]string{strings.Repeat("a", 65), "\xFF"}}, 3, fault(api.ErrLong, 1)},
		{"a source ahead of a Bool", api.Msg{Kind: api.Submit, N: [6]uint64{2}, S: [2]string{"a", "\xFF"}}, 3, fault(api.ErrUtf, 2)},
		{"a Bool behind both", api.Msg{Kind: api.Submit, N: [6]uint64{2}, S: [2]string{"a", "b"}}, 3, fault(api.ErrRange, 3)},
		{"a Bool that isn't a field yet", api.Msg{Kind: api.Submit, N: [6]uint64{2}, S: [2]string{"a", "b"}}, 2, fault(api.ErrLeft, 0)},
		{"a list ahead of numbers", api.Msg{Kind: api.Status, N: [6]uint64{3: 1 << 32}, L: list(65)}, 3, fault(api.ErrLong, 4)},
		{"a F32 behind a list", api.Msg{Kind: api.Status, N: [6]uint64{3: 1 << 32}, L: list(64)}, 3, fault(api.ErrRange, 5)},
		{"a list that isn't a field yet", api.Msg{Kind: api.Status, L: list(65)}, 1, fault(api.ErrLeft, 0)},
	} {
		if f := value.Check(c.m, c.version); f != c.want {
			t.Errorf("Check, %s: %v, not %v", c.name, f, c.want)
		}
	}
}

func TestDefault(t *testing.T) { // P9.2
	for typ := -1; typ <= 12; typ++ {
		for slot := -2; slot <= 7; slot++ {
			x := api.Spec{Num: 1, Type: typ, Slot: slot}
			for name, m := range map[string]api.Msg{
				"nothing": {}, "a list of none": {L: []string{}}, "all": full(1),
				"the number 3": {N: [6]uint64{3: 1}}, "the number 0": {N: [6]uint64{1 << 63}}, "a number of 32 lowest bits that are 0": {N: [6]uint64{1: 1 << 32}},
				"the text 1": {S: [2]string{"", "a"}}, "a nought": {S: [2]string{"\x00"}}, "the list": {L: list(1)}, "an empty text": {L: []string{""}},
			} {
				want := true
				switch {
				case sort(typ) == "number" && slot >= 0 && slot < 6:
					want = m.N[slot] == 0
				case sort(typ) == "text" && slot >= 0 && slot < 2:
					want = m.S[slot] == ""
				case sort(typ) == "list":
					want = len(m.L) == 0
				}
				if got := value.Default(m, x); got != want {
					t.Errorf("Default of %s, type %d, place %d: %v", name, typ, slot, got)
				}
			}
		}
	}
}

func TestDefaultOfNoPlaceOrType(t *testing.T) { // P9.2, P1
	for _, wrong := range []int{math.MinInt, -1, 6, 7, 11, 1 << 8, 1 << 32, math.MaxInt} {
		for typ := api.U32; typ <= api.Source; typ++ {
			if !value.Default(full(1), api.Spec{Num: 1, Type: typ, Slot: wrong}) {
				t.Errorf("Default of type %d, place %d: false", typ, wrong)
			}
		}
		if value.Default(full(1), api.Spec{Num: 1, Type: api.List, Slot: wrong}) {
			t.Errorf("Default of a list, place %d: true", wrong)
		}
		if wrong != 6 && wrong != 7 && !value.Default(full(1), api.Spec{Num: 1, Type: wrong}) {
			t.Errorf("Default of type %d: false", wrong)
		}
	}
	for _, num := range []int{math.MinInt, 0, 99, math.MaxInt} {
		if value.Default(full(99), api.Spec{Num: num, Type: api.F64, Slot: 5}) {
			t.Errorf("Default of number %d: true", num)
		}
	}
}

func TestInt(t *testing.T) { // P9.2
	for n, want := range map[uint64]int64{
		0: 0, 1: 1, 1 << 32: 1 << 32, 1<<63 - 1: math.MaxInt64,
		1 << 63: math.MinInt64, 1<<63 + 1: math.MinInt64 + 1, math.MaxUint64 - 1: -2, math.MaxUint64: -1,
	} {
		for slot := range 6 {
			m := api.Msg{N: [6]uint64{9, 9, 9, 9, 9, 9}}
			m.N[slot] = n
			if got := value.Int(m, slot); got != want {
				t.Errorf("Int of %d in place %d: %d, not %d", n, slot, got, want)
			}
		}
	}
	for _, slot := range []int{math.MinInt, -1, 6, 7, 256, 1 << 32, math.MaxInt} {
		if got := value.Int(full(1), slot); got != 0 {
			t.Errorf("Int of place %d: %d", slot, got)
		}
	}
}

// changed is messages of which each has one thing other than full has, by what that is.
func changed() map[string]api.Msg {
	out := map[string]api.Msg{}
	for i := range 6 {
		m := full(4)
		m.N[i] = 1 << (i * 11 % 64)
		m.N[i]++
		out["the number "+strconv.Itoa(i)] = m
	}
	for i := range 2 {
		m := full(4)
		m.S[i] += "\x00"
		out["the text "+strconv.Itoa(i)] = m
	}
	for name, l := range map[string][]string{
		"no list": nil, "a shorter list": {"c", ""}, "a longer list": {"c", "", "d", ""}, "a list in another order": {"c", "d", ""},
		"a list with another text": {"c", "", "e"}, "a list with another empty text": {"c", "d", "d"}, "one text for two": {"cd", "", ""},
	} {
		m := full(4)
		m.L = l
		out[name] = m
	}
	out["the kind"] = full(5)
	out["no kind"] = full(0)
	return out
}

func TestSame(t *testing.T) { // P9.3
	whole := full(4)
	if !value.Same(whole, full(4)) || !value.Same(whole, whole) || !value.Same(api.Msg{}, api.Msg{}) {
		t.Error("messages that are alike: false")
	}
	if a, b := (api.Msg{L: []string{}}), (api.Msg{}); !value.Same(a, b) || !value.Same(b, a) {
		t.Error("a list that is nil and one that is empty: false")
	}
	if a, b := (api.Msg{L: []string{""}}), (api.Msg{}); value.Same(a, b) || value.Same(b, a) {
		t.Error("a list of an empty text and none: true")
	}
	for name, m := range changed() {
		if value.Same(whole, m) || value.Same(m, whole) || !value.Same(m, m) {
			t.Errorf("messages with another thing, %s: true", name)
		}
	}
	if a, b := (api.Msg{S: [2]string{"ab", "c"}}), (api.Msg{S: [2]string{"a", "bc"}}); value.Same(a, b) {
		t.Error("texts that are cut elsewhere: true")
	}
	if a, b := (api.Msg{S: [2]string{"\xFF"}}), (api.Msg{S: [2]string{"\xEF\xBF\xBD"}}); value.Same(a, b) {
		t.Error("a byte that is no rune's, and the rune that stands for one: true")
	}
}

func TestCopy(t *testing.T) { // P9.3, P3
	for name, m := range changed() {
		if c := value.Copy(m); !value.Same(c, m) {
			t.Errorf("Copy of a message with another thing, %s: %v", name, c)
		}
	}
	for _, m := range []api.Msg{{}, {Kind: 255, L: []string{}}, full(0), full(8)} {
		if c := value.Copy(m); !value.Same(c, m) {
			t.Errorf("Copy: %v, not %v", c, m)
		}
	}
}

// holdOwn holds that a function's answer has a list of its own.
func holdOwn(t *testing.T, name string, do func(api.Msg) api.Msg) {
	t.Helper()
	room := []string{"a", "b", "c", "behind", "it"}
	m := api.Msg{Kind: api.Status, N: [6]uint64{7}, L: room[:3]}
	c, again := do(m), do(m)
	if !value.Same(c, m) {
		t.Errorf("%s: %v", name, c)
	}
	c.L[0] = "other"
	_ = append(c.L, "more", "and", "more")
	if !slices.Equal(room, []string{"a", "b", "c", "behind", "it"}) || again.L[0] != "a" {
		t.Errorf("%s: behind a write to the answer what was handed in is %v, another answer %v", name, room, again)
	}
	room[1] = "changed"
	if !slices.Equal(again.L, []string{"a", "b", "c"}) {
		t.Errorf("%s: behind a write to what was handed in the answer is %v", name, again)
	}
	if behind := again.L[:cap(again.L)][len(again.L):]; slices.Contains(behind, "behind") {
		t.Errorf("%s: what lies behind the list's length is handed out: %v", name, behind)
	}
}

func TestAnswersHaveListsOfTheirOwn(t *testing.T) { // P9.3, P3
	holdOwn(t, "Copy", value.Copy)
	holdOwn(t, "Clean", func(m api.Msg) api.Msg { return value.Clean(m, 2) })
}

func TestClean(t *testing.T) { // P9.3
	for _, version := range append([]int{1, 2, 3}, noVersion...) {
		for kind := range 256 {
			m := full(uint8(kind))
			fields, _ := schema.Of(m.Kind, version)
			want := only(m, fields)
			if c := value.Clean(m, version); !value.Same(c, want) {
				t.Errorf("Clean of %d in version %d: %v, not %v", kind, version, c, want)
			}
			if !value.Same(m, full(uint8(kind))) {
				t.Errorf("Clean of %d in version %d changed what was handed in: %v", kind, version, m)
			}
		}
	}
}

func TestCleanOfSome(t *testing.T) { // P9.3
	whole := api.Msg{N: [6]uint64{1, 2, 3, 4, 5, 6}, S: [2]string{"a", "\xFF"}, L: []string{"b", ""}}
	for _, c := range []struct {
		name    string
		kind    uint8
		version int
		want    api.Msg
	}{
		{"a Hello", api.Hello, 1, api.Msg{N: [6]uint64{1, 2}, S: [2]string{"a"}}},
		{"a HelloAck in version 1", api.HelloAck, 1, api.Msg{N: [6]uint64{1, 2}}},
		{"a HelloAck in version 2", api.HelloAck, 2, api.Msg{N: [6]uint64{1, 2}, S: [2]string{"a"}}},
		{"a Submit", api.Submit, 2, api.Msg{S: [2]string{"a", "\xFF"}}},
		{"a Reply in version 2", api.Reply, 2, api.Msg{N: [6]uint64{1, 2, 3, 4, 5}, S: [2]string{"a"}}},
		{"a Reply in version 3", api.Reply, 3, api.Msg{N: [6]uint64{1, 2, 3, 4, 5, 6}, S: [2]string{"a"}}},
		{"a Query in version 1", api.Query, 1, api.Msg{}},
		{"a Query in version 2", api.Query, 2, api.Msg{N: [6]uint64{1}}},
		{"a Status in version 1", api.Status, 1, api.Msg{N: [6]uint64{1, 2, 3}}},
		{"a Status in version 2", api.Status, 2, api.Msg{N: [6]uint64{1, 2, 3}, L: []string{"b", ""}}},
		{"a Status in version 3", api.Status, 3, api.Msg{N: [6]uint64{1, 2, 3, 4, 5}, L: []string{"b", ""}}},
		{"a Status in version 4", api.Status, 4, api.Msg{}},
		{"no kind", 0, 3, api.Msg{}},
		{"another kind", 11, 3, api.Msg{}},
	} {
		whole.Kind, c.want.Kind = c.kind, c.kind
		if m := value.Clean(whole, c.version); !value.Same(m, c.want) {
			t.Errorf("Clean of %s: %v, not %v", c.name, m, c.want)
		}
	}
}

func TestWhatMayBeMayBeLater(t *testing.T) { // P9.4
	for version := 1; version < api.Versions; version++ {
		for _, kind := range schema.Kinds(version) {
			for _, m := range []api.Msg{{Kind: kind}, value.Clean(full(kind), version)} {
				for later := version; later <= api.Versions; later++ {
					if f := value.Check(m, later); f != (api.Fault{}) {
						t.Errorf("Check of what may be in version %d, in version %d: %v, %v", version, later, f, m)
					}
				}
				if f := value.Check(m, api.Versions+1); f != fault(api.ErrKind, 0) {
					t.Errorf("Check of what may be, in a version that there isn't: %v", f)
				}
			}
		}
	}
}

func TestCheckAndDefaultChangeNothing(t *testing.T) { // P3
	room := []string{"a", "\xFF", "behind"}
	m := api.Msg{Kind: api.Status, N: [6]uint64{1}, L: room[:1]}
	if f := value.Check(m, 3); f != (api.Fault{}) {
		t.Errorf("Check of a list whose end has something behind it: %v", f)
	}
	value.Check(m, 1)
	value.Default(m, api.Spec{Num: 4, Type: api.List})
	value.Same(m, full(1))
	if !slices.Equal(room, []string{"a", "\xFF", "behind"}) || !slices.Equal(m.L, room[:1]) || m.N[0] != 1 {
		t.Errorf("what was handed in is %v, %v", m, room)
	}
}

// told is the chapter's reading of Check.
func told(m api.Msg, version int) api.Fault {
	fields, ok := schema.Of(m.Kind, version)
	if !ok {
		return fault(api.ErrKind, 0)
	}
	for _, x := range fields {
		l, e := m.L, api.OK
		switch sort(x.Type) {
		case "number":
			if n := m.N[x.Slot]; x.Type == api.Bool && n > 1 || (x.Type == api.U32 || x.Type == api.F32) && n >= 1<<32 {
				e = api.ErrRange
			}
			l = nil
		case "text":
			l = []string{m.S[x.Slot]}
		}
		if len(l) > 64 {
			e = api.ErrLong
		}
		for _, s := range l {
			if e == api.OK {
				e = utf.Check(s, schema.Most(x.Type))
			}
		}
		if e != api.OK {
			return fault(e, x.Num)
		}
	}
	if !value.Same(m, only(m, fields)) {
		return fault(api.ErrLeft, 0)
	}
	return api.Fault{}
}

// FuzzCheck holds any message against the chapter's words, and what follows.
func FuzzCheck(f *testing.F) {
	f.Add(uint8(8), 1, uint64(5), uint64(0), uint64(0), uint64(0), uint64(0), uint64(0), "", "", "", 0)
	f.Add(uint8(9), 3, uint64(5), uint64(3), uint64(1), uint64(1<<32), uint64(1<<63), uint64(0), "", "", "a,b", 2)
	f.Add(uint8(6), 2, uint64(5), uint64(1<<32), uint64(1), uint64(2), uint64(0), uint64(0), "a\xFF", "", "", 7)
	f.Add(uint8(3), 3, uint64(1), uint64(0), uint64(0), uint64(0), uint64(0), uint64(0), "name", "source", "", -1)
	f.Fuzz(func(t *testing.T, kind uint8, version int, a, b, c, d, e, g uint64, s, u, l string, slot int) {
		m := api.Msg{Kind: kind, N: [6]uint64{a, b, c, d, e, g}, S: [2]string{s, u}}
		if l != "" {
			m.L = strings.Split(l, ",")
		}
		was := value.Check(m, version)
		if want := told(m, version); was != want {
			t.Fatalf("Check of %v in version %d: %v, not %v", m, version, was, want)
		}
		fields, known := schema.Of(kind, version)
		clean := value.Clean(m, version)
		if !value.Same(clean, only(m, fields)) || !value.Same(value.Copy(m), m) || was.Errno == api.OK && !value.Same(clean, m) {
			t.Fatalf("Clean of %v in version %d: %v", m, version, clean)
		}
		if later := value.Check(m, version+1); known && was.Errno == api.OK && version < 3 && later.Errno != api.OK {
			t.Fatalf("Check of what may be, in the version behind %d: %v", version, later)
		}
		if after := value.Check(clean, version); after.Errno == api.ErrLeft || was.Errno != api.ErrLeft && after != was {
			t.Fatalf("Check of the clean %v in version %d: %v, not %v", clean, version, after, was)
		}
		if n := value.Int(m, slot); slot >= 0 && slot < 6 && uint64(n) != m.N[slot] || (slot < 0 || slot > 5) && n != 0 {
			t.Fatalf("Int of %v in place %d: %d", m, slot, n)
		}
	})
}
