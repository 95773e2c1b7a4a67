package schema_test

import (
	"math"
	"slices"
	"strconv"
	"strings"
	"testing"

	"rescript/api"
	"rescript/schema"
	"rescript/tag"
)

// chapter is the fields in the document's words: of each kind number, type and place, and behind a + the first version.
const chapter = `Hello: 1 U32 0; 2 U32 1; 3 Name 0.
HelloAck: 1 U32 0; 2 F64 1; 3 Name 0 +2.
Submit: 1 Name 0; 2 Source 1; 3 Bool 0 +3.
Start: 1 Name 0; 2 U64 0; 3 Name 1 +2; 4 List 0 +3.
Command: 1 U64 0; 2 U32 1; 3 Name 0; 4 U32 2; 5 Bool 3; 6 U64 4 +2; 7 List 0 +3.
Reply: 1 U64 0; 2 U32 1; 3 U32 2; 4 Bool 3; 5 U32 4; 6 Text 0 +2; 7 S64 5 +3.
Cancel: 1 U64 0; 2 Text 0 +2.
Query: 1 U64 0 +2.
Status: 1 U64 0; 2 U32 1; 3 U32 2; 4 List 0 +2; 5 F32 3 +3; 6 S64 4 +3.
Error: 1 U32 0; 2 Text 0; 3 U64 1 +2; 4 F64 2 +3.`

// kinds and types are their numbers, by the document's names.
var kinds = map[string]uint8{"Hello": 1, "HelloAck": 2, "Submit": 3, "Start": 4, "Command": 5, "Reply": 6, "Cancel": 7, "Query": 8, "Status": 9, "Error": 10}
var types = map[string]int{"U32": 1, "U64": 2, "S64": 3, "Bool": 4, "F32": 5, "F64": 6, "Name": 7, "Text": 8, "Source": 9, "List": 10}

// noVersion is versions that aren't any.
var noVersion = []int{0, -1, 4, 5, 255, 256, 257, 1 << 20, math.MinInt, math.MaxInt}

// told is the chapter's fields of a kind in a version.
func told(t *testing.T, kind uint8, version int) []api.Spec {
	t.Helper()
	var out []api.Spec
	for line := range strings.SplitSeq(chapter, "\n") {
		name, fields, _ := strings.Cut(strings.TrimSuffix(line, "."), ": ")
		if kinds[name] != kind {
			continue
		}
		for field := range strings.SplitSeq(fields, "; ") {
			words := strings.Fields(field)
			since := 1
			if len(words) == 4 {
				since = number(t, words[3])
			}
			if since <= version {
				out = append(out, api.Spec{Num: number(t, words[0]), Type: types[words[1]], Slot: number(t, words[2])})
			}
		}
	}
	return out
}

// number is a text's number.
func number(t *testing.T, s string) int {
	t.Helper()
	n, err := strconv.Atoi(s)
	if err != nil {
		t.Fatal(err)
	}
	return n
}

func TestOf(t *testing.T) { // P8.1
	for version := 1; version <= 3; version++ {
		for kind := range 256 {
			want := told(t, uint8(kind), version)
			l, ok := schema.Of(uint8(kind), version)
			if !slices.Equal(l, want) || ok != (len(want) > 0) {
				t.Errorf("Of of %d in version %d: %v, %v, not %v", kind, version, l, ok, want)
			}
			if !slices.IsSortedFunc(l, func(a, b api.Spec) int { return a.Num - b.Num }) {
				t.Errorf("Of of %d in version %d doesn't rise: %v", kind, version, l)
			}
		}
	}
}

func TestOfHasSoManyFields(t *testing.T) { // P8.1: holds the reading of the chapter itself
	want := [4][11]int{1: {0, 3, 2, 2, 2, 5, 5, 1, 0, 3, 2}, 2: {0, 3, 3, 2, 3, 6, 6, 2, 1, 4, 3}, 3: {0, 3, 3, 3, 4, 7, 7, 2, 1, 6, 4}}
	for version, row := range want {
		for kind, n := range row {
			if l, ok := schema.Of(uint8(kind), version); len(l) != n || ok != (n > 0) {
				t.Errorf("Of of %d in version %d: %d fields, %v, not %d", kind, version, len(l), ok, n)
			}
		}
	}
}

func TestNoVersion(t *testing.T) { // P8.1
	for _, version := range noVersion {
		for kind := range 256 {
			if l, ok := schema.Of(uint8(kind), version); len(l) != 0 || ok {
				t.Errorf("Of of %d in version %d: %v, %v", kind, version, l, ok)
			}
			for num := -1; num < 9; num++ {
				if s, ok := schema.Find(uint8(kind), version, num); s != (api.Spec{}) || ok {
					t.Errorf("Find of %d in version %d, %d: %v, %v", kind, version, num, s, ok)
				}
			}
		}
		if l := schema.Kinds(version); len(l) != 0 {
			t.Errorf("Kinds of version %d: %v", version, l)
		}
	}
}

func TestKinds(t *testing.T) { // P8.1, the first example
	for version, want := range map[int][]uint8{
		1: {1, 2, 3, 4, 5, 6, 7, 9, 10},
		2: {1, 2, 3, 4, 5, 6, 7, 8, 9, 10},
		3: {1, 2, 3, 4, 5, 6, 7, 8, 9, 10},
	} {
		if l := schema.Kinds(version); !slices.Equal(l, want) {
			t.Errorf("Kinds of version %d: %v, not %v", version, l, want)
		}
	}
}

func TestQueryIsKnownFromVersion2On(t *testing.T) { // P8.1, the first example
	for version, want := range []bool{false, false, true, true, false} {
		l, ok := schema.Of(api.Query, version)
		if ok != want || (len(l) == 1) != want {
			t.Errorf("Of of Query in version %d: %v, %v", version, l, ok)
		}
		if _, ok := schema.Find(api.Query, version, 1); ok != want {
			t.Errorf("Find of Query in version %d: %v", version, ok)
		}
		if slices.Contains(schema.Kinds(version), uint8(api.Query)) != want {
			t.Errorf("Kinds of version %d: %v", version, schema.Kinds(version))
		}
	}
}

func TestFind(t *testing.T) { // P8.1
	nums := []int{math.MinInt, -1, 0, 1, 2, 3, 4, 5, 6, 7, 8, 9, 255, 256, 257, 258, 1<<32 + 1, math.MaxInt}
	for version := 1; version <= 3; version++ {
		for kind := range 256 {
			l := told(t, uint8(kind), version)
			for _, num := range nums {
				var want api.Spec
				at := slices.IndexFunc(l, func(s api.Spec) bool { return s.Num == num })
				if at >= 0 {
					want = l[at]
				}
				if s, ok := schema.Find(uint8(kind), version, num); s != want || ok != (at >= 0) {
					t.Errorf("Find of %d in version %d, %d: %v, %v, not %v", kind, version, num, s, ok, want)
				}
			}
		}
	}
}

func TestFindOfReply(t *testing.T) { // P8.1, the second example
	for version, want := range []api.Spec{{}, {}, {}, {Num: 7, Type: api.S64, Slot: 5}, {}} {
		if s, ok := schema.Find(api.Reply, version, 7); s != want || ok != (want.Num == 7) {
			t.Errorf("Find of Reply in version %d, 7: %v, %v, not %v", version, s, ok, want)
		}
	}
}

func TestWire(t *testing.T) { // P8.2
	for typ, want := range map[int]uint8{
		api.U32:    tag.Varint,
		api.U64:    tag.Varint,
		api.S64:    tag.Varint,
		api.Bool:   tag.Varint,
		api.F32:    tag.Four,
		api.F64:    tag.Eight,
		api.Name:   tag.Bytes,
		api.Text:   tag.Bytes,
		api.Source: tag.Bytes,
		api.List:   tag.Bytes,
	} {
		if wire, ok := schema.Wire(typ); wire != want || !ok {
			t.Errorf("Wire of %d: %d, %v, not %d", typ, wire, ok, want)
		}
	}
}

func TestMost(t *testing.T) { // P8.2
	for typ, want := range map[int]int{
		api.U32:    0,
		api.U64:    0,
		api.S64:    0,
		api.Bool:   0,
		api.F32:    0,
		api.F64:    0,
		api.Name:   64,
		api.Text:   4096,
		api.Source: 7000,
		api.List:   64,
	} {
		if n := schema.Most(typ); n != want {
			t.Errorf("Most of %d: %d, not %d", typ, n, want)
		}
	}
}

func TestNoType(t *testing.T) { // P8.2
	for _, typ := range []int{0, -1, 11, 12, 255, 256, 257, 263, 265, 266, 1 << 16, math.MinInt, math.MaxInt} {
		if wire, ok := schema.Wire(typ); wire != 0 || ok {
			t.Errorf("Wire of %d: %d, %v", typ, wire, ok)
		}
		if n := schema.Most(typ); n != 0 {
			t.Errorf("Most of %d: %d", typ, n)
		}
	}
}

// words is the kinds' words, from the kind 1 on.
var words = []string{"hello", "ack", "submit", "start", "command", "reply", "cancel", "query", "status", "error"}

func TestWord(t *testing.T) { // P8.3
	for kind := range 256 {
		want := ""
		if kind >= 1 && kind <= len(words) {
			want = words[kind-1]
		}
		if word := schema.Word(uint8(kind)); word != want {
			t.Errorf("Word of %d: %q, not %q", kind, word, want)
		}
	}
}

func TestKind(t *testing.T) { // P8.3
	for i, word := range words {
		if kind, ok := schema.Kind(word); kind != uint8(i+1) || !ok {
			t.Errorf("Kind of %q: %d, %v", word, kind, ok)
		}
		for _, other := range []string{strings.ToUpper(word), strings.ToUpper(word[:1]) + word[1:], word + " ", " " + word, word + "s", word[1:], word[:len(word)-1], word + "\x00", word + word} {
			if kind, ok := schema.Kind(other); kind != 0 || ok {
				t.Errorf("Kind of %q: %d, %v", other, kind, ok)
			}
		}
	}
	for _, word := range []string{"", "helloack", "hello ack", "HelloAck", "1", "\xFF", "\x00", strings.Repeat("hello", 10000)} {
		if kind, ok := schema.Kind(word); kind != 0 || ok {
			t.Errorf("Kind of %.20q: %d, %v", word, kind, ok)
		}
	}
}

func TestALaterVersionHasWhatAnEarlierOneHas(t *testing.T) { // P8.4
	for version := 2; version <= 3; version++ {
		for _, kind := range schema.Kinds(version - 1) {
			if !slices.Contains(schema.Kinds(version), kind) {
				t.Errorf("version %d doesn't know %d", version, kind)
			}
			l, _ := schema.Of(kind, version-1)
			for _, was := range l {
				if s, ok := schema.Find(kind, version, was.Num); s != was || !ok {
					t.Errorf("Find of %d in version %d, %d: %v, %v, not %v", kind, version, was.Num, s, ok, was)
				}
			}
		}
	}
}

// sort is what a type's values are kept as.
func sort(typ int) string {
	switch typ {
	case api.Name, api.Text, api.Source:
		return "text"
	case api.List:
		return "list"
	}
	return "number"
}

func TestNoTwoFieldsHaveOneNumberOrOnePlace(t *testing.T) { // P8.4
	room := map[string]int{"number": len(api.Msg{}.N), "text": len(api.Msg{}.S), "list": 1}
	for version := 1; version <= 3; version++ {
		for _, kind := range schema.Kinds(version) {
			nums, places := map[int]bool{}, map[string]map[int]bool{"number": {}, "text": {}, "list": {}}
			l, _ := schema.Of(kind, version)
			for _, s := range l {
				place := sort(s.Type)
				if nums[s.Num] || places[place][s.Slot] {
					t.Errorf("of %d in version %d the field %v has what another one has", kind, version, s)
				}
				nums[s.Num], places[place][s.Slot] = true, true
				if s.Num < 1 || s.Slot < 0 || s.Slot >= room[place] {
					t.Errorf("of %d in version %d the field %v has no place", kind, version, s)
				}
				if _, ok := schema.Wire(s.Type); !ok {
					t.Errorf("of %d in version %d the field %v has no type", kind, version, s)
				}
			}
		}
	}
}

func TestAnswersAreNewMemory(t *testing.T) { // P3
	fields, _ := schema.Of(api.Reply, 3)
	all := schema.Kinds(3)
	for i := range fields {
		fields[i] = api.Spec{Num: 99, Type: 99, Slot: 99}
	}
	for i := range all {
		all[i] = 99
	}
	_ = append(fields[:1], api.Spec{Num: 98})
	if l, ok := schema.Of(api.Reply, 3); !slices.Equal(l, told(t, api.Reply, 3)) || !ok {
		t.Errorf("Of behind a write to what was answered: %v, %v", l, ok)
	}
	if l := schema.Kinds(3); !slices.Equal(l, []uint8{1, 2, 3, 4, 5, 6, 7, 8, 9, 10}) {
		t.Errorf("Kinds behind a write to what was answered: %v", l)
	}
	if s, ok := schema.Find(api.Reply, 3, 7); s != (api.Spec{Num: 7, Type: api.S64, Slot: 5}) || !ok {
		t.Errorf("Find behind a write to what was answered: %v, %v", s, ok)
	}
}

// FuzzSchema holds any numbers and words against the chapter.
func FuzzSchema(f *testing.F) {
	f.Add(uint8(6), 3, 7, 3, "hello")
	f.Add(uint8(0), 4, 0, 11, "")
	f.Fuzz(func(t *testing.T, kind uint8, version, num, typ int, word string) {
		var want []api.Spec
		if version >= 1 && version <= 3 {
			want = told(t, kind, version)
		}
		l, ok := schema.Of(kind, version)
		if !slices.Equal(l, want) || ok != (len(want) > 0) || slices.Contains(schema.Kinds(version), kind) != ok {
			t.Fatalf("Of of %d in version %d: %v, %v, not %v", kind, version, l, ok, want)
		}
		s, ok := schema.Find(kind, version, num)
		if ok != slices.Contains(want, s) || ok && s.Num != num || !ok && s != (api.Spec{}) {
			t.Fatalf("Find of %d in version %d, %d: %v, %v", kind, version, num, s, ok)
		}
		if _, ok := schema.Wire(typ); ok != (typ >= 1 && typ <= 10) || schema.Most(typ) != 0 && !ok {
			t.Fatalf("Wire and Most of %d: %v, %d", typ, ok, schema.Most(typ))
		}
		if k, ok := schema.Kind(word); ok != slices.Contains(words, word) || ok && schema.Word(k) != word || !ok && k != 0 {
			t.Fatalf("Kind of %q: %d, %v", word, k, ok)
		}
	})
}
