package lenient_test

import (
	"bytes"
	"encoding/binary"
	"math"
	"slices"
	"strings"
	"testing"
	"unicode/utf8"

	"rescript/api"
	"rescript/encode"
	"rescript/lenient"
	"rescript/schema"
	"rescript/skip"
	"rescript/value"
)

// noVersion is versions that aren't any.
var noVersion = []int{0, -1, 4, 5, 255, 256, 257, math.MinInt, math.MaxInt}

// fault is an error and a place.
func fault(e api.Errno, at int) api.Fault { return api.Fault{Errno: e, At: at} }

// list is so many texts.
func list(n int) []string { return slices.Repeat([]string{"a"}, n) }

// full is a message in which every place has something that may be in any field.
func full(kind uint8) api.Msg {
	return api.Msg{Kind: kind, N: [6]uint64{1, 1, 1, 1, 1, 1}, S: [2]string{"a", "b"}, L: []string{"c", "", "d"}}
}

// greatest is a message that may be, each of whose fields has as many bytes as it may have.
func greatest(kind uint8, version int) api.Msg {
	m := api.Msg{Kind: kind}
	fields, _ := schema.Of(kind, version)
	for _, x := range fields {
		switch x.Type {
		case api.U32, api.F32:
			m.N[x.Slot] = math.MaxUint32
		case api.Bool:
			m.N[x.Slot] = 1
		case api.U64, api.F64:
			m.N[x.Slot] = math.MaxUint64
		case api.S64:
			m.N[x.Slot] = 1 << 63
		case api.Name, api.Text, api.Source:
			m.S[x.Slot] = strings.Repeat("a", schema.Most(x.Type))
		case api.List:
			m.L = slices.Repeat([]string{strings.Repeat("a", api.MaxName)}, api.MaxList)
		}
	}
	return m
}

// samples is messages that may be, of each kind in a version: without anything, with something in each field alone, in all, and as great as may be.
func samples(version int) []api.Msg {
	var out []api.Msg
	for _, kind := range schema.Kinds(version) {
		clean := value.Clean(full(kind), version)
		out = append(out, api.Msg{Kind: kind}, clean, greatest(kind, version))
		for i, n := range clean.N {
			m := api.Msg{Kind: kind}
			if m.N[i] = n; n != 0 {
				out = append(out, m)
			}
		}
		for i, s := range clean.S {
			m := api.Msg{Kind: kind}
			if m.S[i] = s; s != "" {
				out = append(out, m)
			}
		}
		if len(clean.L) > 0 {
			out = append(out, api.Msg{Kind: kind, L: []string{""}}, api.Msg{Kind: kind, L: []string{"", ""}}, api.Msg{Kind: kind, L: clean.L})
		}
	}
	return out
}

// head is the bytes of a number and a wire type, by the library.
func head(num int, wire uint8) string {
	return string(binary.AppendUvarint(nil, uint64(num)*8+uint64(wire)))
}

// varint, eight, counted and four are fields of each wire type, by the library.
func varint(num int, n uint64) string { return head(num, 0) + string(binary.AppendUvarint(nil, n)) }
func eight(num int, n uint64) string {
	return head(num, 1) + string(binary.LittleEndian.AppendUint64(nil, n))
}
func counted(num int, s string) string {
	return head(num, 2) + string(binary.AppendUvarint(nil, uint64(len(s)))) + s
}
func four(num int, n uint32) string {
	return head(num, 5) + string(binary.LittleEndian.AppendUint32(nil, n))
}

// holdSet holds an answer of Set against what it should be.
func holdSet(t *testing.T, name string, m api.Msg, x api.Spec, f api.Field, want api.Msg, e api.Errno) {
	t.Helper()
	if e != api.OK {
		want = api.Msg{}
	}
	if got, wrong := lenient.Set(m, x, f); !value.Same(got, want) || wrong != e {
		t.Errorf("Set, %s: %.99v, %v, not %.99v, %v", name, got, wrong, want, e)
	}
}

func TestSetOfNumbers(t *testing.T) { // P11.1
	for _, c := range []struct {
		typ     int
		n, want uint64
	}{
		{api.U32, 0, 0},
		{api.U32, 5, 5},
		{api.U32, 1<<32 - 1, 1<<32 - 1},
		{api.U32, 1 << 32, 0},
		{api.U32, 1<<32 + 5, 5},
		{api.U32, math.MaxUint64, 1<<32 - 1},
		{api.U64, 0, 0},
		{api.U64, 1 << 32, 1 << 32},
		{api.U64, math.MaxUint64, math.MaxUint64},
		{api.Bool, 0, 0},
		{api.Bool, 1, 1},
		{api.Bool, 2, 1},
		{api.Bool, 1 << 32, 1},
		{api.Bool, 1 << 63, 1},
		{api.Bool, math.MaxUint64, 1},
		{api.S64, 0, 0},
		{api.S64, 1, math.MaxUint64},
		{api.S64, 2, 1},
		{api.S64, 3, math.MaxUint64 - 1},
		{api.S64, math.MaxUint64 - 1, 1<<63 - 1},
		{api.S64, math.MaxUint64, 1 << 63},
		{api.F32, 0, 0},
		{api.F32, 1<<32 - 1, 1<<32 - 1},
		{api.F32, 1<<32 + 5, 1<<32 + 5}, // N as it is: no field that was read has such a one
		{api.F32, math.MaxUint64, math.MaxUint64},
		{api.F64, 0, 0},
		{api.F64, 1 << 63, 1 << 63},
		{api.F64, math.MaxUint64, math.MaxUint64},
	} {
		for slot := range 6 {
			for _, was := range []api.Msg{{Kind: 3}, full(200)} {
				want := value.Copy(was)
				want.N[slot] = c.want
				// Neither its number, nor its wire type, nor its bytes are looked at.
				f := api.Field{Num: 77, Wire: 9, N: c.n, Bytes: []byte("\xFF"), At: -4}
				holdSet(t, "a number", was, api.Spec{Num: 1, Type: c.typ, Slot: slot}, f, want, api.OK)
			}
		}
	}
}

func TestSetOfTexts(t *testing.T) { // P11.1
	for typ, most := range map[int]int{api.Name: 64, api.Text: 4096, api.Source: 7000} {
		long := strings.Repeat("a", most)
		for _, c := range []struct {
			name, s string
			want    api.Errno
		}{
			{"none", "", api.OK},
			{"a text", "abc", api.OK},
			{"noughts", "\x00\x00", api.OK},
			{"runes", "a\u00E4\u20AC\U0001F600", api.OK},
			{"as long as may be", long, api.OK},
			{"as long as may be, in bytes, not in runes", long[2:] + "\u00E4", api.OK},
			{"one too many", long + "a", api.ErrLong},
			{"one too many, in bytes, not in runes", long[1:] + "\u00E4", api.ErrLong},
			{"no text", "\xC0\x80", api.ErrUtf},
			{"no text at its end", long[1:] + "\xE2", api.ErrUtf},
			{"a half of two", "\xED\xA0\x80", api.ErrUtf},
			{"too long, and no text", long + "\xFF", api.ErrLong},
		} {
			for slot := range 2 {
				for _, was := range []api.Msg{{Kind: 3}, full(200)} {
					want := value.Copy(was)
					want.S[slot] = c.s
					holdSet(t, c.name, was, api.Spec{Num: 1, Type: typ, Slot: slot}, api.Field{Num: 9, Wire: 5, N: 7, Bytes: []byte(c.s)}, want, c.want)
				}
			}
		}
	}
	holdSet(t, "bytes that are nil", full(1), api.Spec{Type: api.Name}, api.Field{}, api.Msg{Kind: 1, N: full(1).N, S: [2]string{"", "b"}, L: full(1).L}, api.OK)
}

func TestSetOfLists(t *testing.T) { // P11.1
	long := strings.Repeat("a", 64)
	for _, c := range []struct {
		name string
		l    []string
		s    string
		want api.Errno
	}{
		{"nil", nil, "a", api.OK},
		{"no text", []string{}, "a", api.OK},
		{"a text ahead", []string{"b"}, "a", api.OK},
		{"an empty text", []string{"b", ""}, "", api.OK},
		{"the same once more", []string{"a", "b"}, "a", api.OK},
		{"a text as long as may be", nil, long, api.OK},
		{"a text that is too long", nil, long + "a", api.ErrLong},
		{"a text that is none", nil, "a\xFF", api.ErrUtf},
		{"both", nil, long + "\xFF", api.ErrLong},
		{"the last one that may be", list(63), "b", api.OK},
		{"the last one that may be, no text", list(63), "\xFF", api.ErrUtf},
		{"one too many", list(64), "b", api.ErrLong},
		{"one too many, without anything", list(64), "", api.ErrLong},
		{"one too many, ahead of what it is", list(64), "\xFF", api.ErrLong},
		{"a list that has too many", list(65), "\xFF", api.ErrLong},
		{"texts ahead that aren't looked at", []string{"\xFF", long + long}, "b", api.OK},
	} {
		for _, slot := range []int{0, 1, 5, 6, -1, math.MinInt, math.MaxInt} {
			was := full(200)
			was.L = c.l
			want := full(200)
			want.L = append(slices.Clone(c.l), c.s)
			holdSet(t, "a list: "+c.name, was, api.Spec{Num: 4, Type: api.List, Slot: slot}, api.Field{Num: 9, Wire: 1, N: 7, Bytes: []byte(c.s)}, want, c.want)
		}
	}
}

func TestSetOfNoTypeOrPlace(t *testing.T) { // P11.1, P1
	was := full(1)
	was.L = list(64)
	f := api.Field{Num: 1, Wire: 2, Bytes: []byte(strings.Repeat("\xFF", 9000))} // ahead of all
	for _, wrong := range []int{math.MinInt, -1, 6, 7, 256, 1 << 32, math.MaxInt} {
		for typ := api.U32; typ <= api.Source; typ++ {
			holdSet(t, "no place", was, api.Spec{Num: 1, Type: typ, Slot: wrong}, f, was, api.ErrKind)
		}
	}
	for slot := 2; slot < 6; slot++ {
		for _, typ := range []int{api.Name, api.Text, api.Source} {
			holdSet(t, "no place of a text", was, api.Spec{Num: 1, Type: typ, Slot: slot}, f, was, api.ErrKind)
		}
	}
	for _, typ := range []int{math.MinInt, -1, 0, 11, 12, 255, 256, 257, 266, 1 << 32, math.MaxInt} {
		for slot := -1; slot < 7; slot++ {
			holdSet(t, "no type", was, api.Spec{Num: 1, Type: typ, Slot: slot}, f, was, api.ErrKind)
		}
	}
}

func TestSetHasAListOfItsOwn(t *testing.T) { // P11.1, P3
	for _, x := range []api.Spec{{Type: api.List}, {Type: api.Name}, {Type: api.U32}} {
		room := []string{"a", "b", "behind", "it"}
		m := api.Msg{Kind: api.Start, L: room[:2]}
		b := []byte("new")
		one, _ := lenient.Set(m, x, api.Field{N: 1, Bytes: b})
		two, _ := lenient.Set(m, x, api.Field{N: 1, Bytes: b})
		was := value.Copy(two)
		one.L[0], one.L[1] = "other", "other"
		_ = append(one.L, "more", "and", "more")
		room[0] = "changed"
		clear(b)
		if !value.Same(two, was) || !slices.Equal(two.L[:2], []string{"a", "b"}) {
			t.Errorf("type %d: behind writes to another answer and what was handed in: %v", x.Type, two)
		}
		if !slices.Equal(room, []string{"changed", "b", "behind", "it"}) {
			t.Errorf("type %d: what was handed in is %v", x.Type, room)
		}
		if behind := two.L[:cap(two.L)]; slices.Contains(behind, "behind") {
			t.Errorf("type %d: what lies behind the list's length is handed out: %v", x.Type, behind)
		}
	}
}

func TestDecode(t *testing.T) { // P11.2
	for _, c := range []struct {
		name    string
		kind    uint8
		version int
		b       string
		want    api.Msg
	}{
		{"nothing", api.Hello, 1, "", api.Msg{}},
		{"the last number counts, the field 15 is passed over", api.Hello, 1, "\x08\x01\x08\x02\x78\x05", api.Msg{N: [6]uint64{2}}},
		{"in another order", api.Hello, 1, "\x10\x03\x08\x01", api.Msg{N: [6]uint64{1, 3}}},
		{"a number of 0", api.Hello, 1, "\x08\x00", api.Msg{}},
		{"a 0 behind a number", api.Hello, 1, "\x08\x05\x08\x00", api.Msg{}},
		{"the last text counts", api.Hello, 1, "\x1A\x01a\x1A\x02bc", api.Msg{S: [2]string{"bc"}}},
		{"an empty text behind a text", api.Hello, 1, "\x1A\x01a\x1A\x00", api.Msg{}},
		{"more bytes than needed", api.Hello, 1, "\x88\x80\x00\x81\x80\x00\x9A\x00\x81\x00a", api.Msg{N: [6]uint64{1}, S: [2]string{"a"}}},
		{"a U32 of more bits", api.Hello, 1, varint(1, 1<<32+7), api.Msg{N: [6]uint64{7}}},
		{"a U32 of 64 bits", api.Hello, 1, varint(1, math.MaxUint64), api.Msg{N: [6]uint64{math.MaxUint32}}},
		{"a Bool above 1", api.Reply, 1, varint(4, 300), api.Msg{N: [6]uint64{3: 1}}},
		{"a Bool whose lowest bits are 0", api.Reply, 1, varint(4, 1<<32), api.Msg{N: [6]uint64{3: 1}}},
		{"the last Bool", api.Reply, 1, varint(4, 2) + varint(4, 0), api.Msg{}},
		{"a S64", api.Reply, 3, varint(7, 1), api.Msg{N: [6]uint64{5: math.MaxUint64}}},
		{"the least S64", api.Reply, 3, varint(7, math.MaxUint64), api.Msg{N: [6]uint64{5: 1 << 63}}},
		{"a F32", api.Status, 3, four(5, math.MaxUint32), api.Msg{N: [6]uint64{3: math.MaxUint32}}},
		{"a F64", api.HelloAck, 1, eight(2, math.MaxUint64), api.Msg{N: [6]uint64{1: math.MaxUint64}}},
		{"lists go on", api.Start, 3, counted(4, "b") + varint(2, 5) + counted(4, "") + counted(4, "a"), api.Msg{N: [6]uint64{5}, L: []string{"b", "", "a"}}},
		{"a list of an empty text", api.Status, 2, counted(4, ""), api.Msg{L: []string{""}}},
		{"a field of a later version", api.Start, 2, counted(4, "b") + varint(2, 5), api.Msg{N: [6]uint64{5}}},
		{"one that may not be, of a later version", api.Cancel, 1, counted(2, "\xFF") + varint(1, 5), api.Msg{N: [6]uint64{5}}},
		{"a S64 of a later version", api.Reply, 2, varint(7, 9) + varint(1, 5), api.Msg{N: [6]uint64{5}}},
		{"other wire types", api.Hello, 1, four(1, 9) + eight(1, 9) + counted(1, "\xFF") + varint(2, 3) + varint(3, 9) + four(3, 9) + eight(3, 9), api.Msg{N: [6]uint64{0, 3}}},
		{"other wire types of Four and Eight", api.Status, 3, eight(5, 9) + varint(5, 9) + counted(5, "a"), api.Msg{}},
		{"a Varint for a F64", api.HelloAck, 3, varint(2, 9) + four(2, 9) + counted(2, "a"), api.Msg{}},
		{"a Varint for a list", api.Start, 3, varint(4, 9) + four(4, 9) + eight(4, 9), api.Msg{}},
		{"another wire type behind it", api.Hello, 1, varint(1, 7) + four(1, 9) + counted(3, "n") + varint(3, 9), api.Msg{N: [6]uint64{7}, S: [2]string{"n"}}},
		{"what another kind has", api.Query, 2, varint(1, 5) + varint(2, 6) + counted(3, "\xFF"), api.Msg{N: [6]uint64{5}}},
		{"great numbers of fields", api.Query, 2, varint(1<<29-1, 6) + varint(1, 5) + counted(1<<28+1, "\xFF"), api.Msg{N: [6]uint64{5}}},
		{"a Command", api.Command, 3, counted(7, "s") + varint(6, 9) + varint(5, 1) + varint(4, 1) + counted(3, "act") + varint(2, 8) + varint(1, 5), api.Msg{N: [6]uint64{5, 8, 1, 1, 9}, S: [2]string{"act"}, L: []string{"s"}}},
		{"a Start, whose number stands behind its name", api.Start, 2, counted(1, "n") + varint(2, 5) + counted(3, "k"), api.Msg{N: [6]uint64{5}, S: [2]string{"n", "k"}}},
	} {
		c.want.Kind = c.kind
		if m, f := lenient.Decode(c.kind, c.version, []byte(c.b)); !value.Same(m, c.want) || f != (api.Fault{}) {
			t.Errorf("Decode of %s: %v, %v, not %v", c.name, m, f, c.want)
		}
	}
}

func TestDecodeTellsAFault(t *testing.T) { // P11.2, P2
	long := strings.Repeat("a", 65)
	payload := counted(9, strings.Repeat("p", api.MaxPayload))
	full := strings.Repeat(counted(4, "a"), 64)
	for _, c := range []struct {
		name    string
		kind    uint8
		version int
		b       string
		want    api.Fault
	}{
		{"no kind", 0, 3, "", fault(api.ErrKind, 0)},
		{"another kind", 11, 3, "", fault(api.ErrKind, 0)},
		{"a kind of a later version", api.Query, 1, varint(1, 5), fault(api.ErrKind, 0)},
		{"no version", api.Hello, 0, "", fault(api.ErrKind, 0)},
		{"a later version", api.Hello, 4, "", fault(api.ErrKind, 0)},
		{"no kind, ahead of all", 11, 3, payload + "\xFF", fault(api.ErrKind, 0)},
		{"one too many", api.Hello, 3, counted(9, strings.Repeat("p", api.MaxPayload-2)), fault(api.ErrLong, 0)},
		{"some too many", api.Hello, 3, payload, fault(api.ErrLong, 0)},
		{"too many, ahead of what can't be read", api.Hello, 3, strings.Repeat("\xFF", api.MaxPayload+1), fault(api.ErrLong, 0)},
		{"too many, ahead of what may not be", api.Hello, 3, counted(3, "\xFF") + payload, fault(api.ErrLong, 0)},
		{"a tag without a value", api.Hello, 3, varint(1, 5) + "\x10", fault(api.ErrShort, 3)},
		{"a tag of ten bytes and more", api.Hello, 3, varint(1, 5) + strings.Repeat("\x80", 12), fault(api.ErrLong, 2)},
		{"a tag of the number 0", api.Hello, 3, varint(1, 5) + "\x00\x05", fault(api.ErrRange, 2)},
		{"another wire type", api.Hello, 3, "\x0B", fault(api.ErrKind, 0)},
		{"a text that ends", api.Hello, 3, varint(1, 5) + "\x1A\x05abcd", fault(api.ErrShort, 3)},
		{"a text longer than any payload", api.Hello, 3, "\x1A\x81\x40", fault(api.ErrLong, 1)},
		{"four bytes that end", api.Status, 3, "\x2D\x01\x02\x03", fault(api.ErrShort, 1)},
		{"an unknown field that ends", api.Hello, 3, varint(1, 5) + "\x7A\x02a", fault(api.ErrShort, 3)},
		{"what can't be read, ahead of what may not be", api.Hello, 3, counted(3, "\xFF") + counted(3, long) + "\x08", fault(api.ErrShort, 3+67+1)},
		{"a name that is too long", api.Hello, 3, varint(1, 5) + counted(3, long), fault(api.ErrLong, 2)},
		{"a name that is no text", api.Hello, 3, varint(1, 5) + varint(9, 9) + counted(3, "\xFF"), fault(api.ErrUtf, 4)},
		{"a name that doesn't count, and is no text", api.Hello, 3, counted(3, "\xFF") + counted(3, "a"), fault(api.ErrUtf, 0)},
		{"the first of several", api.Hello, 3, counted(3, "a") + counted(3, "\xFF") + counted(3, long), fault(api.ErrUtf, 3)},
		{"the first of several, not by number", api.Submit, 3, counted(2, "\xFF") + counted(1, long), fault(api.ErrUtf, 0)},
		{"a text too long", api.Reply, 2, counted(6, strings.Repeat("a", 4097)), fault(api.ErrLong, 0)},
		{"a source too long", api.Submit, 1, counted(1, "a") + counted(2, strings.Repeat("a", 7001)), fault(api.ErrLong, 3)},
		{"a list of too many", api.Start, 3, full + varint(2, 5) + counted(4, ""), fault(api.ErrLong, 64*3+2)},
		{"a list of too many, ahead of what it is", api.Start, 3, full + counted(4, "\xFF"), fault(api.ErrLong, 64*3)},
		{"a text of a list that is none", api.Start, 3, counted(4, "a") + counted(4, "\xFF"), fault(api.ErrUtf, 3)},
		{"a text of a list that is too long", api.Start, 3, counted(4, "a") + counted(4, long), fault(api.ErrLong, 3)},
	} {
		if m, f := lenient.Decode(c.kind, c.version, []byte(c.b)); !value.Same(m, api.Msg{}) || f != c.want {
			t.Errorf("Decode of %s: %.99v, %v, not %v", c.name, m, f, c.want)
		}
		if l, f := lenient.Unknown(c.kind, c.version, []byte(c.b)); len(l) != 0 || f != c.want {
			t.Errorf("Unknown of %s: %.99v, %v, not %v", c.name, l, f, c.want)
		}
	}
}

func TestDecodeAtTheEdges(t *testing.T) { // P11.2
	room := strings.Repeat("p", api.MaxPayload-3)
	if m, f := lenient.Decode(api.Hello, 1, []byte(counted(9, room))); !value.Same(m, api.Msg{Kind: api.Hello}) || f != (api.Fault{}) {
		t.Errorf("Decode of as many bytes as may be: %v, %v", m, f)
	}
	b := []byte(strings.Repeat(varint(1, 7), api.MaxPayload/2))
	if m, f := lenient.Decode(api.Query, 2, b); m.N[0] != 7 || f != (api.Fault{}) {
		t.Errorf("Decode of as many fields as may be: %v, %v", m, f)
	}
	if m, f := lenient.Decode(api.Start, 3, []byte(strings.Repeat(counted(4, ""), 64))); len(m.L) != 64 || f != (api.Fault{}) {
		t.Errorf("Decode of as many texts as may be: %v, %v", m, f)
	}
	for _, version := range append([]int{1, 2, 3}, noVersion...) {
		for kind := range 256 {
			want, wrong := api.Msg{Kind: uint8(kind)}, api.Fault{}
			if !slices.Contains(schema.Kinds(version), uint8(kind)) {
				want, wrong = api.Msg{}, fault(api.ErrKind, 0)
			}
			if m, f := lenient.Decode(uint8(kind), version, nil); !value.Same(m, want) || f != wrong {
				t.Errorf("Decode of nothing as %d in version %d: %v, %v", kind, version, m, f)
			}
			if l, f := lenient.Unknown(uint8(kind), version, nil); len(l) != 0 || f != wrong {
				t.Errorf("Unknown of nothing as %d in version %d: %v, %v", kind, version, l, f)
			}
		}
	}
}

// eachField calls a function with every field of each kind and version.
func eachField(do func(kind uint8, version int, x api.Spec)) {
	for version := 1; version <= api.Versions; version++ {
		for _, kind := range schema.Kinds(version) {
			fields, _ := schema.Of(kind, version)
			for _, x := range fields {
				do(kind, version, x)
			}
		}
	}
}

func TestDecodeOfEachFieldAndWireType(t *testing.T) { // P11.2, P11.3
	eachField(func(kind uint8, version int, x api.Spec) {
		own, _ := schema.Wire(x.Type)
		for wire, b := range map[uint8]string{0: varint(x.Num, 1), 1: eight(x.Num, 1), 2: counted(x.Num, "a"), 5: four(x.Num, 1)} {
			m, f := lenient.Decode(kind, version, []byte(b))
			l, g := lenient.Unknown(kind, version, []byte(b))
			if f != (api.Fault{}) || g != f || value.Default(m, x) != (wire != own) || len(l) == 0 != (wire == own) {
				t.Errorf("kind %d, version %d, field %d, wire type %d: %v, %v, %v, %v", kind, version, x.Num, wire, m, f, l, g)
			}
		}
	})
}

func TestUnknown(t *testing.T) { // P11.3
	for _, c := range []struct {
		name    string
		kind    uint8
		version int
		b       string
		want    []api.Field
	}{
		{"nothing", api.Hello, 1, "", nil},
		{"none", api.Hello, 1, varint(1, 5) + counted(3, "a") + varint(1, 6), nil},
		{"the field 15", api.Hello, 1, "\x08\x01\x08\x02\x78\x05", []api.Field{{Num: 15, N: 5, At: 4}}},
		{"of each wire type, among known ones", api.Hello, 1, counted(3, "n") + four(9, 258) + varint(1, 5) + eight(9, 1<<63) + counted(9, "\xFFa") + varint(2, 6) + varint(9, 300) + counted(8, ""),
			[]api.Field{{Num: 9, Wire: 5, N: 258, At: 3}, {Num: 9, Wire: 1, N: 1 << 63, At: 10}, {Num: 9, Wire: 2, Bytes: []byte("\xFFa"), At: 19}, {Num: 9, N: 300, At: 25}, {Num: 8, Wire: 2, At: 28}}},
		{"known numbers of other wire types", api.Hello, 1, four(1, 9) + varint(1, 8) + counted(2, "a") + varint(3, 7), []api.Field{{Num: 1, Wire: 5, N: 9}, {Num: 2, Wire: 2, Bytes: []byte("a"), At: 7}, {Num: 3, N: 7, At: 10}}},
		{"a later version's", api.Reply, 2, counted(6, "why") + varint(7, 1), []api.Field{{Num: 7, N: 1, At: 5}}},
		{"that version's", api.Reply, 3, counted(6, "why") + varint(7, 1), nil},
		{"an earlier version's", api.Reply, 1, counted(6, "why") + varint(7, 1), []api.Field{{Num: 6, Wire: 2, Bytes: []byte("why")}, {Num: 7, N: 1, At: 5}}},
	} {
		l, f := lenient.Unknown(c.kind, c.version, []byte(c.b))
		if !slices.EqualFunc(l, c.want, alike) || f != (api.Fault{}) {
			t.Errorf("Unknown of %s: %v, %v, not %v", c.name, l, f, c.want)
		}
	}
}

// alike tells whether fields are.
func alike(a, b api.Field) bool {
	return a.Num == b.Num && a.Wire == b.Wire && a.N == b.N && a.At == b.At && bytes.Equal(a.Bytes, b.Bytes)
}

func TestAMessageIsReadAsItWasWritten(t *testing.T) { // P11.4
	for version := 1; version <= api.Versions; version++ {
		for _, m := range samples(version) {
			b, _ := encode.Bytes(m, version)
			got, f := lenient.Decode(m.Kind, version, b)
			if !value.Same(got, m) || f != (api.Fault{}) {
				t.Errorf("Decode in version %d of what was written of %.99v: %.99v, %v", version, m, got, f)
			}
			if l, f := lenient.Unknown(m.Kind, version, b); len(l) != 0 || f != (api.Fault{}) {
				t.Errorf("Unknown in version %d of what was written of %.99v: %v, %v", version, m, l, f)
			}
		}
	}
}

// over is a message behind another: of each number and text the last one that stands in its bytes, and both lists.
func over(a, b api.Msg) api.Msg {
	for i, n := range b.N {
		if n != 0 {
			a.N[i] = n
		}
	}
	for i, s := range b.S {
		if s != "" {
			a.S[i] = s
		}
	}
	a.L = slices.Concat(a.L, b.L)
	return a
}

func TestBytesBehindOthers(t *testing.T) { // P11.4
	for version := 1; version <= api.Versions; version++ {
		for _, kind := range schema.Kinds(version) {
			one := value.Clean(full(kind), version)
			two := value.Clean(api.Msg{Kind: kind, N: [6]uint64{0, 9, 0, 1, 9, 0}, S: [2]string{"", "z"}, L: []string{"y", ""}}, version)
			fields, _ := schema.Of(kind, version)
			for _, x := range fields {
				if x.Type == api.Bool { // an other one than 1 there is none
					two.N[x.Slot] = min(two.N[x.Slot], 1)
				}
			}
			a, f := encode.Bytes(one, version)
			b, g := encode.Bytes(two, version)
			if f != (api.Fault{}) || g != f {
				t.Fatalf("kind %d, version %d: %v, %v", kind, version, f, g)
			}
			for _, c := range []struct{ first, second []byte }{{a, b}, {b, a}, {a, a}, {a, nil}} {
				x, _ := lenient.Decode(kind, version, c.first)
				y, _ := lenient.Decode(kind, version, c.second)
				m, f := lenient.Decode(kind, version, slices.Concat(c.first, c.second))
				if !value.Same(m, over(x, y)) || f != (api.Fault{}) {
					t.Errorf("Decode of % X and % X: %v, %v, not %v", c.first, c.second, m, f, over(x, y))
				}
			}
		}
	}
}

func TestAnswersAreNewMemory(t *testing.T) { // P3
	room := []byte(counted(1, "n") + counted(4, "a") + counted(9, "un") + counted(4, "b") + counted(9, "kn") + "behind it")
	was := bytes.Clone(room)
	b := room[:len(room)-9]
	m, f := lenient.Decode(api.Start, 3, b)
	if want := (api.Msg{Kind: api.Start, S: [2]string{"n"}, L: []string{"a", "b"}}); !value.Same(m, want) || f != (api.Fault{}) {
		t.Fatalf("Decode of bytes whose end has something behind it: %v, %v", m, f)
	}
	l, _ := lenient.Unknown(api.Start, 3, b)
	again, _ := lenient.Unknown(api.Start, 3, b)
	_ = append(l[0].Bytes, "more than there is"...)
	clear(l[0].Bytes)
	if string(l[1].Bytes) != "kn" || string(again[0].Bytes) != "un" || !bytes.Equal(room, was) {
		t.Errorf("behind a write to what was answered: %v, %v, % X", l, again, room)
	}
	clear(room)
	if string(again[0].Bytes) != "un" || string(again[1].Bytes) != "kn" || m.S[0] != "n" || m.L[1] != "b" {
		t.Errorf("behind a write to what was handed in: %v, %v", again, m)
	}
}

// told is the chapter's reading of Decode and Unknown, of bytes that are fields.
func told(kind uint8, version int, l []api.Field) (api.Msg, []api.Field, api.Fault) {
	m := api.Msg{Kind: kind}
	var others []api.Field
	for _, f := range l {
		x, ok := schema.Find(kind, version, f.Num)
		if wire, _ := schema.Wire(x.Type); !ok || wire != f.Wire {
			others = append(others, f)
			continue
		}
		most := map[int]int{api.Name: 64, api.List: 64, api.Text: 4096, api.Source: 7000}[x.Type]
		switch s := string(f.Bytes); {
		case most > 0 && (len(s) > most || x.Type == api.List && len(m.L) == 64):
			return api.Msg{}, nil, fault(api.ErrLong, f.At)
		case most > 0 && !utf8.ValidString(s):
			return api.Msg{}, nil, fault(api.ErrUtf, f.At)
		case x.Type == api.List:
			m.L = append(m.L, s)
		case most > 0:
			m.S[x.Slot] = s
		case x.Type == api.U32:
			m.N[x.Slot] = f.N % (1 << 32)
		case x.Type == api.Bool && f.N != 0:
			m.N[x.Slot] = 1
		case x.Type == api.S64:
			m.N[x.Slot] = f.N/2 ^ -(f.N % 2)
		default:
			m.N[x.Slot] = f.N
		}
	}
	return m, others, api.Fault{}
}

// FuzzDecode holds any bytes against the chapter's words, and what follows.
func FuzzDecode(f *testing.F) {
	f.Add(uint8(1), 1, []byte("\x08\x01\x08\x02\x78\x05"))
	f.Add(uint8(9), 3, []byte("\x2D\x02\x01\x00\x00\x22\x01s\x08\x05\x30\x02\x22\x00\x22\x02\xC3\xA4"))
	f.Add(uint8(6), 3, []byte("\x38\x01\x20\x02\x10\xFF\xFF\xFF\xFF\x7F\x32\x03why\x32\x00"))
	f.Add(uint8(3), 2, []byte("\x0A\x01n\x12\x03s\xFFc\x18\x01"))
	f.Add(uint8(4), 3, []byte(strings.Repeat("\x22\x00", 65)))
	f.Add(uint8(10), 2, []byte("\x08\x0D\x12\x05state\x21\x00\x00\x00\x00\x00\x00\x00\x80\x1D\x01\x02\x03\x04\x18\x09"))
	f.Fuzz(func(t *testing.T, kind uint8, version int, b []byte) {
		m, wrong := lenient.Decode(kind, version, b)
		others, again := lenient.Unknown(kind, version, b)
		l, broken := skip.Fields(b)
		want, left, none := told(kind, version, l)
		switch _, known := schema.Of(kind, version); {
		case !known:
			want, left, none = api.Msg{}, nil, fault(api.ErrKind, 0)
		case len(b) > api.MaxPayload:
			want, left, none = api.Msg{}, nil, fault(api.ErrLong, 0)
		case broken.Errno != api.OK:
			want, left, none = api.Msg{}, nil, broken
		}
		if !value.Same(m, want) || wrong != none {
			t.Fatalf("Decode of % X as %d in version %d: %v, %v, not %v, %v", b, kind, version, m, wrong, want, none)
		}
		if !slices.EqualFunc(others, left, alike) || again != none {
			t.Fatalf("Unknown of % X as %d in version %d: %v, %v, not %v, %v", b, kind, version, others, again, left, none)
		}
		if wrong.Errno != api.OK {
			return
		}
		own, may := encode.Bytes(m, version)
		back, g := lenient.Decode(kind, version, own)
		if may != (api.Fault{}) || value.Check(m, version) != may || !value.Same(back, m) || g != (api.Fault{}) {
			t.Fatalf("what was read of % X as %d in version %d: %v, %v; its own bytes % X, read as %v, %v", b, kind, version, m, may, own, back, g)
		}
	})
}
