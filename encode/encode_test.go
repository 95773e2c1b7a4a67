package encode_test

import (
	"bytes"
	"encoding/binary"
	"math"
	"slices"
	"strings"
	"testing"

	"rescript/api"
	"rescript/encode"
	"rescript/schema"
	"rescript/skip"
	"rescript/tag"
	"rescript/value"
	"rescript/varint"
)

// full is a message in which every place has something that may be in any field.
func full(kind uint8) api.Msg {
	return api.Msg{Kind: kind, N: [6]uint64{1, 1, 1, 1, 1, 1}, S: [2]string{"a", "b"}, L: []string{"c", "", "d"}}
}

// greatest is a message that may be, each of whose fields has as many bytes as it may have.
func greatest(kind uint8, version int) api.Msg {
	m := api.Msg{Kind: kind}
	fields, _ := schema.Of(kind, version)
	for _, x := range fields {
		switch x.Type {
		case api.U32, api.F32:
			m.N[x.Slot] = math.MaxUint32
		case api.Bool:
			m.N[x.Slot] = 1
		case api.U64, api.F64:
			m.N[x.Slot] = math.MaxUint64
		case api.S64:
			m.N[x.Slot] = 1 << 63
		case api.Name, api.Text, api.Source:
			m.S[x.Slot] = strings.Repeat("a", schema.Most(x.Type))
		case api.List:
			m.L = slices.Repeat([]string{strings.Repeat("a", api.MaxName)}, api.MaxList)
		}
	}
	return m
}

// head is the bytes of a number and a wire type, and counted is a text and its length ahead, by the library.
func head(num int, wire uint64) []byte { return binary.AppendUvarint(nil, uint64(num)*8+wire) }
func counted(s string) []byte          { return append(binary.AppendUvarint(nil, uint64(len(s))), s...) }

// told is the chapter's reading of a field's bytes, of a place that there is and a number that may be.
func told(m api.Msg, x api.Spec) []byte {
	l := m.L
	switch x.Type {
	case api.U32, api.U64, api.Bool:
		if n := m.N[x.Slot]; n != 0 {
			return binary.AppendUvarint(head(x.Num, 0), n)
		}
		return nil
	case api.S64:
		if n := m.N[x.Slot]; n != 0 {
			return binary.AppendVarint(head(x.Num, 0), int64(n))
		}
		return nil
	case api.F32:
		if n := m.N[x.Slot]; n != 0 {
			return binary.LittleEndian.AppendUint32(head(x.Num, 5), uint32(n))
		}
		return nil
	case api.F64:
		if n := m.N[x.Slot]; n != 0 {
			return binary.LittleEndian.AppendUint64(head(x.Num, 1), n)
		}
		return nil
	case api.Name, api.Text, api.Source:
		l = []string{m.S[x.Slot]}
		if l[0] == "" {
			return nil
		}
	}
	var out []byte
	for _, s := range l {
		out = append(append(out, head(x.Num, 2)...), counted(s)...)
	}
	return out
}

// whole is the chapter's reading of a message's bytes.
func whole(m api.Msg, version int) []byte {
	var out []byte
	fields, _ := schema.Of(m.Kind, version)
	for _, x := range fields {
		out = append(out, told(m, x)...)
	}
	return out
}

// back is the message of which these are the bytes.
func back(t *testing.T, kind uint8, version int, b []byte) api.Msg {
	t.Helper()
	m := api.Msg{Kind: kind}
	l, f := skip.Fields(b)
	if f != (api.Fault{}) {
		t.Fatalf("Fields of % X: %v", b, f)
	}
	for _, y := range l {
		x, _ := schema.Find(kind, version, y.Num)
		wire, ok := schema.Wire(x.Type)
		if !ok || wire != y.Wire {
			t.Fatalf("of kind %d in version %d the field %v", kind, version, y)
		}
		switch {
		case x.Type == api.List:
			m.L = append(m.L, string(y.Bytes))
		case wire == tag.Bytes:
			m.S[x.Slot] = string(y.Bytes)
		case x.Type == api.S64:
			m.N[x.Slot] = uint64(varint.Zag(y.N))
		default:
			m.N[x.Slot] = y.N
		}
	}
	return m
}

func TestFieldOfNumbers(t *testing.T) { // P10.1
	for _, c := range []struct {
		typ  int
		n    uint64
		want string
	}{
		{api.U32, 0, ""},
		{api.U32, 1, "\x08\x01"},
		{api.U32, 300, "\x08\xAC\x02"},
		{api.U32, 1<<32 - 1, "\x08\xFF\xFF\xFF\xFF\x0F"},
		{api.U32, 1 << 32, "\x08\x80\x80\x80\x80\x10"},
		{api.U64, 0, ""},
		{api.U64, 127, "\x08\x7F"},
		{api.U64, 128, "\x08\x80\x01"},
		{api.U64, math.MaxUint64, "\x08\xFF\xFF\xFF\xFF\xFF\xFF\xFF\xFF\xFF\x01"},
		{api.Bool, 0, ""},
		{api.Bool, 1, "\x08\x01"},
		{api.Bool, 2, "\x08\x02"},
		{api.Bool, 1 << 32, "\x08\x80\x80\x80\x80\x10"},
		{api.S64, 0, ""},
		{api.S64, 1, "\x08\x02"},
		{api.S64, math.MaxUint64, "\x08\x01"},
		{api.S64, math.MaxUint64 - 1, "\x08\x03"},
		{api.S64, 64, "\x08\x80\x01"},
		{api.S64, 1<<63 - 1, "\x08\xFE\xFF\xFF\xFF\xFF\xFF\xFF\xFF\xFF\x01"},
		{api.S64, 1 << 63, "\x08\xFF\xFF\xFF\xFF\xFF\xFF\xFF\xFF\xFF\x01"},
		{api.F32, 0, ""},
		{api.F32, 258, "\x0D\x02\x01\x00\x00"},
		{api.F32, 1<<32 - 1, "\x0D\xFF\xFF\xFF\xFF"},
		{api.F32, 1 << 32, "\x0D\x00\x00\x00\x00"},
		{api.F32, 0x123456789ABCDEF0, "\x0D\xF0\xDE\xBC\x9A"},
		{api.F64, 0, ""},
		{api.F64, 258, "\x09\x02\x01\x00\x00\x00\x00\x00\x00"},
		{api.F64, 1 << 63, "\x09\x00\x00\x00\x00\x00\x00\x00\x80"},
		{api.F64, math.MaxUint64, "\x09\xFF\xFF\xFF\xFF\xFF\xFF\xFF\xFF"},
	} {
		for slot := range 6 {
			var m api.Msg
			m.N[slot] = c.n
			if b := encode.Field(m, api.Spec{Num: 1, Type: c.typ, Slot: slot}); string(b) != c.want {
				t.Errorf("Field of type %d, %d in place %d: % X, not % X", c.typ, c.n, slot, b, c.want)
			}
			if b := encode.Field(m, api.Spec{Num: 1, Type: c.typ, Slot: (slot + 1) % 6}); len(b) != 0 {
				t.Errorf("Field of type %d, where nothing is: % X", c.typ, b)
			}
		}
	}
}

func TestFieldOfTexts(t *testing.T) { // P10.1
	long := strings.Repeat("p", api.MaxPayload)
	for _, typ := range []int{api.Name, api.Text, api.Source} {
		for _, c := range []struct{ name, s, want string }{
			{"none", "", ""},
			{"a text", "abc", "\x12\x03abc"},
			{"a nought", "\x00", "\x12\x01\x00"},
			{"no text", "\xFF\xFE", "\x12\x02\xFF\xFE"},
			{"200 bytes", long[:200], "\x12\xC8\x01" + long[:200]},
			{"the most that layer 6 puts", long, "\x12\x80\x40" + long},
			{"one too many", long + "p", ""},
		} {
			for slot := range 2 {
				var m api.Msg
				m.S[slot] = c.s
				if b := encode.Field(m, api.Spec{Num: 2, Type: typ, Slot: slot}); string(b) != c.want {
					t.Errorf("Field of type %d, %s: %d bytes, %.9X, not %.9X", typ, c.name, len(b), b, c.want)
				}
				if b := encode.Field(m, api.Spec{Num: 2, Type: typ, Slot: 1 - slot}); len(b) != 0 {
					t.Errorf("Field of type %d, where nothing is: %.9X", typ, b)
				}
			}
		}
	}
}

func TestFieldOfLists(t *testing.T) { // P10.1
	for _, slot := range []int{0, 1, 5, 6, -1, math.MinInt, math.MaxInt} {
		for _, c := range []struct {
			name string
			l    []string
			want string
		}{
			{"nil", nil, ""},
			{"no text", []string{}, ""},
			{"one text", []string{"a"}, "\x22\x01a"},
			{"an empty text", []string{""}, "\x22\x00"},
			{"texts in order", []string{"b", "", "\xFFa", "b"}, "\x22\x01b\x22\x00\x22\x02\xFFa\x22\x01b"},
			{"too many texts", make([]string, 100), strings.Repeat("\x22\x00", 100)},
		} {
			if b := encode.Field(api.Msg{L: c.l}, api.Spec{Num: 4, Type: api.List, Slot: slot}); string(b) != c.want {
				t.Errorf("Field of a list of %s, place %d: % X, not % X", c.name, slot, b, c.want)
			}
		}
	}
}

func TestFieldOfNoPlace(t *testing.T) { // P10.1, P1
	for _, wrong := range []int{math.MinInt, -1, 6, 7, 256, 1 << 32, math.MaxInt} {
		for typ := api.U32; typ <= api.Source; typ++ {
			if b := encode.Field(full(1), api.Spec{Num: 1, Type: typ, Slot: wrong}); len(b) != 0 {
				t.Errorf("Field of type %d, place %d: % X", typ, wrong, b)
			}
		}
	}
	for slot := 2; slot < 6; slot++ {
		for _, typ := range []int{api.Name, api.Text, api.Source} {
			if b := encode.Field(full(1), api.Spec{Num: 1, Type: typ, Slot: slot}); len(b) != 0 {
				t.Errorf("Field of type %d, place %d: % X", typ, slot, b)
			}
		}
	}
}

func TestFieldOfNoType(t *testing.T) { // P10.1, P1
	for _, typ := range []int{math.MinInt, -1, 0, 11, 12, 255, 256, 257, 266, 1 << 32, math.MaxInt} {
		for slot := -1; slot < 7; slot++ {
			if b := encode.Field(full(1), api.Spec{Num: 1, Type: typ, Slot: slot}); len(b) != 0 {
				t.Errorf("Field of type %d, place %d: % X", typ, slot, b)
			}
		}
	}
}

func TestFieldOfEachNumber(t *testing.T) { // P10.1
	for typ := api.U32; typ <= api.List; typ++ {
		for _, num := range []int{math.MinInt, -1, 0, 1 << 29, 1<<29 + 1, 1 << 32, 1<<32 + 1, math.MaxInt} {
			if b := encode.Field(full(1), api.Spec{Num: num, Type: typ}); len(b) != 0 {
				t.Errorf("Field of type %d, number %d: % X", typ, num, b)
			}
		}
		for _, num := range []int{1, 2, 15, 16, 2047, 2048, 1<<29 - 1} {
			x := api.Spec{Num: num, Type: typ, Slot: 1}
			if b := encode.Field(full(1), x); len(b) == 0 || !bytes.Equal(b, told(full(1), x)) {
				t.Errorf("Field of type %d, number %d: % X, not % X", typ, num, b, told(full(1), x))
			}
		}
	}
}

func TestBytes(t *testing.T) { // P10.2
	for _, c := range []struct {
		name    string
		m       api.Msg
		version int
		want    string
	}{
		{"a Hello", api.Msg{Kind: api.Hello, N: [6]uint64{1, 3}}, 1, "\x08\x01\x10\x03"},
		{"a Hello with a name", api.Msg{Kind: api.Hello, N: [6]uint64{1, 3}, S: [2]string{"gate"}}, 3, "\x08\x01\x10\x03\x1A\x04gate"},
		{"a Query with nothing", api.Msg{Kind: api.Query}, 2, ""},
		{"a Query", api.Msg{Kind: api.Query, N: [6]uint64{300}}, 2, "\x08\xAC\x02"},
		{"a HelloAck", api.Msg{Kind: api.HelloAck, N: [6]uint64{3, 1}, S: [2]string{"gate"}}, 2, "\x08\x03\x11\x01\x00\x00\x00\x00\x00\x00\x00\x1A\x04gate"},
		{"a Submit", api.Msg{Kind: api.Submit, N: [6]uint64{1}, S: [2]string{"n", "src"}}, 3, "\x0A\x01n\x12\x03src\x18\x01"},
		{"a Start, whose number stands behind its name", api.Msg{Kind: api.Start, N: [6]uint64{5}, S: [2]string{"n", "k"}, L: []string{"x", "", "y"}}, 3, "\x0A\x01n\x10\x05\x1A\x01k\x22\x01x\x22\x00\x22\x01y"},
		{"a Command, whose name stands among numbers", api.Msg{Kind: api.Command, N: [6]uint64{5, 0, 1, 1, 9}, S: [2]string{"act"}, L: []string{"s"}}, 3, "\x08\x05\x1A\x03act\x20\x01\x28\x01\x30\x09\x3A\x01s"},
		{"a Reply", api.Msg{Kind: api.Reply, N: [6]uint64{5, 1, 1, 1, 2, math.MaxUint64}, S: [2]string{"why"}}, 3, "\x08\x05\x10\x01\x18\x01\x20\x01\x28\x02\x32\x03why\x38\x01"},
		{"a Cancel", api.Msg{Kind: api.Cancel, N: [6]uint64{5}, S: [2]string{"why"}}, 2, "\x08\x05\x12\x03why"},
		{"a Status", api.Msg{Kind: api.Status, N: [6]uint64{5, 3, 1, 258, 1}, L: []string{"s"}}, 3, "\x08\x05\x10\x03\x18\x01\x22\x01s\x2D\x02\x01\x00\x00\x30\x02"},
		{"a Status in version 1", api.Msg{Kind: api.Status, N: [6]uint64{5, 3, 1}}, 1, "\x08\x05\x10\x03\x18\x01"},
		{"an Error", api.Msg{Kind: api.Error, N: [6]uint64{13, 5, 258}, S: [2]string{"state"}}, 3, "\x08\x0D\x12\x05state\x18\x05\x21\x02\x01\x00\x00\x00\x00\x00\x00"},
	} {
		b, f := encode.Bytes(c.m, c.version)
		if string(b) != c.want || f != (api.Fault{}) {
			t.Errorf("Bytes of %s: % X, %v, not % X", c.name, b, f, c.want)
		}
		if n := encode.Size(c.m, c.version); n != len(c.want) {
			t.Errorf("Size of %s: %d, not %d", c.name, n, len(c.want))
		}
	}
}

// samples is messages that may be, of each kind in a version: without anything, with something in each field alone, in all, and as great as may be.
func samples(version int) []api.Msg {
	var out []api.Msg
	for _, kind := range schema.Kinds(version) {
		clean := value.Clean(full(kind), version)
		out = append(out, api.Msg{Kind: kind}, clean, greatest(kind, version))
		for i, n := range clean.N {
			m := api.Msg{Kind: kind}
			if m.N[i] = n; n != 0 {
				out = append(out, m)
			}
		}
		for i, s := range clean.S {
			m := api.Msg{Kind: kind}
			if m.S[i] = s; s != "" {
				out = append(out, m)
			}
		}
		if len(clean.L) > 0 {
			out = append(out, api.Msg{Kind: kind, L: []string{""}}, api.Msg{Kind: kind, L: []string{"", ""}}, api.Msg{Kind: kind, L: clean.L})
		}
	}
	return out
}

func TestBytesOfEachKind(t *testing.T) { // P10.2, P10.3
	for version := 1; version <= api.Versions; version++ {
		for _, m := range samples(version) {
			b, f := encode.Bytes(m, version)
			if !bytes.Equal(b, whole(m, version)) || f != (api.Fault{}) || encode.Size(m, version) != len(b) {
				t.Errorf("Bytes of %v in version %d: % X, %v, size %d, not % X", m, version, b, f, encode.Size(m, version), whole(m, version))
			}
			if again := back(t, m.Kind, version, b); !value.Same(again, m) {
				t.Errorf("% X are the bytes of %v, not %v", b, again, m)
			}
		}
	}
}

func TestBytesAreThoseOfFields(t *testing.T) { // P10.1, P10.2
	for version := 1; version <= api.Versions; version++ {
		for _, m := range samples(version) {
			var want []byte
			fields, _ := schema.Of(m.Kind, version)
			for _, x := range fields {
				want = append(want, encode.Field(m, x)...)
			}
			if b, _ := encode.Bytes(m, version); !bytes.Equal(b, want) {
				t.Errorf("Bytes of %v in version %d: % X, of its fields % X", m, version, b, want)
			}
		}
	}
}

func TestAFault(t *testing.T) { // P10.2, P2
	for _, c := range []struct {
		name    string
		m       api.Msg
		version int
		want    api.Fault
	}{
		{"no kind", api.Msg{}, 1, api.Fault{Errno: api.ErrKind}},
		{"another kind", full(11), 3, api.Fault{Errno: api.ErrKind}},
		{"a Query in version 1", api.Msg{Kind: api.Query, N: [6]uint64{5}}, 1, api.Fault{Errno: api.ErrKind}},
		{"a version that there isn't", api.Msg{Kind: api.Hello}, 0, api.Fault{Errno: api.ErrKind}},
		{"a later one", api.Msg{Kind: api.Hello}, 4, api.Fault{Errno: api.ErrKind}},
		{"a number too great", api.Msg{Kind: api.Hello, N: [6]uint64{1, 1 << 32}}, 1, api.Fault{Errno: api.ErrRange, At: 2}},
		{"a Bool too great", api.Msg{Kind: api.Reply, N: [6]uint64{3: 2}}, 1, api.Fault{Errno: api.ErrRange, At: 4}},
		{"a F32 too great", api.Msg{Kind: api.Status, N: [6]uint64{3: 1 << 32}}, 3, api.Fault{Errno: api.ErrRange, At: 5}},
		{"a name too long", api.Msg{Kind: api.Hello, S: [2]string{strings.Repeat("a", 65)}}, 1, api.Fault{Errno: api.ErrLong, At: 3}},
		{"a source that is no text", api.Msg{Kind: api.Submit, S: [2]string{"a", "\xFF"}}, 1, api.Fault{Errno: api.ErrUtf, At: 2}},
		{"too many texts", api.Msg{Kind: api.Start, L: make([]string, 65)}, 3, api.Fault{Errno: api.ErrLong, At: 4}},
		{"a text in a list that is none", api.Msg{Kind: api.Start, L: []string{"a", "\xFF"}}, 3, api.Fault{Errno: api.ErrUtf, At: 4}},
		{"what is left", api.Msg{Kind: api.Cancel, S: [2]string{"why"}}, 1, api.Fault{Errno: api.ErrLeft}},
	} {
		b, f := encode.Bytes(c.m, c.version)
		if len(b) != 0 || f != c.want || f != value.Check(c.m, c.version) {
			t.Errorf("Bytes of %s: % X, %v, not %v", c.name, b, f, c.want)
		}
		if n := encode.Size(c.m, c.version); n != 0 {
			t.Errorf("Size of %s: %d", c.name, n)
		}
	}
}

func TestEachKindAndVersion(t *testing.T) { // P10.2
	for _, version := range []int{math.MinInt, -1, 0, 1, 2, 3, 4, 256, 257, math.MaxInt} {
		for kind := range 256 {
			m := api.Msg{Kind: uint8(kind)}
			want := value.Check(m, version)
			if b, f := encode.Bytes(m, version); len(b) != 0 || f != want || encode.Size(m, version) != 0 {
				t.Errorf("Bytes of %d in version %d, without anything: % X, %v, not %v", kind, version, b, f, want)
			}
		}
	}
}

func TestAMessageHasAtMostAPayload(t *testing.T) { // P10.3
	most := 0
	for version := 1; version <= api.Versions; version++ {
		for _, kind := range schema.Kinds(version) {
			m := greatest(kind, version)
			b, f := encode.Bytes(m, version)
			if f != (api.Fault{}) || len(b) > api.MaxPayload || len(b) == 0 || encode.Size(m, version) != len(b) {
				t.Errorf("Bytes of the greatest message of %d in version %d: %d, %v", kind, version, len(b), f)
			}
			most = max(most, len(b))
		}
	}
	if want := 2 + 64 + 3 + 7000 + 2; most != want {
		t.Errorf("the greatest of all has %d bytes, not %d", most, want)
	}
}

func TestTheSameBytesAreAlikeMessages(t *testing.T) { // P10.3
	for version := 1; version <= api.Versions; version++ {
		l := samples(version)
		for _, kind := range schema.Kinds(version) {
			one, two := full(kind), full(kind)
			one.S, one.L = [2]string{"ab", "c"}, []string{"ab", "", "c"}
			two.S, two.L = [2]string{"a", "bc"}, []string{"ab", "c", ""}
			l = append(l, value.Clean(one, version), value.Clean(two, version))
		}
		for _, a := range l {
			for _, b := range l {
				x, _ := encode.Bytes(a, version)
				y, _ := encode.Bytes(b, version)
				if a.Kind == b.Kind && bytes.Equal(x, y) != value.Same(a, b) {
					t.Errorf("in version %d % X and % X are the bytes of %v and %v", version, x, y, a, b)
				}
			}
		}
	}
}

func TestALaterVersionWritesAlike(t *testing.T) { // P10.2, P9.4
	for version := 1; version < api.Versions; version++ {
		for _, m := range samples(version) {
			was, _ := encode.Bytes(m, version)
			if b, f := encode.Bytes(m, version+1); !bytes.Equal(b, was) || f != (api.Fault{}) {
				t.Errorf("Bytes of %v in version %d: % X, %v, in the one ahead % X", m, version+1, b, f, was)
			}
		}
	}
}

func TestAnswersAreNewMemory(t *testing.T) { // P3
	room := []string{"a", "b", "\xFF", "behind"}
	m := api.Msg{Kind: api.Start, N: [6]uint64{5}, S: [2]string{"n"}, L: room[:2]}
	const want = "\x0A\x01n\x10\x05\x22\x01a\x22\x01b"
	b, f := encode.Bytes(m, 3)
	if string(b) != want || f != (api.Fault{}) {
		t.Fatalf("Bytes of a list whose end has something behind it: % X, %v", b, f)
	}
	x := encode.Field(m, api.Spec{Num: 4, Type: api.List})
	clear(b)
	clear(x)
	_ = append(x, "more"...)
	if b, _ := encode.Bytes(m, 3); string(b) != want {
		t.Errorf("Bytes behind a write to what was answered: % X", b)
	}
	if x := encode.Field(m, api.Spec{Num: 4, Type: api.List}); string(x) != "\x22\x01a\x22\x01b" {
		t.Errorf("Field behind a write to what was answered: % X", x)
	}
	if !slices.Equal(room, []string{"a", "b", "\xFF", "behind"}) || !slices.Equal(m.L, room[:2]) {
		t.Errorf("what was handed in is %v, %v", room, m)
	}
}

// FuzzBytes holds any message and any field against the chapter's words, and what follows.
func FuzzBytes(f *testing.F) {
	f.Add(uint8(1), 1, uint64(1), uint64(3), uint64(0), uint64(0), uint64(0), uint64(0), "", "", "", 1, 1, 0)
	f.Add(uint8(9), 3, uint64(5), uint64(3), uint64(1), uint64(1<<31), uint64(1<<63), uint64(0), "", "", "a,,b", 5, 5, 3)
	f.Add(uint8(6), 3, uint64(5), uint64(1), uint64(1), uint64(1), uint64(2), uint64(math.MaxUint64), "why", "", "", 7, 3, 5)
	f.Add(uint8(3), 2, uint64(0), uint64(0), uint64(0), uint64(0), uint64(0), uint64(0), "name", "so\xFFurce", "", 2, 9, 1)
	f.Fuzz(func(t *testing.T, kind uint8, version int, a, b, c, d, e, g uint64, s, u, l string, num, typ, slot int) {
		m := api.Msg{Kind: kind, N: [6]uint64{a, b, c, d, e, g}, S: [2]string{s, u}}
		if l != "" {
			m.L = strings.Split(l, ",")
		}
		out, wrong := encode.Bytes(m, version)
		if wrong != value.Check(m, version) || encode.Size(m, version) != len(out) || len(out) > api.MaxPayload {
			t.Fatalf("Bytes of %v in version %d: % X, %v", m, version, out, wrong)
		}
		if wrong.Errno != api.OK && len(out) != 0 {
			t.Fatalf("Bytes of %v in version %d beside a fault: % X", m, version, out)
		}
		if wrong.Errno == api.OK && (!bytes.Equal(out, whole(m, version)) || !value.Same(back(t, kind, version, out), m)) {
			t.Fatalf("Bytes of %v in version %d: % X, not % X", m, version, out, whole(m, version))
		}
		x := api.Spec{Num: num, Type: typ, Slot: slot}
		var want []byte
		if !value.Default(m, x) && num > 0 && num < 1<<29 {
			want = told(m, x)
		}
		if got := encode.Field(m, x); !bytes.Equal(got, want) && max(len(s), len(u), len(l)) <= api.MaxPayload {
			t.Fatalf("Field of %v, %v: % X, not % X", m, x, got, want)
		}
	})
}
