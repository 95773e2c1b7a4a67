package strict_test

import (
	"bytes"
	"encoding/binary"
	"math"
	"slices"
	"strings"
	"testing"

	"rescript/api"
	"rescript/encode"
	"rescript/lenient"
	"rescript/schema"
	"rescript/strict"
	"rescript/value"
)

// fault is an error and a place.
func fault(e api.Errno, at int) api.Fault { return api.Fault{Errno: e, At: at} }

// full is a message in which every place has something that may be in any field.
func full(kind uint8) api.Msg {
	return api.Msg{Kind: kind, N: [6]uint64{1, 1, 1, 1, 1, 1}, S: [2]string{"a", "b"}, L: []string{"c", "", "d"}}
}

// greatest is a message that may be, each of whose fields has as many bytes as it may have.
func greatest(kind uint8, version int) api.Msg {
	m := api.Msg{Kind: kind}
	fields, _ := schema.Of(kind, version)
	for _, x := range fields {
		switch x.Type {
		case api.U32, api.F32:
			m.N[x.Slot] = math.MaxUint32
		case api.Bool:
			m.N[x.Slot] = 1
		case api.U64, api.F64:
			m.N[x.Slot] = math.MaxUint64
		case api.S64:
			m.N[x.Slot] = 1 << 63
		case api.Name, api.Text, api.Source:
			m.S[x.Slot] = strings.Repeat("a", schema.Most(x.Type))
		case api.List:
			m.L = slices.Repeat([]string{strings.Repeat("a", api.MaxName)}, api.MaxList)
		}
	}
	return m
}

// samples is messages that may be, of each kind in a version: without anything, with something in each field alone, in all, and as great as may be.
func samples(version int) []api.Msg {
	var out []api.Msg
	for _, kind := range schema.Kinds(version) {
		clean := value.Clean(full(kind), version)
		out = append(out, api.Msg{Kind: kind}, clean, greatest(kind, version))
		for i, n := range clean.N {
			m := api.Msg{Kind: kind}
			if m.N[i] = n; n != 0 {
				out = append(out, m)
			}
		}
		for i, s := range clean.S {
			m := api.Msg{Kind: kind}
			if m.S[i] = s; s != "" {
				out = append(out, m)
			}
		}
		if len(clean.L) > 0 {
			out = append(out, api.Msg{Kind: kind, L: []string{""}}, api.Msg{Kind: kind, L: []string{"", ""}}, api.Msg{Kind: kind, L: clean.L})
		}
	}
	return out
}

// varint and counted are fields, by the library.
func varint(num int, n uint64) string {
	return string(binary.AppendUvarint(binary.AppendUvarint(nil, uint64(num)*8), n))
}
func counted(num int, s string) string {
	return string(binary.AppendUvarint(binary.AppendUvarint(nil, uint64(num)*8+2), uint64(len(s)))) + s
}

// forms is bytes that mean a message, the message's own ones, and the first place where they are unlike; -1, if they are alike.
var forms = []struct {
	name    string
	kind    uint8
	version int
	b, own  string
	at      int
}{
	{"nothing", api.Hello, 1, "", "", -1},
	{"a Hello", api.Hello, 1, "\x08\x01\x10\x03\x1A\x01a", "\x08\x01\x10\x03\x1A\x01a", -1},
	{"in another order", api.Hello, 1, "\x10\x03\x08\x01", "\x08\x01\x10\x03", 0},
	{"a number of 0", api.Hello, 1, "\x08\x00", "", 0},
	{"a number of 0 behind another", api.Hello, 1, "\x08\x01\x10\x00", "\x08\x01", 2},
	{"an empty text", api.Hello, 1, "\x08\x01\x1A\x00", "\x08\x01", 2},
	{"a number twice", api.Hello, 1, "\x08\x01\x08\x02", "\x08\x02", 1},
	{"the same number twice", api.Hello, 1, "\x08\x01\x08\x01", "\x08\x01", 2},
	{"a text twice", api.Hello, 1, "\x1A\x01a\x1A\x01b", "\x1A\x01b", 2},
	{"a longer text behind one", api.Hello, 1, "\x1A\x01a\x1A\x02ab", "\x1A\x02ab", 1},
	{"a 0 behind a number", api.Hello, 1, "\x08\x01\x08\x00", "", 0},
	{"an unknown field behind", api.Hello, 1, "\x08\x01\x10\x03\x78\x05", "\x08\x01\x10\x03", 4},
	{"an unknown field ahead", api.Hello, 1, "\x78\x05\x08\x01", "\x08\x01", 0},
	{"an unknown field alone", api.Hello, 1, "\x78\x05", "", 0},
	{"another wire type", api.Hello, 1, "\x0D\x01\x00\x00\x00\x10\x03", "\x10\x03", 0},
	{"a number of more bytes than needed", api.Hello, 1, "\x08\x81\x00", "\x08\x01", 1},
	{"a tag of more bytes than needed", api.Hello, 1, "\x08\x05\x90\x00\x01", "\x08\x05\x10\x01", 2},
	{"a length of more bytes than needed", api.Hello, 1, "\x1A\x81\x00a", "\x1A\x01a", 1},
	{"a U32 of more bits", api.Hello, 1, "\x08\x81\x80\x80\x80\x10\x10\x03", "\x08\x01\x10\x03", 1},
	{"the greatest U32", api.Hello, 1, "\x08\xFF\xFF\xFF\xFF\x0F", "\x08\xFF\xFF\xFF\xFF\x0F", -1},
	{"one above it", api.Hello, 1, "\x08\x80\x80\x80\x80\x10", "", 0},
	{"all bits", api.Hello, 1, "\x08\xFF\xFF\xFF\xFF\xFF\xFF\xFF\xFF\xFF\x01", "\x08\xFF\xFF\xFF\xFF\x0F", 5},
	{"a Bool", api.Reply, 1, "\x20\x01", "\x20\x01", -1},
	{"a Bool above 1", api.Reply, 1, "\x20\x02", "\x20\x01", 1},
	{"a Bool of 0", api.Reply, 1, "\x08\x05\x20\x00", "\x08\x05", 2},
	{"a S64", api.Reply, 3, "\x38\x01", "\x38\x01", -1},
	{"a S64 of 0", api.Reply, 3, "\x38\x00", "", 0},
	{"a F32", api.Status, 3, "\x2D\x00\x00\x00\x80", "\x2D\x00\x00\x00\x80", -1},
	{"a F32 of 0", api.Status, 3, "\x2D\x00\x00\x00\x00", "", 0},
	{"a F64", api.HelloAck, 1, "\x11\x00\x00\x00\x00\x00\x00\x00\x80", "\x11\x00\x00\x00\x00\x00\x00\x00\x80", -1},
	{"a F64 of 0", api.HelloAck, 1, "\x08\x01\x11\x00\x00\x00\x00\x00\x00\x00\x00", "\x08\x01", 2},
	{"a list", api.Start, 3, "\x10\x05\x22\x00\x22\x01a\x22\x00", "\x10\x05\x22\x00\x22\x01a\x22\x00", -1},
	{"a list in pieces", api.Start, 3, "\x22\x01a\x10\x05\x22\x01b", "\x10\x05\x22\x01a\x22\x01b", 0},
	{"a number within a list", api.Status, 3, "\x08\x05\x22\x01a\x30\x02\x22\x01b", "\x08\x05\x22\x01a\x22\x01b\x30\x02", 5},
	{"a later version's field", api.Cancel, 1, "\x08\x05\x12\x03why", "\x08\x05", 2},
	{"in that version", api.Cancel, 2, "\x08\x05\x12\x03why", "\x08\x05\x12\x03why", -1},
	{"the own bytes go on", api.Hello, 1, "\x1A\x01a\x08\x01\x1A\x03a\x08\x01", "\x08\x01\x1A\x03a\x08\x01", 0},
}

func TestDecode(t *testing.T) { // P12.1
	for _, c := range forms {
		m, f := strict.Decode(c.kind, c.version, []byte(c.b))
		if c.at >= 0 {
			if !value.Same(m, api.Msg{}) || f != fault(api.ErrForm, c.at) {
				t.Errorf("Decode of %s: %v, %v, not ErrForm at %d", c.name, m, f, c.at)
			}
			continue
		}
		want, _ := lenient.Decode(c.kind, c.version, []byte(c.b))
		if !value.Same(m, want) || f != (api.Fault{}) {
			t.Errorf("Decode of %s: %v, %v, not %v", c.name, m, f, want)
		}
	}
}

func TestDecodeOfSome(t *testing.T) { // P12.1
	for _, c := range []struct {
		version int
		b       string
		want    api.Msg
	}{
		{1, "", api.Msg{Kind: api.Hello}},
		{1, "\x08\x01\x10\x03", api.Msg{Kind: api.Hello, N: [6]uint64{1, 3}}},
		{3, "\x08\x05\x10\x03\x18\x01\x22\x01s\x2D\x02\x01\x00\x00\x30\x01", api.Msg{Kind: api.Status, N: [6]uint64{5, 3, 1, 258, math.MaxUint64}, L: []string{"s"}}},
		{3, "\x0A\x01n\x12\x03src\x18\x01", api.Msg{Kind: api.Submit, N: [6]uint64{1}, S: [2]string{"n", "src"}}},
	} {
		if m, f := strict.Decode(c.want.Kind, c.version, []byte(c.b)); !value.Same(m, c.want) || f != (api.Fault{}) {
			t.Errorf("Decode of % X: %v, %v, not %v", c.b, m, f, c.want)
		}
	}
}

func TestFix(t *testing.T) { // P12.2
	for _, c := range forms {
		b, f := strict.Fix(c.kind, c.version, []byte(c.b))
		if string(b) != c.own || f != (api.Fault{}) {
			t.Errorf("Fix of %s: % X, %v, not % X", c.name, b, f, c.own)
		}
	}
}

func TestAFault(t *testing.T) { // P12.1, P12.2, P2
	for _, c := range []struct {
		name    string
		kind    uint8
		version int
		b       string
		want    api.Fault
	}{
		{"no kind", 0, 3, "\x08\x00", fault(api.ErrKind, 0)},
		{"another kind", 11, 3, "", fault(api.ErrKind, 0)},
		{"a kind of a later version", api.Query, 1, "\x08\x05", fault(api.ErrKind, 0)},
		{"no version", api.Hello, 0, "", fault(api.ErrKind, 0)},
		{"a later version", api.Hello, 4, "", fault(api.ErrKind, 0)},
		{"too many bytes", api.Hello, 1, strings.Repeat("\x08\x00", api.MaxPayload/2) + "\x08", fault(api.ErrLong, 0)},
		{"a field that ends", api.Hello, 1, "\x08\x00\x10", fault(api.ErrShort, 3)},
		{"no tag", api.Hello, 1, "\x08\x00\x00", fault(api.ErrRange, 2)},
		{"an unknown field that ends", api.Hello, 1, "\x08\x01\x7A\x02a", fault(api.ErrShort, 3)},
		{"what may not be, behind what isn't its own", api.Hello, 1, "\x08\x00\x1A\x01\xFF", fault(api.ErrUtf, 2)},
		{"a name that is too long", api.Hello, 1, counted(3, strings.Repeat("a", 65)), fault(api.ErrLong, 0)},
		{"a list that is too long", api.Start, 3, "\x10\x00" + strings.Repeat("\x22\x00", 65), fault(api.ErrLong, 2+64*2)},
	} {
		if m, f := strict.Decode(c.kind, c.version, []byte(c.b)); !value.Same(m, api.Msg{}) || f != c.want {
			t.Errorf("Decode of %s: %v, %v, not %v", c.name, m, f, c.want)
		}
		if b, f := strict.Fix(c.kind, c.version, []byte(c.b)); len(b) != 0 || f != c.want {
			t.Errorf("Fix of %s: % X, %v, not %v", c.name, b, f, c.want)
		}
	}
}

func TestEachKindAndVersion(t *testing.T) { // P12.1, P12.2, P1
	for _, version := range []int{math.MinInt, -1, 0, 1, 2, 3, 4, 256, 257, math.MaxInt} {
		for kind := range 256 {
			want, wrong := api.Msg{Kind: uint8(kind)}, api.Fault{}
			if !slices.Contains(schema.Kinds(version), uint8(kind)) {
				want, wrong = api.Msg{}, fault(api.ErrKind, 0)
			}
			if m, f := strict.Decode(uint8(kind), version, nil); !value.Same(m, want) || f != wrong {
				t.Errorf("Decode of nothing as %d in version %d: %v, %v", kind, version, m, f)
			}
			if b, f := strict.Fix(uint8(kind), version, nil); len(b) != 0 || f != wrong {
				t.Errorf("Fix of nothing as %d in version %d: % X, %v", kind, version, b, f)
			}
		}
	}
}

func TestAny(t *testing.T) { // P12.3
	for _, c := range []struct {
		name, b string
		want    api.Msg
		version int
	}{
		{"nothing", "", api.Msg{Kind: api.Hello}, 1},
		{"a Hello", "\x08\x01\x10\x03", api.Msg{Kind: api.Hello, N: [6]uint64{1, 3}}, 1},
		{"a HelloAck", "\x08\x01\x11\x01\x00\x00\x00\x00\x00\x00\x00", api.Msg{Kind: api.HelloAck, N: [6]uint64{1, 1}}, 1},
		{"a HelloAck of version 2", "\x11\x01\x00\x00\x00\x00\x00\x00\x00\x1A\x01a", api.Msg{Kind: api.HelloAck, N: [6]uint64{0, 1}, S: [2]string{"a"}}, 2},
		{"a Submit", "\x0A\x01n", api.Msg{Kind: api.Submit, S: [2]string{"n"}}, 1},
		{"a Submit of version 3", "\x0A\x01n\x18\x01", api.Msg{Kind: api.Submit, N: [6]uint64{1}, S: [2]string{"n"}}, 3},
		{"a Start of version 1", "\x0A\x01n\x10\x05", api.Msg{Kind: api.Start, N: [6]uint64{5}, S: [2]string{"n"}}, 1},
		{"a Start of version 2", "\x0A\x01n\x10\x05\x1A\x01k", api.Msg{Kind: api.Start, N: [6]uint64{5}, S: [2]string{"n", "k"}}, 2},
		{"a Start of version 3", "\x22\x00", api.Msg{Kind: api.Start, L: []string{""}}, 3},
		{"a Command, for its number has more bits", varint(1, 1<<32), api.Msg{Kind: api.Command, N: [6]uint64{1 << 32}}, 1},
		{"a Command of version 2", "\x30\x01", api.Msg{Kind: api.Command, N: [6]uint64{4: 1}}, 2},
		{"a Command of version 3", "\x3A\x00", api.Msg{Kind: api.Command, L: []string{""}}, 3},
		{"a Reply", "\x20\x01\x28\x02", api.Msg{Kind: api.Reply, N: [6]uint64{3: 1, 4: 2}}, 1},
		{"a Reply of version 2", "\x32\x03why", api.Msg{Kind: api.Reply, S: [2]string{"why"}}, 2},
		{"a Reply of version 3", "\x38\x01", api.Msg{Kind: api.Reply, N: [6]uint64{5: math.MaxUint64}}, 3},
		{"a Cancel of version 2", "\x08\x05\x12\x03why", api.Msg{Kind: api.Cancel, N: [6]uint64{5}, S: [2]string{"why"}}, 2},
		{"a Start of version 3, though a Status of version 2 has them, too", "\x10\x03\x22\x01s", api.Msg{Kind: api.Start, N: [6]uint64{3}, L: []string{"s"}}, 3},
		{"a Status of version 2", "\x08\x05\x22\x01s", api.Msg{Kind: api.Status, N: [6]uint64{5}, L: []string{"s"}}, 2},
		{"a Status of version 3", "\x2D\x01\x00\x00\x00", api.Msg{Kind: api.Status, N: [6]uint64{3: 1}}, 3},
		{"an Error of version 2", "\x12\x03why\x18\x05", api.Msg{Kind: api.Error, N: [6]uint64{0, 5}, S: [2]string{"why"}}, 2},
		{"an Error of version 3", "\x21\x01\x00\x00\x00\x00\x00\x00\x00", api.Msg{Kind: api.Error, N: [6]uint64{2: 1}}, 3},
	} {
		if m, version, ok := strict.Any([]byte(c.b)); !value.Same(m, c.want) || version != c.version || !ok {
			t.Errorf("Any of %s: %v, %d, %v, not %v, %d", c.name, m, version, ok, c.want, c.version)
		}
	}
}

func TestAnyOfNone(t *testing.T) { // P12.3
	for name, b := range map[string]string{
		"an unknown field": "\x78\x05", "a number of 0": "\x08\x00", "another order": "\x10\x03\x08\x01", "a field twice": "\x08\x01\x08\x01",
		"no tag": "\x00", "a field that ends": "\x08", "no text": "\x12\x01\xFF", "too many bytes": strings.Repeat("\x08\x01", api.MaxPayload),
	} {
		if m, version, ok := strict.Any([]byte(b)); !value.Same(m, api.Msg{}) || version != 0 || ok {
			t.Errorf("Any of %s: %v, %d, %v", name, m, version, ok)
		}
	}
}

// first is the chapter's reading of Any, over more kinds and versions than there are.
func first(b []byte) (api.Msg, int, bool) {
	for kind := range 256 {
		for version := -1; version <= 5; version++ {
			if m, f := strict.Decode(uint8(kind), version, b); f.Errno == api.OK {
				return m, version, true
			}
		}
	}
	return api.Msg{}, 0, false
}

// holdAny holds Any of bytes against the chapter's words.
func holdAny(t *testing.T, b []byte) {
	t.Helper()
	m, version, ok := strict.Any(b)
	want, earliest, is := first(b)
	if !value.Same(m, want) || version != earliest || ok != is {
		t.Errorf("Any of % X: %v, %d, %v, not %v, %d, %v", b, m, version, ok, want, earliest, is)
	}
}

func TestAMessageIsReadAsItWasWritten(t *testing.T) { // P12.4, P12.3
	for version := 1; version <= api.Versions; version++ {
		for _, m := range samples(version) {
			b, _ := encode.Bytes(m, version)
			got, f := strict.Decode(m.Kind, version, b)
			if !value.Same(got, m) || f != (api.Fault{}) {
				t.Errorf("Decode in version %d of what was written of %.99v: %.99v, %v", version, m, got, f)
			}
			if own, f := strict.Fix(m.Kind, version, b); !bytes.Equal(own, b) || f != (api.Fault{}) {
				t.Errorf("Fix in version %d of what was written of %.99v: % X, %v", version, m, own, f)
			}
			holdAny(t, b)
		}
	}
}

// hold holds what follows, of any bytes.
func hold(t *testing.T, kind uint8, version int, b []byte) {
	t.Helper()
	meant, broken := lenient.Decode(kind, version, b)
	m, wrong := strict.Decode(kind, version, b)
	own, not := strict.Fix(kind, version, b)
	if broken.Errno != api.OK {
		if wrong != broken || not != broken || len(own) != 0 || !value.Same(m, api.Msg{}) {
			t.Fatalf("% X as %d in version %d: %v, %v, % X, %v, not %v", b, kind, version, m, wrong, own, not, broken)
		}
		return
	}
	written, _ := encode.Bytes(meant, version)
	if !bytes.Equal(own, written) || not != (api.Fault{}) {
		t.Fatalf("Fix of % X as %d in version %d: % X, %v, not % X", b, kind, version, own, not, written)
	}
	if again, f := strict.Decode(kind, version, own); !value.Same(again, meant) || f != (api.Fault{}) {
		t.Fatalf("% X as %d in version %d is read as %v, %v behind Fix, not %v", b, kind, version, again, f, meant)
	}
	if bytes.Equal(b, own) {
		if !value.Same(m, meant) || wrong != (api.Fault{}) {
			t.Fatalf("Decode of % X as %d in version %d: %v, %v, not %v", b, kind, version, m, wrong, meant)
		}
		return
	}
	at := wrong.At
	if wrong.Errno != api.ErrForm || !value.Same(m, api.Msg{}) || at > len(b) || at > len(own) || !bytes.Equal(b[:at], own[:at]) || at < len(b) && at < len(own) && b[at] == own[at] {
		t.Fatalf("Decode of % X as %d in version %d: %v, %v; its own are % X", b, kind, version, m, wrong, own)
	}
}

func TestEachCutAndTurnedBit(t *testing.T) { // P12.1, P12.2, P12.4
	for version := 1; version <= api.Versions; version++ {
		for _, kind := range schema.Kinds(version) {
			b, _ := encode.Bytes(value.Clean(full(kind), version), version)
			for at := range b {
				hold(t, kind, version, b[:at])
				hold(t, kind, version, b[at:])
				hold(t, kind, version, slices.Concat(b[at:], b[:at]))
				for bit := range 8 {
					turned := bytes.Clone(b)
					turned[at] ^= 1 << bit
					hold(t, kind, version, turned)
					holdAny(t, turned)
				}
			}
		}
	}
}

func TestAnswersAreNewMemory(t *testing.T) { // P3
	room := []byte("\x0A\x01n\x10\x05\x22\x01a\x22\x01bbehind it")
	was := bytes.Clone(room)
	b := room[:len(room)-9]
	want := api.Msg{Kind: api.Start, N: [6]uint64{5}, S: [2]string{"n"}, L: []string{"a", "b"}}
	m, f := strict.Decode(api.Start, 3, b)
	if !value.Same(m, want) || f != (api.Fault{}) {
		t.Fatalf("Decode of bytes whose end has something behind it: %v, %v", m, f)
	}
	own, _ := strict.Fix(api.Start, 3, b)
	found, _, _ := strict.Any(b)
	_ = append(own, "more"...)
	clear(own)
	m.L[0] = "other"
	if !bytes.Equal(room, was) || found.L[0] != "a" {
		t.Errorf("behind a write to what was answered: % X, %v", room, found)
	}
	own, _ = strict.Fix(api.Start, 3, b)
	clear(room)
	if !value.Same(found, want) || !bytes.Equal(own, was[:len(b)]) {
		t.Errorf("behind a write to what was handed in: %v, % X", found, own)
	}
}

// FuzzDecode holds any bytes against the chapter's words, and what follows.
func FuzzDecode(f *testing.F) {
	for _, c := range forms {
		f.Add(c.kind, c.version, []byte(c.b))
	}
	f.Add(uint8(11), 4, []byte("\x08"))
	f.Fuzz(func(t *testing.T, kind uint8, version int, b []byte) {
		hold(t, kind, version, b)
		holdAny(t, b)
	})
}
