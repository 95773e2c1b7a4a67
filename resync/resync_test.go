package resync_test

import (
	"bytes"
	"fmt"
	"slices"
	"strings"
	"testing"

	"rescript/api"
	"rescript/frame"
	"rescript/resync"
)

// put is a frame's bytes.
func put(typ uint8, payload string) string {
	b, _ := frame.Put(api.Frame{Type: typ, Payload: []byte(payload)})
	return string(b)
}

// found is a frame at a place.
func found(at int, typ uint8, payload string) api.Found {
	return api.Found{At: at, F: api.Frame{Type: typ, Payload: []byte(payload)}}
}

// short is the places, types and lengths of frames that were found.
func short(l []api.Found) string {
	out := ""
	for _, f := range l {
		out += fmt.Sprintf("[%d: %d, %d bytes]", f.At, f.F.Type, len(f.F.Payload))
	}
	return out
}

// alike tells whether the same frames were found.
func alike(a, b []api.Found) bool {
	return slices.EqualFunc(a, b, func(x, y api.Found) bool { return x.At == y.At && frame.Same(x.F, y.F) })
}

// spoilt is a frame's bytes with its last one changed.
func spoilt(s string) string { return s[:len(s)-1] + string([]byte{s[len(s)-1] ^ 1}) }

// long is a beginning that says that 8192 bytes are to come.
const long = "\xC5\x9A\x01\x00\x20"

var (
	a     = put(1, "a")   // 10 bytes
	empty = put(2, "")    // 9 bytes
	outer = put(3, a+"x") // 20 bytes: a stands in it at 5
	huge  = put(4, strings.Repeat(a, 819))
)

// streams is streams, what is found in them, from where on they aren't known yet, what is passed over, what is found when they have ended, and where frames stand.
var streams = []struct {
	name  string
	b     string
	all   []api.Found
	from  int
	gaps  [][2]int
	ended []api.Found // nil: the same as all
	whole []int
}{
	{name: "nothing"},
	{name: "a frame", b: a, all: []api.Found{found(0, 1, "a")}, from: 10, whole: []int{0}},
	{name: "two frames", b: a + empty, all: []api.Found{found(0, 1, "a"), found(10, 2, "")}, from: 19, whole: []int{0, 10}},
	{name: "one frame twice", b: a + a, all: []api.Found{found(0, 1, "a"), found(10, 1, "a")}, from: 20, whole: []int{0, 10}},
	{name: "junk", b: "junk", from: 4, gaps: [][2]int{{0, 4}}},
	{name: "one byte of junk", b: "\x00", from: 1, gaps: [][2]int{{0, 1}}},
	{name: "a first byte", b: "\xC5"},
	{name: "a first byte behind junk", b: "junk\xC5", from: 4, gaps: [][2]int{{0, 4}}},
	{name: "a second byte", b: "\x9A", from: 1, gaps: [][2]int{{0, 1}}},
	{name: "a beginning", b: "\xC5\x9A\x01"},
	{name: "a first byte and another one", b: "\xC5\x9B", from: 2, gaps: [][2]int{{0, 2}}},
	{name: "the first byte twice", b: "\xC5\xC5", from: 1, gaps: [][2]int{{0, 1}}},
	{name: "a byte, a first byte, and a frame", b: "\x00\xC5" + a, all: []api.Found{found(2, 1, "a")}, from: 12, gaps: [][2]int{{0, 2}}, whole: []int{2}},
	{name: "junk ahead, between and behind", b: "ju" + a + "nk" + empty + "!", all: []api.Found{found(2, 1, "a"), found(14, 2, "")}, from: 24, gaps: [][2]int{{0, 2}, {12, 14}, {23, 24}}, whole: []int{2, 14}},
	{name: "a frame, and a first byte", b: a + "\xC5", all: []api.Found{found(0, 1, "a")}, from: 10, whole: []int{0}},
	{name: "a frame, junk, and a beginning", b: a + "..\xC5\x9A", all: []api.Found{found(0, 1, "a")}, from: 12, gaps: [][2]int{{10, 12}}, whole: []int{0}},
	{name: "a frame without its last byte", b: a[:9], ended: []api.Found{}},
	{name: "a frame without its first byte", b: a[1:], from: 9, gaps: [][2]int{{0, 9}}},
	{name: "a frame with another sum", b: spoilt(a), from: 10, gaps: [][2]int{{0, 10}}},
	{name: "a frame with another sum, and a frame", b: spoilt(a) + empty, all: []api.Found{found(10, 2, "")}, from: 19, gaps: [][2]int{{0, 10}}, whole: []int{10}},
	{name: "a length that is too great, and a frame", b: "\xC5\x9A\x01\x01\x20" + a, all: []api.Found{found(5, 1, "a")}, from: 15, gaps: [][2]int{{0, 5}}, whole: []int{5}},
	{name: "a frame within another one", b: outer, all: []api.Found{found(0, 3, a+"x")}, from: 20, whole: []int{0, 5}},
	{name: "a frame within one with another sum", b: spoilt(outer), all: []api.Found{found(5, 1, "a")}, from: 20, gaps: [][2]int{{0, 5}, {15, 20}}, whole: []int{5}},
	{name: "a frame within one that isn't whole", b: outer[:19], ended: []api.Found{found(5, 1, "a")}, whole: []int{5}},
	{name: "a frame within one that isn't whole, behind a frame", b: empty + outer[:19], all: []api.Found{found(0, 2, "")}, from: 9, ended: []api.Found{found(0, 2, ""), found(14, 1, "a")}, whole: []int{0, 14}},
	{name: "a long beginning, and frames", b: long + a + "." + empty, ended: []api.Found{found(5, 1, "a"), found(16, 2, "")}, whole: []int{5, 16}},
	{name: "a frame whose payload begins as one does", b: put(5, long), all: []api.Found{found(0, 5, long)}, from: 14, whole: []int{0}},
	{name: "a frame whose sum goes on as one", b: put(5, "") + "\x9A\x01\x00\x00", all: []api.Found{found(0, 5, "")}, from: 13, gaps: [][2]int{{9, 13}}, whole: []int{0}},
	{name: "a frame of the greatest length", b: ".." + huge + a, all: []api.Found{found(2, 4, strings.Repeat(a, 819)), found(8201, 1, "a")}, from: 8211, gaps: [][2]int{{0, 2}}, whole: wholeHuge()},
	{name: "a long beginning, and 8195 bytes", b: long + strings.Repeat(".", 8195), ended: []api.Found{}},
	{name: "a long beginning, and 8196 bytes", b: long + strings.Repeat(".", 8196), from: 8201, gaps: [][2]int{{0, 8201}}},
	{name: "a long beginning, 8186 bytes, and a frame", b: long + strings.Repeat(".", 8186) + a, all: []api.Found{found(8191, 1, "a")}, from: 8201, gaps: [][2]int{{0, 8191}}, whole: []int{8191}},
	{name: "a long beginning, and a frame that goes on behind it", b: long + strings.Repeat(".", 8191) + a, all: []api.Found{found(8196, 1, "a")}, from: 8206, gaps: [][2]int{{0, 8196}}, whole: []int{8196}},
}

// wholeHuge is where frames stand within the greatest one and around it.
func wholeHuge() []int {
	out := []int{2}
	for i := range 819 {
		out = append(out, 7+10*i)
	}
	return append(out, 8201)
}

func TestAll(t *testing.T) { // P14.1, the examples
	for _, c := range streams {
		if l, from := resync.All([]byte(c.b)); !alike(l, c.all) || from != c.from {
			t.Errorf("All of %s: %s, %d, not %s, %d", c.name, short(l), from, short(c.all), c.from)
		}
	}
	if l, from := resync.All(nil); len(l) != 0 || from != 0 {
		t.Errorf("All of nil: %v, %d", l, from)
	}
}

func TestEnded(t *testing.T) { // P14.2
	for _, c := range streams {
		want := c.ended
		if want == nil {
			want = c.all
		}
		if l := resync.Ended([]byte(c.b)); !alike(l, want) {
			t.Errorf("Ended of %s: %s, not %s", c.name, short(l), short(want))
		}
	}
	if l := resync.Ended(nil); len(l) != 0 {
		t.Errorf("Ended of nil: %v", l)
	}
}

func TestGapsAndPassed(t *testing.T) { // P14.3, P14.5
	for _, c := range streams {
		n := 0
		for _, g := range c.gaps {
			n += g[1] - g[0]
		}
		if l := resync.Gaps([]byte(c.b)); !slices.Equal(l, c.gaps) {
			t.Errorf("Gaps of %s: %v, not %v", c.name, l, c.gaps)
		}
		if passed := resync.Passed([]byte(c.b)); passed != n {
			t.Errorf("Passed of %s: %d, not %d", c.name, passed, n)
		}
	}
	if l, n := resync.Gaps(nil), resync.Passed(nil); len(l) != 0 || n != 0 {
		t.Errorf("Gaps and Passed of nil: %v, %d", l, n)
	}
}

func TestWhole(t *testing.T) { // P14.3
	for _, c := range streams {
		if l := resync.Whole([]byte(c.b)); !slices.Equal(l, c.whole) {
			t.Errorf("Whole of %s: %v, not %v", c.name, l, c.whole)
		}
	}
	if l := resync.Whole(nil); len(l) != 0 {
		t.Errorf("Whole of nil: %v", l)
	}
}

func TestCould(t *testing.T) { // P14.3
	for _, c := range []struct {
		name, b string
		want    bool
	}{
		{"nothing", "", true},
		{"a first byte", "\xC5", true},
		{"both first bytes", "\xC5\x9A", true},
		{"a long beginning", long, true},
		{"a long beginning, and a frame", long + a, true},
		{"half a length that would be too great", "\xC5\x9A\x01\xFF", true},
		{"a frame", a, true},
		{"a frame, and junk", a + "junk", true},
		{"a frame without its last byte", a[:9], true},
		{"another first byte", "\x00", false},
		{"another second byte", "\xC5\xC5", false},
		{"a length that is too great", "\xC5\x9A\x01\x01\x20", false},
		{"another sum", spoilt(a), false},
		{"a frame behind a byte", "\x00" + a, false},
		{"a frame without its first byte", a[1:], false},
	} {
		if could := resync.Could([]byte(c.b)); could != c.want {
			t.Errorf("Could of %s: %v", c.name, could)
		}
	}
	if !resync.Could(nil) {
		t.Error("Could of nil: false")
	}
}

// parts is what a stream is, byte by byte, as the chapter goes through it: F in a frame that is found, P passed over, U not known yet.
func parts(b []byte, ended bool) string {
	var out strings.Builder
	for at := 0; at < len(b); {
		_, size, e := frame.Read(b[at:])
		switch {
		case e == api.OK:
			out.WriteString(strings.Repeat("F", size))
			at += size
		case e == api.ErrShort && !ended:
			out.WriteString(strings.Repeat("U", len(b)-at))
			at = len(b)
		default:
			out.WriteByte('P')
			at++
		}
	}
	return out.String()
}

// marked is the same of what the calls tell; a byte that is told twice is marked by ?.
func marked(b []byte, found []api.Found, gaps [][2]int, from int) string {
	out := bytes.Repeat([]byte{'-'}, len(b))
	mark := func(at, end int, by byte) {
		for i := at; i < end; i++ {
			if out[i] != '-' {
				by = '?'
			}
			out[i] = by
		}
	}
	for _, f := range found {
		mark(f.At, f.At+frame.Size(len(f.F.Payload)), 'F')
	}
	for _, g := range gaps {
		mark(g[0], g[1], 'P')
	}
	mark(from, len(b), 'U')
	return string(out)
}

// holdFound holds frames that are found against the bytes that stand there.
func holdFound(t *testing.T, b []byte, l []api.Found) {
	t.Helper()
	end := 0
	for _, f := range l {
		want, _ := frame.Put(f.F)
		if f.At < end || !bytes.HasPrefix(b[f.At:], want) {
			t.Fatalf("found in % X at %d: %v", b, f.At, f.F)
		}
		end = f.At + len(want)
	}
}

// holdWhole holds all places where frames stand against what is found.
func holdWhole(t *testing.T, b []byte, l []api.Found, from int) {
	t.Helper()
	var want []int
	for at := range b {
		if _, _, e := frame.Read(b[at:]); e == api.OK {
			want = append(want, at)
		}
		_, _, e := frame.Read(b[at:])
		if could := resync.Could(b[at:]); could != (e == api.OK || e == api.ErrShort) {
			t.Fatalf("Could of % X: %v, but Read tells %v", b[at:], could, e)
		}
	}
	whole := resync.Whole(b)
	if !slices.Equal(whole, want) {
		t.Fatalf("Whole of % X: %v, not %v", b, whole, want)
	}
	for _, at := range whole {
		known := at >= from
		for _, f := range l {
			known = known || f.At == at || f.At < at && at < f.At+frame.Size(len(f.F.Payload))
		}
		if !known {
			t.Fatalf("% X: a frame stands at %d, and isn't found", b, at)
		}
	}
}

// hold holds any stream against the chapter's words, and what follows.
func hold(t *testing.T, b []byte) {
	t.Helper()
	was := bytes.Clone(b)
	l, from := resync.All(b)
	gaps := resync.Gaps(b)
	holdFound(t, b, l)
	if got, want := marked(b, l, gaps, from), parts(b, false); got != want {
		t.Fatalf("All and Gaps of % X: %s, not %s", b, got, want)
	}
	end := -1
	for _, g := range gaps {
		if g[0] <= end || g[1] <= g[0] {
			t.Fatalf("Gaps of % X: %v", b, gaps)
		}
		end = g[1]
	}
	if n, want := resync.Passed(b), strings.Count(parts(b, false), "P"); n != want {
		t.Fatalf("Passed of % X: %d, not %d", b, n, want)
	}
	ended := resync.Ended(b)
	holdFound(t, b, ended)
	if got, want := strings.ReplaceAll(marked(b, ended, nil, len(b)), "-", "P"), parts(b, true); got != want {
		t.Fatalf("Ended of % X: %s, not %s", b, got, want)
	}
	if len(ended) < len(l) || !alike(ended[:len(l)], l) {
		t.Fatalf("Ended of % X: %v, but All tells %v", b, ended, l)
	}
	if len(b)-from > api.MaxPayload+8 {
		t.Fatalf("of % X %d bytes aren't known", b, len(b)-from)
	}
	holdWhole(t, b, l, from)
	if !bytes.Equal(b, was) {
		t.Fatalf("% X was written to: % X", was, b)
	}
}

func TestEachStreamIsAllItsParts(t *testing.T) { // P14.1 to P14.5
	for _, c := range streams {
		hold(t, []byte(c.b))
	}
}

func TestEachTwoStreams(t *testing.T) { // P14.1 to P14.5
	for _, c := range streams {
		for _, d := range streams {
			if len(c.b)+len(d.b) < 100 {
				hold(t, []byte(c.b+d.b))
			}
		}
	}
}

func TestEachCutAndTurnedBit(t *testing.T) { // P14.1 to P14.5
	b := []byte("." + a + "\xC5" + outer + empty + "\xC5\x9A" + outer[:12])
	for at := range b {
		hold(t, b[:at])
		hold(t, b[at:])
		for bit := range 8 {
			turned := bytes.Clone(b)
			turned[at] ^= 1 << bit
			hold(t, turned)
		}
	}
}

// begins tells whether what is found in a stream is found, as it was, of the same one with more behind it.
func begins(t *testing.T, b []byte, at int) {
	t.Helper()
	first, from := resync.All(b[:at])
	l, later := resync.All(b)
	if len(l) < len(first) || !alike(l[:len(first)], first) || later < from {
		t.Fatalf("of % X: %v, %d, but of its first %d bytes %v, %d", b, l, later, at, first, from)
	}
	if got := resync.Gaps(b[:at]); marked(b[:from], first, got, from) != parts(b, false)[:from] {
		t.Fatalf("of % X, its first %d bytes: %v", b, at, got)
	}
}

func TestWhatIsFoundStaysFound(t *testing.T) { // P14.4
	b := []byte(".." + a + "\xC5" + outer + spoilt(outer) + empty + "\xC5\x9A\x01\x01\x20" + a + "\xC5\x9A" + outer[:12])
	for at := range b {
		begins(t, b, at)
	}
	b = []byte(long + a + strings.Repeat(".", 8186) + empty)
	for _, at := range []int{0, 4, 5, 14, 15, 16, 8199, 8200, 8201, 8202, 8209} {
		begins(t, b, at)
	}
}

func TestJunkLosesNoFrame(t *testing.T) { // P14.4
	frames := []string{a, empty, outer, put(0xC5, "\xC5\x9A\xC5\x9A"), put(6, long)}
	for name, junk := range map[string]string{
		"none": "", "a byte": "\x00", "second bytes": "\x9A\x9A", "text": "any bytes but the first one", "all bits": strings.Repeat("\xFF", 9000),
		"a first byte that no frame begins with": "\xC5.", "two of them": "\xC5\xC5.\xC5\x9B", "a length that is too great": "\xC5\x9A\x01\x01\x20", "a frame with another sum": spoilt(a),
	} {
		var b []byte
		var want []int
		for range 3 {
			for _, f := range frames {
				b = append(b, junk...)
				want = append(want, len(b))
				b = append(b, f...)
			}
		}
		b = append(b, junk...)
		l, from := resync.All(b)
		var places []int
		for _, f := range l {
			places = append(places, f.At)
		}
		if !slices.Equal(places, want) || from != len(b) || !alike(resync.Ended(b), l) {
			t.Errorf("with %s between frames: found at %v, from %d, not at %v, from %d", name, places, from, want, len(b))
		}
	}
}

func TestAnswersAreNewMemory(t *testing.T) { // P3
	room := []byte(a + "." + a + "\xC5 and more")
	b := room[:22]
	was := bytes.Clone(room)
	want := []api.Found{found(0, 1, "a"), found(11, 1, "a")}
	l, _ := resync.All(b)
	ended := resync.Ended(b)
	_ = append(l[0].F.Payload, "more than there is room for"...)
	l[0].F.Payload[0] = 'z'
	if !bytes.Equal(room, was) || l[1].F.Payload[0] != 'a' || !alike(ended, want) {
		t.Errorf("behind a write to what was answered: % X, %v, %v", room, l[1], ended)
	}
	clear(room)
	if !alike(ended, want) || !alike(l[1:], want[1:]) {
		t.Errorf("behind a write to what was handed in: %v, %v", l, ended)
	}
}

func TestTheEndOfAListIsItsEnd(t *testing.T) { // P3
	b := []byte(a + a)
	if l, from := resync.All(b[:19]); len(l) != 1 || from != 10 {
		t.Errorf("All: %v, %d", l, from)
	}
	if l := resync.Ended(b[:19]); len(l) != 1 {
		t.Errorf("Ended: %v", l)
	}
	if l := resync.Whole(b[:19]); !slices.Equal(l, []int{0}) {
		t.Errorf("Whole: %v", l)
	}
	if l, n := resync.Gaps(b[:19]), resync.Passed(b[:19]); len(l) != 0 || n != 0 {
		t.Errorf("Gaps and Passed: %v, %d", l, n)
	}
}

// FuzzAll holds any streams against the chapter's words, and what follows.
func FuzzAll(f *testing.F) {
	for _, c := range streams {
		f.Add([]byte(c.b), "", 5)
	}
	f.Add([]byte("\xC5\x9A\xC5"), "payload", 1)
	f.Fuzz(func(t *testing.T, b []byte, payload string, at int) {
		if len(b) > 20000 {
			return
		}
		hold(t, b)
		at = min(max(at, 0), len(b))
		if len(payload) <= api.MaxPayload {
			b = slices.Concat(b[:at], []byte(put(9, payload)), b[at:])
			hold(t, b)
		}
		begins(t, b, at)
	})
}
