package feeder_test

import (
	"bytes"
	"fmt"
	"slices"
	"strings"
	"testing"

	"rescript/api"
	"rescript/feeder"
	"rescript/frame"
	"rescript/resync"
)

// put is a frame's bytes.
func put(typ uint8, payload string) string {
	b, _ := frame.Put(api.Frame{Type: typ, Payload: []byte(payload)})
	return string(b)
}

// found is a frame at a place.
func found(at int, typ uint8, payload string) api.Found {
	return api.Found{At: at, F: api.Frame{Type: typ, Payload: []byte(payload)}}
}

// alike tells whether the same frames were found.
func alike(a, b []api.Found) bool {
	return slices.EqualFunc(a, b, func(x, y api.Found) bool { return x.At == y.At && frame.Same(x.F, y.F) })
}

// short is the places, types and lengths of frames that were found.
func short(l []api.Found) string {
	out := ""
	for _, f := range l {
		out += fmt.Sprintf("[%d: %d, %d bytes]", f.At, f.F.Type, len(f.F.Payload))
	}
	return out
}

// spoilt is a frame's bytes with its last one changed.
func spoilt(s string) string { return s[:len(s)-1] + string([]byte{s[len(s)-1] ^ 1}) }

// long is a beginning that says that 8192 bytes are to come.
const long = "\xC5\x9A\x01\x00\x20"

var (
	a     = put(1, "a")   // 10 bytes
	empty = put(2, "")    // 9 bytes
	outer = put(3, a+"x") // 20 bytes: a stands in it at 5
)

// streams is streams, short ones and ones that are longer than a frame may be.
var streams = map[string]string{
	"nothing":                           "",
	"a frame":                           a,
	"frames":                            a + empty + outer + a,
	"junk":                              "junk",
	"a first byte":                      "\xC5",
	"the first byte twice":              "\xC5\xC5",
	"a beginning":                       "\xC5\x9A\x01",
	"a frame without its last byte":     a[:9],
	"junk around frames":                "ju" + a + "nk" + empty + "!",
	"frames that aren't whole":          a[:9] + outer[:19] + empty[:5] + a,
	"a frame with another sum":          spoilt(outer) + empty + spoilt(a),
	"a length that is too great":        "\xC5\x9A\x01\x01\x20" + a,
	"a long beginning":                  "." + long + a + empty + outer[:12],
	"a payload that begins as a frame":  put(5, long) + put(6, "\xC5\x9A\x06"),
	"a long frame":                      a + put(7, strings.Repeat(a, 819)) + empty,
	"a long beginning that is none":     a + long + strings.Repeat(empty, 910) + spoilt(empty) + outer[:8],
	"a long beginning, and 8195 bytes":  long + strings.Repeat(".", 8195),
	"a long beginning, and 8196 bytes":  long + strings.Repeat(".", 8196),
	"a long beginning, junk, a frame":   long + strings.Repeat(".", 8186) + a,
	"frames, three times a long one":    strings.Repeat("junk"+a+outer, 800),
	"long frames, one behind the other": put(8, strings.Repeat("b", 8192)) + put(9, strings.Repeat("c", 8191)) + put(10, strings.Repeat("d", 8192)) + long,
}

// told is a feeder, the stream that came to it by now, and what it told of it.
type told struct {
	f *feeder.Feeder
	b []byte
	l []api.Found
}

// begun is a feeder to which nothing came.
func begun() *told { return &told{f: feeder.New()} }

// feed feeds one piece, and holds what is told against layer 14.
func (w *told) feed(t *testing.T, piece []byte) {
	t.Helper()
	w.l = append(w.l, w.f.Feed(piece)...)
	w.b = append(w.b, piece...)
	all, from := resync.All(w.b)
	if !alike(w.l, all) {
		t.Fatalf("behind %d bytes: %s, not %s", len(w.b), short(w.l), short(all))
	}
	if held := w.f.Held(); held != len(w.b)-from || held >= api.MaxPayload+9 {
		t.Fatalf("behind %d bytes %d are held, not %d", len(w.b), held, len(w.b)-from)
	}
	if came := w.f.Came(); came != len(w.b) || w.f.Over() {
		t.Fatalf("behind %d bytes %d came, over: %v", len(w.b), came, w.f.Over())
	}
}

// end ends the stream, and holds what is told against layer 14.
func (w *told) end(t *testing.T) {
	t.Helper()
	_, from := resync.All(w.b)
	want := resync.Ended(w.b[from:])
	for i := range want {
		want[i].At += from
	}
	l := w.f.End()
	if !alike(l, want) {
		t.Fatalf("End behind %d bytes: %s, not %s", len(w.b), short(l), short(want))
	}
	if all := resync.Ended(w.b); !alike(slices.Concat(w.l, l), all) {
		t.Fatalf("all of %d bytes: %s and %s, not %s", len(w.b), short(w.l), short(l), short(all))
	}
	w.over(t)
}

// over holds a stream that is over against the chapter's words.
func (w *told) over(t *testing.T) {
	t.Helper()
	for range 2 {
		if held, came, over := w.f.Held(), w.f.Came(), w.f.Over(); held != 0 || came != len(w.b) || !over {
			t.Fatalf("over behind %d bytes: %d held, %d came, %v", len(w.b), held, came, over)
		}
		if l, more := w.f.Feed([]byte(a)), w.f.End(); len(l) != 0 || len(more) != 0 {
			t.Fatalf("over behind %d bytes: Feed tells %s, End %s", len(w.b), short(l), short(more))
		}
	}
}

// hold holds a stream in pieces of so many bytes, again and again, against layer 14.
func hold(t *testing.T, b []byte, sizes ...int) {
	t.Helper()
	w := begun()
	for i, at := 0, 0; at < len(b); i++ {
		n := min(sizes[i%len(sizes)], len(b)-at)
		w.feed(t, b[at:at+n])
		at += n
	}
	w.end(t)
}

func TestNew(t *testing.T) { // P15.1, P15.2
	f := feeder.New()
	if f.Held() != 0 || f.Came() != 0 || f.Over() {
		t.Errorf("New: %d held, %d came, %v", f.Held(), f.Came(), f.Over())
	}
	for _, piece := range [][]byte{nil, {}} {
		if l := f.Feed(piece); len(l) != 0 || f.Held() != 0 || f.Came() != 0 || f.Over() {
			t.Errorf("Feed of nothing: %v, %d held, %d came, %v", l, f.Held(), f.Came(), f.Over())
		}
	}
	if l := f.End(); len(l) != 0 {
		t.Errorf("End of nothing: %v", l)
	}
	(&told{f: f}).over(t)
}

func TestAFrameInTwoPieces(t *testing.T) { // P15.1, the example
	for at := 1; at < len(outer); at++ {
		f := feeder.New()
		if l := f.Feed([]byte(outer[:at])); len(l) != 0 || f.Held() != at || f.Came() != at {
			t.Errorf("the first %d bytes: %s, %d held, %d came", at, short(l), f.Held(), f.Came())
		}
		if l := f.Feed([]byte(outer[at:])); !alike(l, []api.Found{found(0, 3, a+"x")}) || f.Held() != 0 || f.Came() != 20 {
			t.Errorf("the rest from %d on: %s, %d held, %d came", at, short(l), f.Held(), f.Came())
		}
	}
}

func TestFeed(t *testing.T) { // P15.1, P15.2: a stream, piece by piece
	f := feeder.New()
	for i, c := range []struct {
		piece      string
		want       []api.Found
		held, came int
	}{
		{"..", nil, 0, 2},
		{"", nil, 0, 2},
		{".\xC5", nil, 1, 4},
		{"", nil, 1, 4},
		{"\xC5", nil, 1, 5},
		{a, []api.Found{found(5, 1, "a")}, 0, 15},
		{a[:9], nil, 9, 24},
		{a[9:] + "!" + empty, []api.Found{found(15, 1, "a"), found(26, 2, "")}, 0, 35},
		{long + a, nil, 15, 50},
		{strings.Repeat(".", 8185), nil, 8200, 8235},
		{"\xC5", []api.Found{found(40, 1, "a")}, 1, 8236},
		{"\x9A\x02", nil, 3, 8238},
		{empty[3:] + a[:9], []api.Found{found(8235, 2, "")}, 9, 8253},
	} {
		if l := f.Feed([]byte(c.piece)); !alike(l, c.want) || f.Held() != c.held || f.Came() != c.came {
			t.Errorf("the piece %d: %s, %d held, %d came, not %s, %d, %d", i, short(l), f.Held(), f.Came(), short(c.want), c.held, c.came)
		}
	}
}

func TestEnd(t *testing.T) { // P15.2
	for _, c := range []struct {
		name, b    string
		fed, ended []api.Found
		held       int
	}{
		{"junk", "junk", nil, nil, 0},
		{"a frame", a, []api.Found{found(0, 1, "a")}, nil, 0},
		{"a frame that isn't whole", a[:9], nil, nil, 9},
		{"a frame within one that isn't whole", "." + outer[:19], nil, []api.Found{found(6, 1, "a")}, 19},
		{"frames behind a long beginning", empty + "!" + long + a + "." + outer + "\xC5", []api.Found{found(0, 2, "")}, []api.Found{found(15, 1, "a"), found(26, 3, a+"x")}, 37},
	} {
		f := feeder.New()
		l := f.Feed([]byte(c.b))
		if !alike(l, c.fed) || f.Held() != c.held {
			t.Errorf("Feed of %s: %s, %d held", c.name, short(l), f.Held())
		}
		if l := f.End(); !alike(l, c.ended) {
			t.Errorf("End of %s: %s, not %s", c.name, short(l), short(c.ended))
		}
		(&told{f: f, b: []byte(c.b)}).over(t)
	}
}

func TestNothingComesToAStreamThatIsOver(t *testing.T) { // P15.2
	f := feeder.New()
	f.Feed([]byte(a + a[:9]))
	f.End()
	for _, piece := range []string{a[9:], a, "", long, strings.Repeat(a, 2000)} {
		if l := f.Feed([]byte(piece)); len(l) != 0 || f.Held() != 0 || f.Came() != 19 || !f.Over() {
			t.Errorf("Feed of %d bytes: %s, %d held, %d came, %v", len(piece), short(l), f.Held(), f.Came(), f.Over())
		}
		if l := f.End(); len(l) != 0 || f.Held() != 0 || f.Came() != 19 || !f.Over() {
			t.Errorf("End: %s, %d held, %d came, %v", short(l), f.Held(), f.Came(), f.Over())
		}
	}
}

func TestNil(t *testing.T) { // P15.2, P1
	var f *feeder.Feeder
	for range 2 {
		if l := f.Feed([]byte(a)); len(l) != 0 {
			t.Errorf("Feed: %v", l)
		}
		if l := f.End(); len(l) != 0 {
			t.Errorf("End: %v", l)
		}
		if f.Held() != 0 || f.Came() != 0 || f.Over() {
			t.Errorf("%d held, %d came, %v", f.Held(), f.Came(), f.Over())
		}
	}
}

func TestEachStreamInTwoPieces(t *testing.T) { // P15.1 to P15.3
	for name, b := range streams {
		t.Run(name, func(t *testing.T) {
			step := max(1, len(b)/200)
			for at := 0; at < len(b); at += step {
				w := begun()
				w.feed(t, []byte(b[:at]))
				w.feed(t, []byte(b[at:]))
				w.end(t)
			}
		})
	}
}

func TestEachStreamInPieces(t *testing.T) { // P15.1 to P15.3
	for name, b := range streams {
		t.Run(name, func(t *testing.T) {
			for _, sizes := range [][]int{{len(b) + 1}, {1000}, {8200}, {8201}, {8202}, {8201, 1, 8199}, {4096, 1, 4103, 1}} {
				hold(t, []byte(b), sizes...)
			}
			if len(b) < 200 {
				for _, sizes := range [][]int{{1}, {2}, {3}, {1, 2}, {7, 1, 5}, {0, 9, 0, 0, 1}} {
					hold(t, []byte(b), sizes...)
				}
			}
		})
	}
}

func TestByteByByte(t *testing.T) { // P15.1 to P15.3: without layer 14 behind each byte, so that long streams may be fed
	for name, b := range streams {
		f := feeder.New()
		var l []api.Found
		most := 0
		for i := range len(b) {
			l = append(l, f.Feed([]byte{b[i]})...)
			most = max(most, f.Held())
		}
		l = append(l, f.End()...)
		if want := resync.Ended([]byte(b)); !alike(l, want) || f.Came() != len(b) || most >= api.MaxPayload+9 {
			t.Errorf("%s: %s, %d came, %d held at most, not %s", name, short(l), f.Came(), most, short(want))
		}
	}
}

func TestAFrameIsToldWithItsLastByte(t *testing.T) { // P15.1
	for _, n := range []int{0, 1, 255, 256, 8191, 8192} {
		payload := strings.Repeat("p", n)
		b := put(7, payload)
		f := feeder.New()
		if l := f.Feed([]byte("." + b[:len(b)-1])); len(l) != 0 || f.Held() != n+8 {
			t.Errorf("%d bytes without the last one: %s, %d held", n, short(l), f.Held())
		}
		if l := f.Feed([]byte(b[len(b)-1:])); !alike(l, []api.Found{found(1, 7, payload)}) || f.Held() != 0 {
			t.Errorf("%d bytes with the last one: %s, %d held", n, short(l), f.Held())
		}
	}
}

func TestALengthOf8192AndJunk(t *testing.T) { // P15.3, the fifth example of the whole
	b := "\xC5\x9A\x01\x00\x20" + strings.Repeat("j", 20) + a + strings.Repeat("j", 9000)
	f := feeder.New()
	for i := range 8200 {
		if l := f.Feed([]byte{b[i]}); len(l) != 0 || f.Held() != i+1 {
			t.Fatalf("behind %d bytes: %s, %d held", i+1, short(l), f.Held())
		}
	}
	if l := f.Feed([]byte{b[8200]}); !alike(l, []api.Found{found(25, 1, "a")}) || f.Held() != 0 {
		t.Errorf("behind 8201 bytes: %s, %d held", short(l), f.Held())
	}
	f = feeder.New()
	f.Feed([]byte(b[:8200]))
	if l := f.End(); !alike(l, []api.Found{found(25, 1, "a")}) {
		t.Errorf("at the end: %s", short(l))
	}
}

func TestFramesOfAStreamHangOnItsBytesAlone(t *testing.T) { // E3
	frames := []string{a, empty, outer, put(6, long), put(0xC5, "\xC5\x9A\xC5\x9A")}
	for _, junk := range []string{"", "\x00", "\x9A\x9A", "any bytes but the first one", strings.Repeat("\xFF", 9000), "\xC5.", spoilt(a), "\xC5\x9A\x01\x01\x20"} {
		b := junk
		var want []int
		for _, f := range frames {
			want = append(want, len(b))
			b += f + junk
		}
		for _, size := range []int{1, 2, 11, 8201, len(b)} {
			f := feeder.New()
			var l []api.Found
			for piece := range slices.Chunk([]byte(b), size) {
				l = append(l, f.Feed(piece)...)
			}
			var places []int
			for _, g := range l {
				places = append(places, g.At)
				if stands, _ := frame.Put(g.F); !strings.HasPrefix(b[g.At:], string(stands)) {
					t.Fatalf("with % .9X between frames: at %d stands another frame than %s", junk, g.At, short([]api.Found{g}))
				}
			}
			if !slices.Equal(places, want) {
				t.Errorf("with % .9X between frames, in pieces of %d bytes: found at %v, not at %v", junk, size, places, want)
			}
		}
	}
}

func TestFeedersAreApart(t *testing.T) { // P5
	one, two := begun(), begun()
	for i := range len(outer) {
		one.feed(t, []byte(outer[i:i+1]))
		two.feed(t, []byte(a[i%10:i%10+1]))
	}
	one.end(t)
	two.feed(t, []byte(empty))
	if len(one.l) != 1 || len(two.l) != 3 || two.f.Over() {
		t.Errorf("%s, and %s", short(one.l), short(two.l))
	}
}

func TestWhatIsFedIsNeitherKeptNorChanged(t *testing.T) { // P3
	room := []byte(a + a[:9] + "and more behind it")
	was := bytes.Clone(room)
	f := feeder.New()
	if l := f.Feed(room[:19]); !alike(l, []api.Found{found(0, 1, "a")}) || f.Held() != 9 || f.Came() != 19 || !bytes.Equal(room, was) {
		t.Fatalf("%s, %d held, %d came, and the piece is %q", short(l), f.Held(), f.Came(), room)
	}
	clear(room)
	if l := f.Feed([]byte(a[9:])); !alike(l, []api.Found{found(10, 1, "a")}) {
		t.Errorf("behind a write to what was fed: %s", short(l))
	}
	if !bytes.Equal(room, make([]byte, len(room))) {
		t.Errorf("what was fed was written to later: %q", room)
	}
}

func TestWhatIsToldIsTheCallers(t *testing.T) { // P3
	f := feeder.New()
	first := f.Feed([]byte(a + put(4, "first") + outer[:19]))
	want := []api.Found{found(0, 1, "a"), found(10, 4, "first")}
	f.Feed([]byte(outer[19:] + put(5, "behind")))
	f.Feed([]byte(outer[:19]))
	last := f.End()
	if !alike(first, want) || !alike(last, []api.Found{found(64, 1, "a")}) {
		t.Fatalf("behind later calls: %v, %v", first, last)
	}
	again := feeder.New()
	l := again.Feed([]byte(a + put(4, "first") + outer[:19]))
	_ = append(l[0].F.Payload, "more than there is room for, and more"...)
	clear(l[0].F.Payload)
	if string(l[1].F.Payload) != "first" {
		t.Errorf("lists of one answer share memory: %v", l)
	}
	clear(l)
	if l := again.Feed([]byte(outer[19:])); !alike(l, []api.Found{found(24, 3, a+"x")}) {
		t.Errorf("behind a write to what was told: %v", l)
	}
}

// FuzzFeed holds any streams, in any pieces, against layer 14.
func FuzzFeed(f *testing.F) {
	for _, b := range streams {
		f.Add([]byte(b), "payload", uint(5), uint(1), uint(9))
	}
	f.Fuzz(func(t *testing.T, b []byte, payload string, at, one, two uint) {
		if len(b) > 20000 {
			return
		}
		if len(payload) <= api.MaxPayload {
			at := int(at % uint(len(b)+1))
			b = slices.Concat(b[:at], []byte(put(9, payload)), b[at:])
		}
		least := len(b)/300 + 1
		hold(t, b, least+int(one%9000), least+int(two%20))
	})
}
