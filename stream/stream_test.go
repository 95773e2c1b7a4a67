package stream_test

import (
	"bytes"
	"fmt"
	"math"
	"math/big"
	"slices"
	"strings"
	"testing"

	"rescript/api"
	"rescript/feeder"
	"rescript/frame"
	"rescript/resync"
	"rescript/stream"
)

// some is bytes of which no two next to each other are alike.
func some(n int) []byte {
	out := make([]byte, n)
	for i := range out {
		out[i] = byte(i*i*7 + i*31 + 5)
	}
	return out
}

// rest is what is left of a number by another one, by the library.
func rest(n, by int) int {
	return int(new(big.Int).Mod(big.NewInt(int64(n)), big.NewInt(int64(by))).Int64())
}

// edited is what the chapter says of one edit, byte by byte.
func edited(b []byte, e stream.Edit) []byte {
	at := rest(e.At, len(b)+1)
	end := at + rest(e.N, len(b)-at+1)
	var left, taken, out []byte
	for i, x := range b {
		if i >= at && i < end {
			taken = append(taken, x)
		} else {
			left = append(left, x)
		}
	}
	put := func(into []byte, place int, what []byte) {
		for i := 0; i <= len(into); i++ {
			if i == place {
				out = append(out, what...)
			}
			if i < len(into) {
				out = append(out, into[i])
			}
		}
	}
	switch e.Kind {
	case 1:
		for i, x := range b {
			if i == at {
				x ^= []byte{1, 2, 4, 8, 16, 32, 64, 128}[rest(e.To, 8)]
			}
			out = append(out, x)
		}
	case 2:
		out = left
	case 3:
		put(b, end, taken)
	case 4:
		put(b, at, e.Bytes[:min(10000, len(e.Bytes))])
	case 5:
		put(left, rest(e.To, len(left)+1), taken)
	default:
		out = b
	}
	return out[:min(1<<20, len(out))]
}

// hold holds Do against the chapter's words.
func hold(t *testing.T, b []byte, l ...stream.Edit) {
	t.Helper()
	was := bytes.Clone(b)
	want := bytes.Clone(b)
	for _, e := range l {
		want = edited(want, e)
	}
	if got := stream.Do(b, l...); !bytes.Equal(got, want) {
		t.Fatalf("Do of %d bytes, % .20X, with %v: %d bytes, % .30X, not %d, % .30X", len(b), b, brief(l), len(got), got, len(want), want)
	}
	if !bytes.Equal(b, was) {
		t.Fatalf("Do with %v writes to what was handed in", brief(l))
	}
}

// brief is edits, with how many bytes they have.
func brief(l []stream.Edit) string {
	out := ""
	for _, e := range l {
		out += fmt.Sprintf("[kind %d at %d, n %d, to %d, %d bytes]", e.Kind, e.At, e.N, e.To, len(e.Bytes))
	}
	return out
}

func TestKinds(t *testing.T) { // P16.1
	if stream.Flip != 1 || stream.Lose != 2 || stream.Copy != 3 || stream.Put != 4 || stream.Move != 5 {
		t.Error("the kinds have other numbers")
	}
}

func TestDo(t *testing.T) { // P16.1, the example
	for _, c := range []struct {
		b, want string
		e       stream.Edit
	}{
		{"\x80", "\x00", stream.Edit{Kind: stream.Flip, To: 7}},
		{"abc", "abb", stream.Edit{Kind: stream.Flip, At: 2}},
		{"abc", "aBc", stream.Edit{Kind: stream.Flip, At: 1, To: 5}},
		{"abc", "aBc", stream.Edit{Kind: stream.Flip, At: 1, To: 13}},
		{"abc", "aBc", stream.Edit{Kind: stream.Flip, At: 1, To: -3}},
		{"abc", "aBc", stream.Edit{Kind: stream.Flip, At: 5, To: 5}},
		{"abc", "aBc", stream.Edit{Kind: stream.Flip, At: -3, N: 2, To: 5, Bytes: []byte("no")}},
		{"abc", "abc", stream.Edit{Kind: stream.Flip, At: 3, To: 5}},
		{"abc", "abc", stream.Edit{Kind: stream.Flip, At: -1, To: 5}},
		{"", "", stream.Edit{Kind: stream.Flip}},
		{"", "", stream.Edit{Kind: stream.Flip, At: 7, To: 7}},
		{"abcdef", "adef", stream.Edit{Kind: stream.Lose, At: 1, N: 2}},
		{"abcdef", "abcdef", stream.Edit{Kind: stream.Lose, At: 1}},
		{"abcdef", "a", stream.Edit{Kind: stream.Lose, At: 1, N: 5}},
		{"abcdef", "abcdef", stream.Edit{Kind: stream.Lose, At: 1, N: 6}},
		{"abcdef", "acdef", stream.Edit{Kind: stream.Lose, At: 1, N: 7}},
		{"abcdef", "a", stream.Edit{Kind: stream.Lose, At: 1, N: -1}},
		{"abcdef", "", stream.Edit{Kind: stream.Lose, N: 6}},
		{"abcdef", "abcdef", stream.Edit{Kind: stream.Lose, N: 7}},
		{"abcdef", "abcdef", stream.Edit{Kind: stream.Lose, At: 6, N: 3}},
		{"abcdef", "bcdef", stream.Edit{Kind: stream.Lose, At: 7, N: 1}},
		{"abcdef", "abcde", stream.Edit{Kind: stream.Lose, At: -2, N: 1}},
		{"", "", stream.Edit{Kind: stream.Lose, At: 3, N: 4}},
		{"abcdef", "abcbcdef", stream.Edit{Kind: stream.Copy, At: 1, N: 2}},
		{"abcdef", "abcdef", stream.Edit{Kind: stream.Copy, At: 1}},
		{"abcdef", "abcdefabcdef", stream.Edit{Kind: stream.Copy, N: 6}},
		{"abcdef", "abcdeff", stream.Edit{Kind: stream.Copy, At: 5, N: 3}},
		{"abcdef", "abcdef", stream.Edit{Kind: stream.Copy, At: -1, N: 5}},
		{"", "", stream.Edit{Kind: stream.Copy, N: 5}},
		{"abc", "aXYbc", stream.Edit{Kind: stream.Put, At: 1, N: 2, To: 2, Bytes: []byte("XY")}},
		{"abc", "XYabc", stream.Edit{Kind: stream.Put, At: 4, Bytes: []byte("XY")}},
		{"abc", "abcXY", stream.Edit{Kind: stream.Put, At: 3, Bytes: []byte("XY")}},
		{"abc", "abcXY", stream.Edit{Kind: stream.Put, At: -1, Bytes: []byte("XY")}},
		{"abc", "abc", stream.Edit{Kind: stream.Put, At: 1}},
		{"", "XY", stream.Edit{Kind: stream.Put, At: 9, Bytes: []byte("XY")}},
		{"abcdef", "adbcef", stream.Edit{Kind: stream.Move, At: 1, N: 2, To: 2}},
		{"abcdef", "abcdef", stream.Edit{Kind: stream.Move, At: 1, N: 2, To: 1}},
		{"abcdef", "bcadef", stream.Edit{Kind: stream.Move, At: 1, N: 2}},
		{"abcdef", "adefbc", stream.Edit{Kind: stream.Move, At: 1, N: 2, To: 4}},
		{"abcdef", "bcadef", stream.Edit{Kind: stream.Move, At: 1, N: 2, To: 5}},
		{"abcdef", "adefbc", stream.Edit{Kind: stream.Move, At: 1, N: 2, To: -1}},
		{"abcdef", "abcdef", stream.Edit{Kind: stream.Move, N: 6, To: 3}},
		{"abcdef", "abcdef", stream.Edit{Kind: stream.Move, At: 3, N: 0, To: 3}},
		{"", "", stream.Edit{Kind: stream.Move, At: 1, N: 1, To: 1}},
		{"abc", "abc", stream.Edit{At: 1, N: 1, To: 1, Bytes: []byte("no")}},
		{"abc", "abc", stream.Edit{Kind: 6, At: 1, N: 1, To: 1, Bytes: []byte("no")}},
		{"abc", "abc", stream.Edit{Kind: -1, At: 1, N: 1, To: 1, Bytes: []byte("no")}},
		{"abc", "abc", stream.Edit{Kind: 257, At: 1, N: 1}},
		{"abc", "abc", stream.Edit{Kind: math.MinInt, At: 1, N: 1}},
	} {
		if got := stream.Do([]byte(c.b), c.e); string(got) != c.want {
			t.Errorf("Do of %q with %s: %q, not %q", c.b, brief([]stream.Edit{c.e}), got, c.want)
		}
		hold(t, []byte(c.b), c.e)
	}
}

func TestDoOfEachNumber(t *testing.T) { // P16.1, P1
	numbers := []int{math.MinInt, math.MinInt + 1, -1 << 40, -9, -8, -7, -2, -1, 0, 1, 2, 3, 4, 5, 6, 7, 8, 9, 255, 1 << 40, math.MaxInt - 1, math.MaxInt}
	for n := range 6 {
		for kind := -1; kind <= 6; kind++ {
			for _, at := range numbers {
				for _, many := range numbers {
					for _, to := range numbers {
						hold(t, some(n), stream.Edit{Kind: kind, At: at, N: many, To: to, Bytes: []byte("XYZ")})
					}
				}
			}
		}
	}
}

func TestDoEditByEdit(t *testing.T) { // P16.1
	b := []byte("abcdef")
	l := []stream.Edit{
		{Kind: stream.Copy, At: 2, N: 3},
		{Kind: stream.Lose, At: 1, N: 1},
		{Kind: 9, At: 1, N: 1},
		{Kind: stream.Put, At: 8, Bytes: []byte("XY")},
		{Kind: stream.Move, At: 8, N: 2, To: 1},
		{Kind: stream.Flip, To: 5},
	}
	for i, want := range []string{"abcdef", "abcdecdef", "acdecdef", "acdecdef", "acdecdefXY", "aXYcdecdef", "AXYcdecdef"} {
		if got := stream.Do(b, l[:i]...); string(got) != want {
			t.Errorf("Do with %d edits: %q, not %q", i, got, want)
		}
		hold(t, b, l[:i]...)
	}
	slices.Reverse(l)
	hold(t, b, l...)
}

func TestDoWithoutEdits(t *testing.T) { // P16.1
	for _, b := range [][]byte{nil, {}, {0}, []byte("abc"), some(1<<20 + 5)} {
		if got := stream.Do(b); !bytes.Equal(got, b) {
			t.Errorf("Do of %d bytes with nothing: %d bytes", len(b), len(got))
		}
	}
	if got := stream.Do(nil, stream.Edit{Kind: stream.Put, Bytes: []byte("ab")}, stream.Edit{Kind: stream.Copy, N: 2}); string(got) != "abab" {
		t.Errorf("Do of nil: %q", got)
	}
}

func TestDoPutsSoManyBytesAtMost(t *testing.T) { // P16.1
	for _, n := range []int{9999, 10000, 10001, 65536} {
		many := some(n)
		got := stream.Do([]byte("ab"), stream.Edit{Kind: stream.Put, At: 1, Bytes: many})
		if want := "a" + string(many[:min(n, 10000)]) + "b"; string(got) != want {
			t.Errorf("Put of %d bytes: %d bytes", n, len(got))
		}
	}
}

func TestDoCutsOffWhatIsTooMuch(t *testing.T) { // P16.1
	const most = 1 << 20
	b := some(most + 3)
	for _, c := range []struct {
		name string
		b    []byte
		l    []stream.Edit
		want []byte
	}{
		{"just as many", b[:most], []stream.Edit{{Kind: stream.Flip, At: most}}, b[:most]},
		{"one less, and one more", b[:most-1], []stream.Edit{{Kind: stream.Put, At: most - 1, Bytes: b[most-1 : most]}}, b[:most]},
		{"one byte ahead", b[:most], []stream.Edit{{Kind: stream.Put, Bytes: []byte{'X'}}}, slices.Concat([]byte{'X'}, b[:most-1])},
		{"bytes behind the end", b[:most], []stream.Edit{{Kind: stream.Put, At: most, Bytes: []byte("XY")}}, b[:most]},
		{"bytes over the end", b[:most-1], []stream.Edit{{Kind: stream.Put, At: most - 1, Bytes: []byte("XY")}}, slices.Concat(b[:most-1], []byte{'X'})},
		{"all once more", b[:most], []stream.Edit{{Kind: stream.Copy, N: most}}, b[:most]},
		{"a half once more, twice", b[:most/2+1], []stream.Edit{{Kind: stream.Copy, N: most/2 + 1}, {Kind: stream.Copy, At: 1, N: 3}}, slices.Concat(b[:4], b[1:most/2+1], b[:most/2-4])},
		{"more than that, and a bit turned", b, []stream.Edit{{Kind: stream.Flip, At: len(b)}}, b[:most]},
		{"more than that, and fewer lost", b, []stream.Edit{{Kind: stream.Lose, N: 2}}, b[2 : most+2]},
		{"more than that, and enough lost", b, []stream.Edit{{Kind: stream.Lose, N: 4}}, b[4:]},
		{"more than that, and the last ones moved ahead", b, []stream.Edit{{Kind: stream.Move, At: most, N: 3}}, slices.Concat(b[most:], b[:most-3])},
		{"cut off, and then lost", b[:most], []stream.Edit{{Kind: stream.Put, Bytes: []byte("XY")}, {Kind: stream.Lose, N: 2}}, b[:most-2]},
		{"more than that, and another kind", b, []stream.Edit{{Kind: 6}}, b[:most]},
	} {
		got := stream.Do(c.b, c.l...)
		if !bytes.Equal(got, c.want) {
			t.Errorf("%s: %d bytes, not %d", c.name, len(got), len(c.want))
		}
		if len(got) == most && cap(got) > most && !bytes.Equal(got[most:cap(got)], make([]byte, cap(got)-most)) {
			t.Errorf("%s: what was cut off is handed out", c.name)
		}
	}
}

func TestABitThatIsTurnedTwice(t *testing.T) { // P16.4
	b := some(40)
	for at := -50; at < 100; at++ {
		for bit := -9; bit < 18; bit++ {
			e := stream.Edit{Kind: stream.Flip, At: at, To: bit}
			once, twice := stream.Do(b, e), stream.Do(b, e, e)
			if !bytes.Equal(twice, b) || bytes.Equal(once, b) != (rest(at, 41) == 40) {
				t.Fatalf("the bit %d at %d: once % X, twice % X", bit, at, once, twice)
			}
		}
	}
}

func TestCut(t *testing.T) { // P16.2, the example
	for _, c := range []struct {
		b     string
		sizes []int
		want  []string
	}{
		{"abcde", []int{2, 1}, []string{"ab", "c", "de"}},
		{"abcdef", []int{2, 1}, []string{"ab", "c", "de", "f"}},
		{"abcdefg", []int{2, 1}, []string{"ab", "c", "de", "f", "g"}},
		{"abcde", []int{3}, []string{"abc", "de"}},
		{"abcde", []int{5}, []string{"abcde"}},
		{"abcde", []int{6}, []string{"abcde"}},
		{"abcde", []int{4, 9}, []string{"abcd", "e"}},
		{"abcde", nil, []string{"abcde"}},
		{"abcde", []int{}, []string{"abcde"}},
		{"abcde", []int{1, 2, 1, 1}, []string{"a", "bc", "d", "e"}},
		{"abc", []int{0}, []string{"a", "b", "c"}},
		{"abcde", []int{0, 3}, []string{"a", "bcd", "e"}},
		{"abcde", []int{-1, -2, 2}, []string{"a", "b", "cd", "e"}},
		{"abcde", []int{math.MinInt, math.MaxInt}, []string{"a", "bcde"}},
		{"abcde", []int{math.MaxInt}, []string{"abcde"}},
		{"", nil, nil},
		{"", []int{1}, nil},
		{"", []int{0, -1}, nil},
	} {
		got := stream.Cut([]byte(c.b), c.sizes...)
		if !slices.EqualFunc(got, c.want, func(p []byte, s string) bool { return string(p) == s }) {
			t.Errorf("Cut of %q by %v: %q, not %q", c.b, c.sizes, got, c.want)
		}
	}
	if got := stream.Cut(nil, 1, 2); len(got) != 0 {
		t.Errorf("Cut of nil: %v", got)
	}
}

func TestPiecesAreTheStream(t *testing.T) { // P16.2, P16.4
	for n := range 40 {
		b := some(n)
		for one := -2; one < 12; one++ {
			for two := -2; two < 12; two++ {
				l := stream.Cut(b, one, two)
				if !bytes.Equal(bytes.Join(l, nil), b) {
					t.Fatalf("Cut of %d bytes by %d, %d: %v", n, one, two, l)
				}
				for i, p := range l {
					want := max(1, []int{one, two}[i%2])
					if len(p) > want || len(p) == 0 || len(p) < want && i < len(l)-1 {
						t.Fatalf("Cut of %d bytes by %d, %d: the piece %d has %d", n, one, two, i, len(p))
					}
				}
			}
		}
	}
}

// frames is some frames, all unlike.
func frames() []api.Frame {
	inner, _ := frame.Put(api.Frame{Type: 1, Payload: []byte("inner")})
	return []api.Frame{
		{Type: 1, Payload: []byte("a")}, {Type: 2}, {Type: 0xC5, Payload: inner}, {Type: 4, Payload: []byte("\xC5\x9A\x01\x00\x20")}, {Type: 5, Payload: some(300)}, {Type: 255, Payload: some(8192)},
	}
}

// same tells whether lists have the same frames.
func same(a, b []api.Frame) bool { return slices.EqualFunc(a, b, frame.Same) }

func TestFrames(t *testing.T) { // P16.3
	l := frames()
	for n := range len(l) + 1 {
		var want []byte
		for _, f := range l[:n] {
			b, _ := frame.Put(f)
			want = append(want, b...)
		}
		if b, wrong := stream.Frames(l[:n]); !bytes.Equal(b, want) || wrong != (api.Fault{}) {
			t.Errorf("Frames of %d: %d bytes, %v, not %d", n, len(b), wrong, len(want))
		}
	}
	if b, wrong := stream.Frames(nil); len(b) != 0 || wrong != (api.Fault{}) {
		t.Errorf("Frames of nil: %v, %v", b, wrong)
	}
}

func TestFramesThatAreTooLong(t *testing.T) { // P16.3
	much := api.Frame{Type: 9, Payload: make([]byte, 8193)}
	for _, c := range []struct {
		l  []api.Frame
		at int
	}{
		{[]api.Frame{much}, 0},
		{[]api.Frame{much, {}}, 0},
		{[]api.Frame{{Type: 1}, much, much}, 1},
		{[]api.Frame{{Type: 1}, {}, much, {}}, 2},
		{append(frames(), api.Frame{Payload: make([]byte, 100000)}), 6},
	} {
		if b, wrong := stream.Frames(c.l); len(b) != 0 || wrong != (api.Fault{Errno: api.ErrLong, At: c.at}) {
			t.Errorf("Frames of %d, too long at %d: %d bytes, %v", len(c.l), c.at, len(b), wrong)
		}
	}
}

func TestSwap(t *testing.T) { // P16.3
	l := []api.Frame{{Type: 0, Payload: []byte("a")}, {Type: 1}, {Type: 2, Payload: []byte("c")}}
	for _, c := range []struct{ order, want []int }{
		{nil, nil},
		{[]int{}, nil},
		{[]int{0, 1, 2}, []int{0, 1, 2}},
		{[]int{2, 1, 0}, []int{2, 1, 0}},
		{[]int{1}, []int{1}},
		{[]int{1, 1, 0, 1}, []int{1, 1, 0, 1}},
		{[]int{3, 4, 5, 6}, []int{0, 1, 2, 0}},
		{[]int{-1, -2, -3, -4}, []int{2, 1, 0, 2}},
		{[]int{math.MaxInt, math.MinInt, math.MinInt + 1}, []int{1, 1, 2}},
	} {
		var want []api.Frame
		for _, i := range c.want {
			want = append(want, l[i])
		}
		if got := stream.Swap(l, c.order); !same(got, want) {
			t.Errorf("Swap by %v: %v, not %v", c.order, got, want)
		}
	}
	for _, order := range [][]int{nil, {}, {0}, {0, 1, -1}, {math.MinInt}} {
		if got := stream.Swap(nil, order); len(got) != 0 {
			t.Errorf("Swap of no frames by %v: %v", order, got)
		}
		if got := stream.Swap([]api.Frame{}, order); len(got) != 0 {
			t.Errorf("Swap of an empty list by %v: %v", order, got)
		}
	}
	much := []api.Frame{{Type: 9, Payload: make([]byte, 9000)}}
	if got := stream.Swap(much, []int{5, 5}); !same(got, []api.Frame{much[0], much[0]}) {
		t.Errorf("Swap of a frame that is too long: %d frames", len(got))
	}
}

// holdFound tells whether just these frames are found in a stream, as it is and in pieces.
func holdFound(t *testing.T, b []byte, want []api.Frame) {
	t.Helper()
	l, from := resync.All(b)
	var got []api.Frame
	for _, f := range l {
		got = append(got, f.F)
	}
	if !same(got, want) || from != len(b) || resync.Passed(b) != 0 {
		t.Fatalf("%d frames are found, up to %d of %d bytes, not %d", len(got), from, len(b), len(want))
	}
	f := feeder.New()
	got = nil
	for _, piece := range stream.Cut(b, 7, 1, 5000) {
		for _, one := range f.Feed(piece) {
			got = append(got, one.F)
		}
	}
	if !same(got, want) || f.Held() != 0 {
		t.Fatalf("in pieces %d frames are found, not %d", len(got), len(want))
	}
}

func TestWholeFramesThatAreLostCopiedAndMoved(t *testing.T) { // P16.4
	l := frames()
	b, _ := stream.Frames(l)
	places := []int{0}
	for _, f := range l {
		places = append(places, places[len(places)-1]+frame.Size(len(f.Payload)))
	}
	holdFound(t, b, l)
	for i := range l {
		for k := i; k <= len(l); k++ {
			at, n := places[i], places[k]-places[i]
			left := slices.Concat(l[:i], l[k:])
			holdFound(t, stream.Do(b, stream.Edit{Kind: stream.Lose, At: at, N: n}), left)
			holdFound(t, stream.Do(b, stream.Edit{Kind: stream.Copy, At: at, N: n}), slices.Concat(l[:k], l[i:]))
			for to := range len(left) + 1 {
				ahead := 0
				for _, f := range left[:to] {
					ahead += frame.Size(len(f.Payload))
				}
				moved := stream.Do(b, stream.Edit{Kind: stream.Move, At: at, N: n, To: ahead})
				holdFound(t, moved, slices.Concat(left[:to], l[i:k], left[to:]))
			}
		}
	}
}

func TestSwappedFramesAreFound(t *testing.T) { // P16.3, P16.4
	l := frames()
	for _, order := range [][]int{{0}, {5, 4, 3, 2, 1, 0}, {3, 3, -1, 8}} {
		swapped := stream.Swap(l, order)
		b, _ := stream.Frames(swapped)
		holdFound(t, b, swapped)
	}
}

func TestAnswersAreNewMemory(t *testing.T) { // P3
	room := []byte("abcdef and more")
	was := bytes.Clone(room)
	b := room[:6]
	put := []byte("XYZ")
	for _, l := range [][]stream.Edit{
		nil, {{Kind: stream.Flip}}, {{Kind: stream.Lose, At: 4, N: 2}}, {{Kind: stream.Lose, N: 6}}, {{Kind: stream.Copy, At: 5, N: 1}}, {{Kind: stream.Put, At: 6, Bytes: put[:2]}},
		{{Kind: stream.Move, N: 6}}, {{Kind: stream.Move, At: 1, N: 1}}, {{Kind: 9}}, {{Kind: stream.Lose, N: 6}, {Kind: stream.Put, Bytes: put[:2]}},
	} {
		got := stream.Do(b, l...)
		clear(append(got, "more behind it"...))
		clear(got)
		if !bytes.Equal(room, was) || string(put) != "XYZ" {
			t.Fatalf("behind a write to what Do with %s answered: %q, %q", brief(l), room, put)
		}
	}
	pieces := stream.Cut(b, 2)
	_ = append(pieces[0], "over"...)
	clear(pieces[1])
	if !bytes.Equal(room, was) || string(pieces[2]) != "ef" {
		t.Errorf("behind a write to pieces: %q, %q", room, pieces)
	}
	clear(room)
	if string(pieces[0]) != "ab" || string(pieces[2]) != "ef" {
		t.Errorf("Cut behind a write to what was handed in: %q", pieces)
	}
}

func TestAnswersWithFramesAreNewMemory(t *testing.T) { // P3
	room := []byte("payload and more")
	l := []api.Frame{{Type: 1, Payload: room[:7]}, {Type: 2, Payload: []byte("b")}}
	order := []int{0, -2, 1}
	b, _ := stream.Frames(l)
	swapped := stream.Swap(l, order)
	_ = append(swapped[0].Payload, "over"...)
	clear(swapped[0].Payload)
	swapped[2].Type = 9
	if string(room) != "payload and more" || string(swapped[1].Payload) != "payload" || l[1].Type != 2 || !slices.Equal(order, []int{0, -2, 1}) {
		t.Errorf("behind a write to swapped frames: %q, %v, %v, %v", room, swapped, l, order)
	}
	clear(room)
	clear(l)
	if f, _, _ := frame.Read(b); !frame.Same(f, api.Frame{Type: 1, Payload: []byte("payload")}) || string(swapped[1].Payload) != "payload" {
		t.Errorf("behind a write to what was handed in: %v, %v", f, swapped)
	}
}

func TestTheEndOfAListIsItsEnd(t *testing.T) { // P3
	room := []byte("abcdef")
	if got := stream.Do(room[:3], stream.Edit{Kind: stream.Copy, At: 1, N: 2}, stream.Edit{Kind: stream.Put, At: 5, Bytes: room[:2]}); string(got) != "abcbcab" {
		t.Errorf("Do: %q", got)
	}
	if got := stream.Cut(room[:3], 2, 2); len(got) != 2 || string(got[1]) != "c" {
		t.Errorf("Cut: %q", got)
	}
	l := []api.Frame{{Type: 1}, {Type: 2}, {Type: 3}}
	if got := stream.Swap(l[:2], []int{2, -1}[:1]); !same(got, l[:1]) {
		t.Errorf("Swap: %v", got)
	}
	sizes := []int{1, 2, 3}
	if got := stream.Cut(room, sizes[:2]...); strings.Join(texts(got), " ") != "a bc d ef" {
		t.Errorf("Cut by two sizes of three: %q", got)
	}
}

// texts is pieces as texts.
func texts(l [][]byte) []string {
	var out []string
	for _, p := range l {
		out = append(out, string(p))
	}
	return out
}

// FuzzDo holds any edits and pieces against the chapter's words.
func FuzzDo(f *testing.F) {
	f.Add([]byte("abcdef"), []byte("XY"), 5, 1, 2, 3, 2)
	f.Add([]byte{0x80}, []byte{}, 1, 0, 0, 7, -1)
	f.Add(some(300), some(200), 3, -5, 90, math.MinInt, math.MaxInt)
	f.Fuzz(func(t *testing.T, b, put []byte, kind, at, n, to, size int) {
		if len(b) > 20000 {
			return
		}
		l := []stream.Edit{{kind, at, n, to, put}, {kind ^ n&7, at + 1, n, to - 1, put}, {to & 7, n, at, size, b}}
		hold(t, b, l...)
		e := stream.Edit{Kind: stream.Flip, At: at, To: to}
		if twice := stream.Do(b, e, e); len(b) <= 1<<20 && !bytes.Equal(twice, b) {
			t.Fatalf("the bit %d at %d turned twice: % X, not % X", to, at, twice, b)
		}
		if l := stream.Cut(b, size, n); !bytes.Equal(bytes.Join(l, nil), b) {
			t.Fatalf("Cut of % X by %d, %d: % X", b, size, n, l)
		}
	})
}
