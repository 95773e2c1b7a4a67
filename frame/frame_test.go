package frame_test

import (
	"bytes"
	"encoding/binary"
	"hash/crc32"
	"math"
	"testing"

	"rescript/api"
	"rescript/encode"
	"rescript/frame"
	"rescript/schema"
	"rescript/value"
)

// some is bytes of which no two next to each other are alike.
func some(n int) []byte {
	out := make([]byte, n)
	for i := range out {
		out[i] = byte(i*i*7 + i*31 + 5)
	}
	return out
}

// put is a frame's bytes in the chapter's words, by the library.
func put(typ uint8, payload []byte) []byte {
	out := []byte{0xC5, 0x9A, typ}
	out = binary.LittleEndian.AppendUint16(out, uint16(len(payload)))
	out = append(out, payload...)
	return binary.LittleEndian.AppendUint32(out, crc32.ChecksumIEEE(out[2:]))
}

// read is the chapter's reading of bytes.
func read(b []byte) (api.Frame, int, api.Errno) {
	switch {
	case len(b) > 0 && b[0] != 0xC5, len(b) > 1 && b[1] != 0x9A:
		return api.Frame{}, 0, api.ErrForm
	case len(b) < 5:
		return api.Frame{}, 0, api.ErrShort
	}
	n := int(binary.LittleEndian.Uint16(b[3:]))
	switch {
	case n > 8192:
		return api.Frame{}, 0, api.ErrLong
	case len(b) < n+9:
		return api.Frame{}, 0, api.ErrShort
	case binary.LittleEndian.Uint32(b[n+5:]) != crc32.ChecksumIEEE(b[2:n+5]):
		return api.Frame{}, 0, api.ErrSum
	}
	return api.Frame{Type: b[2], Payload: b[5 : n+5]}, n + 9, api.OK
}

// alike tells whether frames are alike, without the package's help.
func alike(a, b api.Frame) bool { return a.Type == b.Type && bytes.Equal(a.Payload, b.Payload) }

// hold holds Read of bytes against the chapter's words.
func hold(t *testing.T, b []byte) {
	t.Helper()
	f, size, e := frame.Read(b)
	want, long, wrong := read(b)
	if !alike(f, want) || size != long || e != wrong {
		t.Fatalf("Read of %d bytes, % .20X: %d with %d bytes, %d, %v, not %d with %d bytes, %d, %v",
			len(b), b, f.Type, len(f.Payload), size, e, want.Type, len(want.Payload), long, wrong)
	}
}

// lengths is how many bytes payloads have in the tests.
var lengths = []int{0, 1, 2, 4, 5, 31, 32, 127, 128, 154, 197, 255, 256, 257, 511, 512, 4095, 4096, 8190, 8191, 8192}

func TestSize(t *testing.T) { // P13.1
	for n, want := range map[int]int{
		math.MinInt: 0, math.MinInt + 9: 0, -9: 0, -1: 0, 0: 9, 1: 10, 255: 264, 256: 265, 8191: 8200, 8192: 8201, 8193: 0,
		65535: 0, 65536: 0, math.MaxInt - 8: 0, math.MaxInt: 0, math.MinInt + 8192: 0,
	} {
		if size := frame.Size(n); size != want {
			t.Errorf("Size of %d: %d, not %d", n, size, want)
		}
	}
	for n := 0; n <= api.MaxPayload; n++ {
		if size := frame.Size(n); size != n+api.Header+api.Trailer {
			t.Fatalf("Size of %d: %d", n, size)
		}
	}
}

func TestPut(t *testing.T) { // P13.1, the example
	for _, c := range []struct {
		f    api.Frame
		want string
	}{
		{api.Frame{}, "\xC5\x9A\x00\x00\x00\x12\xD9\x41\xFF"},
		{api.Frame{Type: 1}, "\xC5\x9A\x01\x00\x00\x25\xB3\x83\xFE"},
		{api.Frame{Type: 8, Payload: []byte{}}, "\xC5\x9A\x08\x00\x00\xAA\x88\x52\xF1"},
		{api.Frame{Type: 1, Payload: []byte("\x08\x01\x10\x03")}, "\xC5\x9A\x01\x04\x00\x08\x01\x10\x03\xEF\x97\x37\xB7"},
		{api.Frame{Type: 255, Payload: []byte("abc")}, "\xC5\x9A\xFF\x03\x00abc"},
		{api.Frame{Type: 2, Payload: some(258)}, "\xC5\x9A\x02\x02\x01" + string(some(258))},
		{api.Frame{Type: 3, Payload: some(8192)}, "\xC5\x9A\x03\x00\x20" + string(some(8192))},
	} {
		b, e := frame.Put(c.f)
		if e != api.OK || !bytes.HasPrefix(b, []byte(c.want)) || len(b) != len(c.f.Payload)+9 {
			t.Errorf("Put of %d with %d bytes: %d bytes, % .20X, %v", c.f.Type, len(c.f.Payload), len(b), b, e)
		}
	}
}

func TestPutOfEachTypeAndLength(t *testing.T) { // P13.1
	for typ := range 256 {
		for _, n := range lengths {
			want := put(uint8(typ), some(n))
			if b, e := frame.Put(api.Frame{Type: uint8(typ), Payload: some(n)}); !bytes.Equal(b, want) || e != api.OK || len(b) != frame.Size(n) {
				t.Fatalf("Put of %d with %d bytes: %d bytes, % .20X, %v", typ, n, len(b), b, e)
			}
		}
	}
}

func TestPutOfAPayloadThatIsTooLong(t *testing.T) { // P13.1
	for _, n := range []int{8193, 8194, 16384, 65535, 65536, 65541, 1 << 20} {
		if b, e := frame.Put(api.Frame{Type: 1, Payload: make([]byte, n)}); len(b) != 0 || e != api.ErrLong {
			t.Errorf("Put of %d bytes: %d bytes, %v", n, len(b), e)
		}
	}
}

func TestReadOfWhatIsNoFrame(t *testing.T) { // P13.2, the example
	abc := string(put(1, []byte("abc")))
	inner := abc[2 : len(abc)-4]
	sum := func(s string) string {
		return string(binary.LittleEndian.AppendUint32(nil, crc32.ChecksumIEEE([]byte(s))))
	}
	for _, c := range []struct {
		name, b string
		e       api.Errno
	}{
		{"nothing", "", api.ErrShort},
		{"the first byte", "\xC5", api.ErrShort},
		{"both first bytes", "\xC5\x9A", api.ErrShort},
		{"a type", "\xC5\x9A\x01", api.ErrShort},
		{"half a length", "\xC5\x9A\x01\x00", api.ErrShort},
		{"half a length that would be too great", "\xC5\x9A\x01\xFF", api.ErrShort},
		{"a length", "\xC5\x9A\x01\x00\x00", api.ErrShort},
		{"the greatest length", "\xC5\x9A\x01\x00\x20", api.ErrShort},
		{"a length of 8191", "\xC5\x9A\x01\xFF\x1F", api.ErrShort},
		{"one above the greatest length", "\xC5\x9A\x01\x01\x20", api.ErrLong},
		{"a length of 0x2100", "\xC5\x9A\x01\x00\x21", api.ErrLong},
		{"all bits of a length", "\xC5\x9A\x01\xFF\xFF", api.ErrLong},
		{"a length above the greatest, and all its bytes", "\xC5\x9A\x01\x01\x20" + string(make([]byte, 8193)) + "\x00\x00\x00\x00", api.ErrLong},
		{"another first byte", "\x9A", api.ErrForm},
		{"the first bytes turned", "\x9A\xC5", api.ErrForm},
		{"another second byte", "\xC5\x9B", api.ErrForm},
		{"the first byte twice", "\xC5\xC5\x9A\x01", api.ErrForm},
		{"noughts", "\x00\x00\x00\x00\x00\x00\x00\x00\x00", api.ErrForm},
		{"another first byte ahead of a length that is too great", "\x45\x9A\x01\xFF\xFF", api.ErrForm},
		{"another second byte ahead of a length that is too great", "\xC5\x1A\x01\xFF\xFF", api.ErrForm},
		{"a frame behind a byte", "\x00" + abc, api.ErrForm},
		{"a frame without its first byte", abc[1:], api.ErrForm},
		{"a frame without its last byte", abc[:len(abc)-1], api.ErrShort},
		{"a frame without its sum", abc[:len(abc)-4], api.ErrShort},
		{"noughts as a sum", "\xC5\x9A\x01\x00\x00\x00\x00\x00\x00", api.ErrSum},
		{"the sum of the payload alone", "\xC5\x9A" + inner + sum("abc"), api.ErrSum},
		{"the sum of all, with the first bytes", "\xC5\x9A" + inner + sum("\xC5\x9A"+inner), api.ErrSum},
		{"the sum without the type", "\xC5\x9A" + inner + sum(inner[1:]), api.ErrSum},
		{"the sum's bytes turned", "\xC5\x9A" + inner + string([]byte{abc[11], abc[10], abc[9], abc[8]}), api.ErrSum},
		{"a length too great by one", "\xC5\x9A\x01\x04" + abc[4:] + "\x00", api.ErrSum},
		{"a length too small by one", "\xC5\x9A\x01\x02" + abc[4:], api.ErrSum},
		{"a length with the higher byte first", "\xC5\x9A\x01\x00\x03abc" + abc[8:] + string(make([]byte, 800)), api.ErrSum},
		{"another type", "\xC5\x9A\x02" + abc[3:], api.ErrSum},
	} {
		if f, size, e := frame.Read([]byte(c.b)); !alike(f, api.Frame{}) || size != 0 || e != c.e {
			t.Errorf("Read of %s: %v, %d, %v, not %v", c.name, f, size, e, c.e)
		}
		hold(t, []byte(c.b))
	}
	if f, size, e := frame.Read(nil); !alike(f, api.Frame{}) || size != 0 || e != api.ErrShort {
		t.Errorf("Read of nil: %v, %d, %v", f, size, e)
	}
}

func TestAFrameIsReadAsItWasPut(t *testing.T) { // P13.2, P13.4
	for typ := range 256 {
		for _, n := range lengths {
			f := api.Frame{Type: uint8(typ), Payload: some(n)}
			b, _ := frame.Put(f)
			for _, behind := range []string{"", "\x00", "\xC5", "\xC5\x9A\x01\x00\x00", "anything"} {
				got, size, e := frame.Read(append(bytes.Clone(b), behind...))
				if !alike(got, f) || size != len(b) || size != frame.Size(n) || e != api.OK {
					t.Fatalf("Read of %d with %d bytes, and %q behind: %d with %d bytes, %d, %v", typ, n, behind, got.Type, len(got.Payload), size, e)
				}
			}
		}
	}
}

func TestWhatIsShorterIsShort(t *testing.T) { // P13.4
	for _, n := range lengths {
		b, _ := frame.Put(api.Frame{Type: 5, Payload: some(n)})
		for at := range b {
			if f, size, e := frame.Read(b[:at]); !alike(f, api.Frame{}) || size != 0 || e != api.ErrShort {
				t.Fatalf("Read of %d bytes of %d: %v, %d, %v", at, len(b), f, size, e)
			}
		}
	}
}

// turned is bytes with the bits of a pattern turned, from a bit's place on.
func turned(b []byte, at int, pattern uint32) []byte {
	out := bytes.Clone(b)
	for i := range 32 {
		if pattern>>i&1 == 1 {
			out[(at+i)/8] ^= 1 << ((at + i) % 8)
		}
	}
	return out
}

func TestAChangeOfUpTo32BitsIsSeen(t *testing.T) { // P13.4
	pattern := uint32(1)
	for _, n := range []int{0, 1, 4, 30, 300, 8192} {
		b, _ := frame.Put(api.Frame{Type: 7, Payload: some(n)})
		places := 8*(n+api.Trailer) - 31
		for i := range 3000 {
			pattern = pattern*1664525 + 1013904223
			p := pattern >> (i % 32)
			if i%3 == 0 {
				p = 1 << (i % 32)
			}
			if p == 0 {
				continue
			}
			at := 8*api.Header + (i*i+i)%places
			if f, size, e := frame.Read(turned(b, at, p)); !alike(f, api.Frame{}) || size != 0 || e != api.ErrSum {
				t.Fatalf("Read with %08X turned at %d: %v, %d, %v", p, at, f, size, e)
			}
		}
	}
}

func TestEachBitOfAFrame(t *testing.T) { // P13.2
	for _, n := range []int{0, 1, 5, 256, 8192} {
		b, _ := frame.Put(api.Frame{Type: 7, Payload: some(n)})
		for bit := range 8 * min(len(b), 40) {
			changed := bytes.Clone(b)
			changed[bit/8] ^= 1 << (bit % 8)
			if _, _, e := frame.Read(changed); e == api.OK {
				t.Fatalf("Read with the bit %d turned tells a frame", bit)
			}
			hold(t, changed)
			hold(t, append(changed, make([]byte, 9000)...))
		}
	}
}

func TestSame(t *testing.T) { // P13.3
	l := []api.Frame{
		{}, {Type: 1}, {Payload: []byte{0}}, {Type: 1, Payload: []byte{0}}, {Type: 1, Payload: []byte("abc")}, {Type: 1, Payload: []byte("abd")},
		{Type: 1, Payload: []byte("ab")}, {Type: 2, Payload: []byte("abc")}, {Type: 255, Payload: some(8192)}, {Type: 1, Payload: make([]byte, 9000)},
	}
	for i, a := range l {
		for k, b := range l {
			b.Payload = bytes.Clone(b.Payload)
			if same := frame.Same(a, b); same != (i == k) {
				t.Errorf("Same of the frames %d and %d: %v", i, k, same)
			}
		}
	}
	if !frame.Same(api.Frame{Type: 1}, api.Frame{Type: 1, Payload: []byte{}}) {
		t.Error("Same of a payload that is nil and one that is empty")
	}
}

func TestOf(t *testing.T) { // P13.3
	for version := 1; version <= api.Versions; version++ {
		for _, kind := range schema.Kinds(version) {
			m := value.Clean(api.Msg{Kind: kind, N: [6]uint64{1, 1, 1, 1, 1, 1}, S: [2]string{"a", "b"}, L: []string{"c", ""}}, version)
			for _, m := range []api.Msg{{Kind: kind}, m} {
				want, _ := encode.Bytes(m, version)
				if f, wrong := frame.Of(m, version); !alike(f, api.Frame{Type: kind, Payload: want}) || wrong != (api.Fault{}) {
					t.Errorf("Of of %v in version %d: %v, %v, not % X", m, version, f, wrong, want)
				}
			}
		}
	}
	f, _ := frame.Of(api.Msg{Kind: api.Hello, N: [6]uint64{1, 3}}, 1)
	if !alike(f, api.Frame{Type: 1, Payload: []byte("\x08\x01\x10\x03")}) {
		t.Errorf("Of of a Hello: %v", f)
	}
}

func TestOfWhatMayNotBe(t *testing.T) { // P13.3, P2
	for _, c := range []struct {
		name    string
		m       api.Msg
		version int
		want    api.Fault
	}{
		{"no kind", api.Msg{}, 1, api.Fault{Errno: api.ErrKind}},
		{"another kind", api.Msg{Kind: 11}, 3, api.Fault{Errno: api.ErrKind}},
		{"a later version's kind", api.Msg{Kind: api.Query, N: [6]uint64{5}}, 1, api.Fault{Errno: api.ErrKind}},
		{"another version", api.Msg{Kind: api.Hello}, 4, api.Fault{Errno: api.ErrKind}},
		{"the least version", api.Msg{Kind: api.Hello}, math.MinInt, api.Fault{Errno: api.ErrKind}},
		{"too great a number", api.Msg{Kind: api.Hello, N: [6]uint64{1, 1 << 32}}, 1, api.Fault{Errno: api.ErrRange, At: 2}},
		{"a name that is no text", api.Msg{Kind: api.Hello, S: [2]string{"\xFF"}}, 1, api.Fault{Errno: api.ErrUtf, At: 3}},
		{"a later version's text", api.Msg{Kind: api.Cancel, S: [2]string{"why"}}, 1, api.Fault{Errno: api.ErrLeft}},
	} {
		if f, wrong := frame.Of(c.m, c.version); !alike(f, api.Frame{}) || wrong != c.want {
			t.Errorf("Of of %s: %v, %v, not %v", c.name, f, wrong, c.want)
		}
	}
}

func TestAnswersAreNewMemory(t *testing.T) { // P3
	room := []byte("abc and more")
	f := api.Frame{Type: 1, Payload: room[:3]}
	b, _ := frame.Put(f)
	want := put(1, []byte("abc"))
	if !bytes.Equal(b, want) || string(room) != "abc and more" {
		t.Fatalf("Put of a payload with room behind it: % X, and it is %q", b, room)
	}
	clear(room)
	if !bytes.Equal(b, want) {
		t.Errorf("Put behind a write to what was handed in: % X", b)
	}
	stream := append(bytes.Clone(want), "behind it"...)
	was := bytes.Clone(stream)
	got, _, _ := frame.Read(stream)
	again, _, _ := frame.Read(stream)
	_ = append(got.Payload, "more"...)
	clear(got.Payload)
	if !bytes.Equal(stream, was) || string(again.Payload) != "abc" {
		t.Errorf("behind a write to what was answered: %q, %q", stream, again.Payload)
	}
	clear(stream)
	if string(again.Payload) != "abc" {
		t.Errorf("Read behind a write to what was handed in: %q", again.Payload)
	}
}

func TestTheEndOfAListIsItsEnd(t *testing.T) { // P3
	b := put(1, []byte("abc"))
	for at := range b {
		if _, size, e := frame.Read(b[:at]); size != 0 || e != api.ErrShort {
			t.Errorf("Read of %d bytes with more behind their end: %d, %v", at, size, e)
		}
	}
	if frame.Same(api.Frame{Payload: b[:3]}, api.Frame{Payload: b[:4]}) {
		t.Error("Same looks beyond an end")
	}
}

// FuzzRead holds any bytes against the chapter's words, and what follows.
func FuzzRead(f *testing.F) {
	f.Add(uint8(1), []byte("abc"), []byte("behind"))
	f.Add(uint8(8), []byte{}, []byte{0xC5, 0x9A, 1, 0, 0x20})
	f.Add(uint8(0xC5), put(1, []byte("abc")), put(2, nil))
	f.Fuzz(func(t *testing.T, typ uint8, payload, behind []byte) {
		hold(t, payload)
		hold(t, behind)
		b, e := frame.Put(api.Frame{Type: typ, Payload: payload})
		if len(payload) > api.MaxPayload {
			if len(b) != 0 || e != api.ErrLong {
				t.Fatalf("Put of %d bytes: %d bytes, %v", len(payload), len(b), e)
			}
			return
		}
		if !bytes.Equal(b, put(typ, payload)) || e != api.OK {
			t.Fatalf("Put of %d, % X: % X, %v", typ, payload, b, e)
		}
		all := append(bytes.Clone(b), behind...)
		hold(t, all)
		hold(t, all[:len(all)-len(behind)])
	})
}
