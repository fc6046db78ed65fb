package h2frame

import (
	"bytes"
	"encoding/hex"
	"math"
	"math/rand"
	"strings"
	"testing"

	"bifold/api"
)

func frame(kind, flags uint8, stream uint32, payload string) api.Frame {
	return api.Frame{Type: kind, Flags: flags, Stream: stream, B: []byte(payload)}
}

func same(a, b api.Frame) bool {
	return a.Type == b.Type && a.Flags == b.Flags && a.Stream == b.Stream && bytes.Equal(a.B, b.B)
}

func unhex(t *testing.T, s string) string {
	t.Helper()
	b, err := hex.DecodeString(strings.ReplaceAll(s, " ", ""))
	if err != nil {
		t.Fatal(err)
	}
	return string(b)
}

// written: frames, and their bytes as RFC 9113 draws them (4.1).
var written = []struct {
	b string
	f api.Frame
}{
	{"000000 00 00 00000000", frame(api.F2Data, 0, 0, "")},
	{"000000 04 01 00000000", frame(api.F2Settings, api.FlagEnd, 0, "")},
	{"000001 00 01 00000003 61", frame(api.F2Data, api.FlagEnd, 3, "a")},
	{"000003 01 25 00000001 828486", frame(api.F2Headers, 0x25, 1, "\x82\x84\x86")},
	{"000005 02 00 00000009 8000000310", frame(api.F2Priority, 0, 9, "\x80\x00\x00\x03\x10")},
	{"000004 03 00 01020304 00000008", frame(api.F2Reset, 0, 0x01020304, "\x00\x00\x00\x08")},
	{"000006 04 00 00000000 0003 00000064", frame(api.F2Settings, 0, 0, "\x00\x03\x00\x00\x00\x64")},
	{"000005 05 04 00000001 00000002 88", frame(api.F2Push, api.FlagEndHeaders, 1, "\x00\x00\x00\x02\x88")},
	{"000008 06 00 00000000 0102030405060708", frame(api.F2Ping, 0, 0, "\x01\x02\x03\x04\x05\x06\x07\x08")},
	{"000008 07 00 00000000 0000000500000002", frame(api.F2Goaway, 0, 0, "\x00\x00\x00\x05\x00\x00\x00\x02")},
	{"000004 08 ff 7fffffff 00000001", frame(api.F2Window, 0xff, 1<<31-1, "\x00\x00\x00\x01")},
	{"000001 09 04 40000000 00", frame(api.F2Continuation, api.FlagEndHeaders, 1<<30, "\x00")},
	{"000002 0a 00 00000080 ffff", frame(10, 0, 0x80, "\xff\xff")}, // no frame of RFC 9113's, but one
	{"000000 ff 80 00008000", frame(0xff, 0x80, 0x8000, "")},
}

// long: the bytes of a frame whose payload is n bytes, and the frame.
func long(n int) (string, api.Frame) {
	payload := strings.Repeat("0123456789abcdef!", n/17+1)[:n]
	return string([]byte{byte(n >> 16), byte(n >> 8), byte(n), 0, 1, 0, 0, 0, 7}) + payload, frame(api.F2Data, 1, 7, payload)
}

// fails: Read answers that error of b, and nothing else.
func fails(t *testing.T, at string, b string, most int, want api.Errno) {
	t.Helper()
	if f, n, e := Read([]byte(b), most); e != want || n != 0 || !same(f, api.Frame{}) {
		t.Errorf("%s: Read(%.40x of %d, %d): %.40v, %d, %v, not %v", at, b, len(b), most, f, n, e, want)
	}
}

func TestBytes(t *testing.T) { // P11.1
	for _, x := range written {
		b := unhex(t, x.b)
		if got, e := Write(nil, x.f); string(got) != b || e != api.OK {
			t.Errorf("Write(nil, %v): %x, %v, not %x", x.f, got, e, b)
		}
		if got, e := Write([]byte("ahead"), x.f); string(got) != "ahead"+b || e != api.OK {
			t.Errorf("Write(ahead, %v): %x, %v, not ahead and %x", x.f, got, e, b)
		}
		for _, behind := range []string{"", "\x00", b, "more"} {
			if got, n, e := Read([]byte(b+behind), 0); !same(got, x.f) || n != len(b) || e != api.OK {
				t.Errorf("Read(%x) with %x behind: %v, %d, %v, not %v", b, behind, got, n, e, x.f)
			}
		}
	}
}

func TestExample(t *testing.T) { // P11.1
	if b, e := Write(nil, frame(api.F2Ping, 0, 0, "\x00\x00\x00\x00\x00\x00\x00\x00")); len(b) != 17 || e != api.OK {
		t.Errorf("a PING: %d bytes, %v", len(b), e)
	}
}

func TestSeveral(t *testing.T) { // P11.1
	var all []api.Frame
	want := "ahead"
	for _, x := range written {
		all, want = append(all, x.f), want+unhex(t, x.b)
	}
	if b, e := Write([]byte("ahead"), all...); string(b) != want || e != api.OK {
		t.Errorf("all of them: %x, %v, not %x", b, e, want)
	}
	if b, e := Write([]byte("ahead")); string(b) != "ahead" || e != api.OK {
		t.Errorf("none: %q, %v", b, e)
	}
	if b, e := Write(nil); len(b) != 0 || e != api.OK {
		t.Errorf("none behind nil: %q, %v", b, e)
	}
	if b, e := Write(nil, api.Frame{}, api.Frame{B: []byte{}}); string(b) != strings.Repeat("\x00", 18) || e != api.OK {
		t.Errorf("two without a payload: %x, %v", b, e)
	}
}

func TestHighestBitOfTheStream(t *testing.T) { // P11.1
	for _, s := range []uint32{0, 1, 0x01020304, 1 << 30, 1<<31 - 1} {
		low, _ := Write(nil, frame(8, 0, s, "four"))
		high, e := Write(nil, frame(8, 0, s|1<<31, "four"))
		if string(high) != string(low) || e != api.OK {
			t.Errorf("stream %x with the bit: %x, %v, not %x", s, high, e, low)
		}
		low[5] |= 0x80
		if f, n, e := Read(low, 0); !same(f, frame(8, 0, s, "four")) || n != len(low) || e != api.OK {
			t.Errorf("Read(%x): %v, %d, %v", low, f, n, e)
		}
	}
}

func TestWriteMost(t *testing.T) { // P11.1
	for _, n := range []int{255, 256, 257, api.MaxFrame - 1, api.MaxFrame} {
		b, f := long(n)
		if got, e := Write([]byte("ahead"), f); string(got) != "ahead"+b || e != api.OK {
			t.Errorf("Write of %d bytes: %d bytes, %v", n, len(got), e)
		}
	}
	for _, n := range []int{api.MaxFrame + 1, 1<<16 - 1, 1<<24 - 1, 1 << 24} {
		_, f := long(n)
		short := frame(0, 0, 1, "a")
		for i, l := range [][]api.Frame{{f}, {f, short}, {short, f}, {short, f, short}, {f, f}} {
			if b, e := Write([]byte("ahead"), l...); len(b) != 0 || e != api.ErrFrame {
				t.Errorf("Write of %d bytes, %d: %d bytes, %v", n, i, len(b), e)
			}
		}
	}
}

func TestReadMost(t *testing.T) { // P11.1
	const most24 = 1<<24 - 1
	for _, x := range []struct{ most, limit int }{
		{math.MinInt, api.MaxFrame},
		{-1, api.MaxFrame},
		{0, api.MaxFrame},
		{1, api.MaxFrame},
		{api.MaxFrame - 1, api.MaxFrame},
		{api.MaxFrame, api.MaxFrame},
		{api.MaxFrame + 1, api.MaxFrame + 1},
		{40000, 40000},
		{1 << 16, 1 << 16},
		{most24 - 1, most24 - 1},
		{most24, most24},
		{most24 + 1, most24},
		{math.MaxInt, most24},
	} {
		for _, n := range []int{x.limit - 1, x.limit} {
			b, f := long(n)
			if got, took, e := Read([]byte(b+"more"), x.most); !same(got, f) || took != len(b) || e != api.OK {
				t.Errorf("Read of %d bytes, most %d: %d, %d, %v", n, x.most, len(got.B), took, e)
			}
			fails(t, "its last byte isn't there", b[:len(b)-1], x.most, api.ErrMore)
		}
		if x.limit < most24 {
			b, _ := long(x.limit + 1)
			fails(t, "one more", b, x.most, api.ErrFrame)
			fails(t, "ahead of its payload", b[:9], x.most, api.ErrFrame)
			fails(t, "behind its length, but not its head", b[:8], x.most, api.ErrMore)
		}
	}
	fails(t, "the longest", "\xff\xff\xff\x00\x00\x00\x00\x00\x01", most24-1, api.ErrFrame)
	fails(t, "the longest", "\xff\xff\xff\x00\x00\x00\x00\x00\x01", most24, api.ErrMore)
}

func TestReadCut(t *testing.T) { // P11.1
	for _, x := range written {
		b := unhex(t, x.b)
		for n := range b {
			fails(t, "cut", b[:n], 0, api.ErrMore)
		}
	}
	if f, n, e := Read(nil, 0); !same(f, api.Frame{}) || n != 0 || e != api.ErrMore {
		t.Errorf("Read(nil): %v, %d, %v", f, n, e)
	}
}

func TestPreface(t *testing.T) { // P11.1
	if p := Preface(); p != unhex(t, "505249202a20485454502f322e300d0a0d0a534d0d0a0d0a") {
		t.Errorf("%q", p)
	}
}

// anyFrame: short most often, of a length about MaxFrame now and then.
func anyFrame(r *rand.Rand) api.Frame {
	n := r.Intn(20)
	switch r.Intn(40) {
	case 0:
		n = api.MaxFrame - r.Intn(3)
	case 1:
		n = 250 + r.Intn(10)
	}
	f := api.Frame{Type: uint8(r.Intn(256)), Flags: uint8(r.Intn(256)), Stream: r.Uint32() >> 1, B: make([]byte, n)}
	r.Read(f.B)
	return f
}

func TestHoweverTheyCome(t *testing.T) { // P11.2
	r := rand.New(rand.NewSource(11))
	for range 300 {
		var sent []api.Frame
		for range r.Intn(8) {
			sent = append(sent, anyFrame(r))
		}
		wire, e := Write(nil, sent...)
		if e != api.OK {
			t.Fatal(e)
		}
		var came []byte
		var told []api.Frame
		for piece := 1 + r.Intn(40); len(wire) > 0; {
			n := min(1+r.Intn(piece), len(wire))
			came, wire = append(came, wire[:n]...), wire[n:]
			for {
				f, n, e := Read(came, 0)
				if e == api.ErrMore {
					break
				}
				if e != api.OK || n == 0 {
					t.Fatalf("Read(%.40x): %d, %v", came, n, e)
				}
				told, came = append(told, f), came[n:]
			}
		}
		if len(came) > 0 || len(told) != len(sent) {
			t.Fatalf("%d told of %d, %d bytes left", len(told), len(sent), len(came))
		}
		for i := range sent {
			if !same(sent[i], told[i]) {
				t.Fatalf("%.60v was sent, %.60v told", sent[i], told[i])
			}
		}
	}
}

// plain: what Read is to answer, as the chapter tells it, byte by byte.
func plain(b []byte, most int) (api.Frame, int, api.Errno) {
	if len(b) < 9 {
		return api.Frame{}, 0, api.ErrMore
	}
	n := int(b[0])*65536 + int(b[1])*256 + int(b[2])
	if most < 16384 {
		most = 16384
	}
	if n > most {
		return api.Frame{}, 0, api.ErrFrame
	}
	if len(b) < 9+n {
		return api.Frame{}, 0, api.ErrMore
	}
	s := uint32(b[5]%128)*16777216 + uint32(b[6])*65536 + uint32(b[7])*256 + uint32(b[8])
	return api.Frame{Type: b[3], Flags: b[4], Stream: s, B: b[9 : 9+n]}, 9 + n, api.OK
}

func TestAnyBytes(t *testing.T) { // P11.1
	r := rand.New(rand.NewSource(1))
	for range 20000 {
		b := make([]byte, r.Intn(40))
		r.Read(b)
		if len(b) > 3 && r.Intn(4) > 0 {
			b[0], b[1], b[2] = 0, byte(r.Intn(2)*r.Intn(256)), byte(r.Intn(40))
		}
		most := r.Intn(1<<17) - 1<<16
		f, n, e := Read(b, most)
		if want, wn, we := plain(b, most); !same(f, want) || n != wn || e != we {
			t.Fatalf("Read(%x, %d): %v, %d, %v, not %v, %d, %v", b, most, f, n, e, want, wn, we)
		}
	}
}

func TestHandedIn(t *testing.T) { // DOC's rule 3
	room := []byte("ahead, and spare room that is enough for a frame")
	payload := []byte("payload, and spare room")
	f := api.Frame{Type: 9, Stream: 3, B: payload[:7]}
	b, _ := Write(room[:5], f, f)
	if string(room) != "ahead, and spare room that is enough for a frame" || string(payload) != "payload, and spare room" || f.Stream != 3 {
		t.Errorf("Write changed what was handed in: %q, %q", room, payload)
	}
	want := string(b)
	clear(room)
	clear(payload)
	if string(b) != want {
		t.Errorf("Write's answer changed with what was handed in: %q", b)
	}
	empty, _ := Write(room[:0])
	if _ = append(empty, "over"...); !bytes.Equal(room, make([]byte, len(room))) {
		t.Errorf("Write of nothing handed out the room: %q", room)
	}

	wire := []byte("\x00\x00\x03\x00\x00\x00\x00\x00\x01abcdef")
	got, _, _ := Read(wire, 0)
	_ = append(got.B, "over"...)
	got.B[0] = 'x'
	if string(wire) != "\x00\x00\x03\x00\x00\x00\x00\x00\x01abcdef" {
		t.Errorf("Read's answer shares with what was handed in: %q", wire)
	}
	clear(wire)
	if string(got.B) != "xbc" {
		t.Errorf("Read's answer changed with what was handed in: %q", got.B)
	}
}
