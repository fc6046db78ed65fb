package qpkt

import (
	"bytes"
	"encoding/hex"
	"math"
	"math/rand"
	"strings"
	"testing"

	"bifold/api"
)

func unhex(t *testing.T, s string) []byte {
	t.Helper()
	b, err := hex.DecodeString(strings.ReplaceAll(s, " ", ""))
	if err != nil {
		t.Fatal(err)
	}
	return b
}

func same(a, b api.Header) bool {
	return a.Long == b.Long && a.Type == b.Type && a.Version == b.Version && bytes.Equal(a.Dst, b.Dst) && bytes.Equal(a.Src, b.Src) && a.Pn == b.Pn && a.PnLen == b.PnLen
}

const id20 = "0123456789abcdefghij"

func long(kind int, version uint32, dst, src string, pn uint64, pnLen int) api.Header {
	return api.Header{Long: true, Type: kind, Version: version, Dst: []byte(dst), Src: []byte(src), Pn: pn, PnLen: pnLen}
}

func short(pn uint64, pnLen int) api.Header {
	return api.Header{Dst: []byte("8 bytes!"), Pn: pn, PnLen: pnLen}
}

// written: packets and their bytes.
var written = []struct {
	h       api.Header
	payload string
	b       string
}{
	{short(0x7b, 1), "", "40 3820627974657321 7b"},
	{short(0x7b, 1), "ab", "40 3820627974657321 7b 6162"},
	{short(0, 1), "\x00", "40 3820627974657321 00 00"},
	{short(0x0102, 2), "ab", "41 3820627974657321 0102 6162"},
	{short(0x010203, 3), "ab", "42 3820627974657321 010203 6162"},
	{short(0x01020304, 4), "ab", "43 3820627974657321 01020304 6162"},
	{short(1, 4), "ab", "43 3820627974657321 00000001 6162"}, // more bytes than it needs
	{long(0, 1, "dst", "source", 0x7b, 1), "ab", "c0 00000001 03 647374 06 736f75726365 03 7b 6162"},
	{long(0, 0, "", "", 0, 1), "", "c0 00000000 00 00 01 00"},
	{long(1, 0x01020304, "a", "", 0x0102, 2), "", "d1 01020304 01 61 00 02 0102"},
	{long(2, 0xffffffff, "", "b", 0x010203, 3), "xyz", "e2 ffffffff 00 01 62 06 010203 78797a"},
	{long(3, 0x80000000, "a", "b", 0xffffffff, 4), "xyz", "f3 80000000 01 61 01 62 07 ffffffff 78797a"},
	{long(2, 1, "8 bytes!", id20, 5, 4), "", "e3 00000001 08 3820627974657321 14 303132333435363738396162636465666768696a 04 00000005"},
	{long(1, 1, id20, "", 5, 3), "", "d2 00000001 14 303132333435363738396162636465666768696a 00 03 000005"},
	{long(0, 1, "", "", 9, 1), strings.Repeat("a", 62), "c0 00000001 00 00 3f 09" + strings.Repeat("61", 62)},   // 63: a length in one byte
	{long(0, 1, "", "", 9, 1), strings.Repeat("a", 63), "c0 00000001 00 00 4040 09" + strings.Repeat("61", 63)}, // 64: in two
	{long(0, 1, "", "", 9, 4), strings.Repeat("a", 1000), "c3 00000001 00 00 43ec 00000009" + strings.Repeat("61", 1000)},
}

func TestWrite(t *testing.T) { // P18.1
	for _, x := range written {
		want := unhex(t, x.b)
		if b, e := Write(x.h, []byte(x.payload)); !bytes.Equal(b, want) || e != api.OK {
			t.Errorf("Write(%v, %q): %x, %v, not %x", x.h, x.payload, b, e, want)
		}
	}
}

func TestExample(t *testing.T) { // P18.1
	for _, n := range []int{0, 1, 100} {
		if b, e := Write(short(3, 1), make([]byte, n)); len(b) != 10+n || e != api.OK {
			t.Errorf("a payload of %d: %d bytes, %v", n, len(b), e)
		}
	}
}

func TestShortSaysNothingOfTheRest(t *testing.T) { // P18.1
	want, _ := Write(short(3, 2), []byte("payload"))
	h := short(3, 2)
	h.Type, h.Version, h.Src = -5, 1<<32-1, make([]byte, 300)
	if b, e := Write(h, []byte("payload")); !bytes.Equal(b, want) || e != api.OK {
		t.Errorf("%x, %v, not %x", b, e, want)
	}
}

func TestWriteWrong(t *testing.T) { // P18.1
	id := func(n int) string { return strings.Repeat("i", n) }
	dst := func(n int) api.Header {
		h := short(1, 1)
		h.Dst = make([]byte, n)
		return h
	}
	for _, x := range []struct {
		why string
		h   api.Header
	}{
		{"PnLen", short(0, 0)},
		{"PnLen", short(1, 5)},
		{"PnLen", short(0, -1)},
		{"PnLen", short(0, math.MinInt)},
		{"PnLen", short(0, math.MaxInt)},
		{"PnLen", short(math.MaxUint64, 8)},
		{"PnLen", long(0, 1, "a", "b", 0, 0)},
		{"PnLen", long(0, 1, "a", "b", 0, 5)},
		{"Pn", short(1<<8, 1)},
		{"Pn", short(1<<16, 2)},
		{"Pn", short(1<<24, 3)},
		{"Pn", short(1<<32, 4)},
		{"Pn", short(math.MaxUint64, 4)},
		{"Pn", short(1<<63, 1)},
		{"Pn", long(0, 1, "a", "b", 1<<8, 1)},
		{"Pn", long(0, 1, "a", "b", 1<<32, 4)},
		{"Type", long(4, 1, "a", "b", 0, 1)},
		{"Type", long(-1, 1, "a", "b", 0, 1)},
		{"Type", long(math.MinInt, 1, "a", "b", 0, 1)},
		{"Type", long(256, 1, "a", "b", 0, 1)},
		{"Dst", long(0, 1, id(21), "b", 0, 1)},
		{"Dst", long(0, 1, id(256), "b", 0, 1)},
		{"Src", long(0, 1, "a", id(21), 0, 1)},
		{"Src", long(0, 1, "a", id(256), 0, 1)},
		{"Dst", dst(0)},
		{"Dst", dst(7)},
		{"Dst", dst(9)},
		{"Dst", dst(20)},
		{"Dst", dst(8 + 256)},
		{"all of it", api.Header{}},
	} {
		if b, e := Write(x.h, []byte("payload")); len(b) != 0 || e != api.ErrPacket {
			t.Errorf("%s: Write(%v): %x, %v", x.why, x.h, b, e)
		}
	}
	for _, h := range []api.Header{short(1<<8-1, 1), short(1<<16-1, 2), short(1<<24-1, 3), short(1<<32-1, 4), long(3, 1, id(20), id(20), 1<<8-1, 1), long(0, 1, "", "", 1<<32-1, 4)} {
		if b, e := Write(h, nil); len(b) == 0 || e != api.OK {
			t.Errorf("Write(%v): %x, %v", h, b, e)
		}
	}
}

func TestWriteMost(t *testing.T) { // P18.1
	for _, x := range []struct {
		h    api.Header
		head int // bytes that aren't payload
	}{
		{short(1, 1), 10},
		{short(1, 4), 13},
		{long(0, 1, "", "", 1, 1), 10},
		{long(3, 1, "", "", 1, 4), 13},
		{long(0, 1, id20, id20, 1, 2), 51},
	} {
		payload := make([]byte, api.MaxPacket-x.head, 70000)
		if b, e := Write(x.h, payload); len(b) != api.MaxPacket || e != api.OK {
			t.Errorf("Write(%v): %d bytes, %v", x.h, len(b), e)
		}
		for _, more := range []int{1, 2, 100, 60000} {
			if b, e := Write(x.h, payload[:len(payload)+more]); len(b) != 0 || e != api.ErrPacket {
				t.Errorf("Write(%v) of %d more: %d bytes, %v", x.h, more, len(b), e)
			}
		}
	}
}

func TestRead(t *testing.T) { // P18.2
	for _, x := range written {
		b := unhex(t, x.b)
		if h, payload, n, e := Read(b); !same(h, x.h) || string(payload) != x.payload || n != len(b) || e != api.OK {
			t.Errorf("Read(%x): %v, %q, %d, %v, not %v, %q", b, h, payload, n, e, x.h, x.payload)
		}
		for _, more := range []string{"\x00", "more", string(b)} {
			want, took := x.payload, len(b)
			if !x.h.Long {
				want, took = want+more, took+len(more) // a short one takes all
			}
			if h, payload, n, e := Read(append(bytes.Clone(b), more...)); !same(h, x.h) || string(payload) != want || n != took || e != api.OK {
				t.Errorf("Read(%x) and %q: %v, %q, %d, %v", b, more, h, payload, n, e)
			}
		}
	}
}

// refused: Read finds no packet in b.
func refused(t *testing.T, why string, b []byte) {
	t.Helper()
	if h, payload, n, e := Read(b); !same(h, api.Header{}) || len(payload) != 0 || n != 0 || e != api.ErrPacket {
		t.Errorf("%s: Read(%.60x): %v, %.20q, %d, %v", why, b, h, payload, n, e)
	}
}

func TestReadCut(t *testing.T) { // P18.2
	refused(t, "nothing", nil)
	refused(t, "nothing", []byte{})
	for _, x := range written {
		b := unhex(t, x.b)
		whole := len(b)
		if !x.h.Long {
			whole -= len(x.payload)
		}
		for n := range whole {
			refused(t, "cut", b[:n])
		}
	}
}

func TestReadFirstByte(t *testing.T) { // P18.2
	rest := unhex(t, "00000001 01 61 01 62 06 00000009 7879")
	for first := range 256 {
		b := append([]byte{byte(first)}, rest...)
		wrong := first&0x40 == 0 || first&0x80 != 0 && first&0x0c != 0 || first&0x80 == 0 && first&0x3c != 0
		if wrong {
			refused(t, "its first byte", b)
			continue
		}
		h, _, n, e := Read(b)
		if n != len(b) || e != api.OK || h.Long != (first >= 0x80) || h.PnLen != first%4+1 {
			t.Errorf("Read(%x): %v, %d, %v", b, h, n, e)
		}
		if h.Long && h.Type != first/16%4 || !h.Long && (h.Type != 0 || h.Version != 0 || len(h.Src) != 0 || string(h.Dst) != string(b[1:9])) {
			t.Errorf("Read(%x): %v", b, h)
		}
	}
}

func TestReadWrong(t *testing.T) { // P18.2
	ids := func(n int) string { return strings.Repeat("69", n) }
	for _, x := range []struct{ why, b string }{
		{"Dst of 21", "c0 00000001 15" + ids(21) + "00 01 07"},
		{"Dst of 64", "c0 00000001 40" + ids(64) + "00 01 07"},
		{"Dst of 255", "c0 00000001 ff" + ids(255) + "00 01 07"},
		{"Src of 21", "c0 00000001 00 15" + ids(21) + "01 07"},
		{"Src of 255", "c0 00000001 00 ff" + ids(255) + "01 07"},
		{"Dst ends ahead", "c0 00000001 04 616263"},
		{"Src ends ahead", "c0 00000001 00 04 616263"},
		{"no length", "c0 00000001 00 00"},
		{"a length that ends ahead", "c0 00000001 00 00 40"},
		{"a length that ends ahead", "c0 00000001 00 00 800000"},
		{"a length that ends ahead", "c0 00000001 00 00 c0000000000001"},
		{"a length below PnLen", "c0 00000001 00 00 00 07 61"},
		{"a length below PnLen", "c1 00000001 00 00 01 0007 61"},
		{"a length below PnLen", "c3 00000001 00 00 03 00000007 61"},
		{"a length below PnLen", "c3 00000001 00 00 00"},
		{"a length beyond b", "c0 00000001 00 00 02 07"},
		{"a length beyond b", "c0 00000001 00 00 05 07616263"},
		{"a length beyond b", "c0 00000001 00 00 7fff 07616263"},
		{"a length beyond b", "c0 00000001 00 00 ffffffffffffffff 07616263"},
		{"a length beyond b", "c0 00000001 00 00 c000000100000001 07616263"}, // a length beyond 32 bits
		{"a length beyond b and below PnLen", "c3 00000001 00 00 03 0007"},
		{"a short one without a whole number", "43 3820627974657321 010203"},
		{"a short one without an id", "40 38206279746573"},
	} {
		refused(t, x.why, unhex(t, x.b))
	}
	// Any length that num reads is one, in the fewest bytes or not.
	for _, b := range []string{"c0 00000001 00 00 4003 07 6162", "c0 00000001 00 00 80000003 07 6162", "c0 00000001 00 00 c000000000000003 07 6162"} {
		if h, payload, n, e := Read(unhex(t, b)); !same(h, long(0, 1, "", "", 7, 1)) || string(payload) != "ab" || n != len(unhex(t, b)) || e != api.OK {
			t.Errorf("Read(%s): %v, %q, %d, %v", b, h, payload, n, e)
		}
	}
}

func TestReadMost(t *testing.T) { // P18.2, DOC's limits
	b, _ := Write(short(1, 1), make([]byte, api.MaxPacket-10))
	if _, payload, n, e := Read(b); len(payload) != api.MaxPacket-10 || n != api.MaxPacket || e != api.OK {
		t.Errorf("a short one: %d, %d, %v", len(payload), n, e)
	}
	refused(t, "a short one, one more", append(b, 0))
	b, _ = Write(long(0, 1, "", "", 1, 1), make([]byte, api.MaxPacket-10))
	b = append(b, make([]byte, 3000)...)
	if _, payload, n, e := Read(b); len(payload) != api.MaxPacket-10 || n != api.MaxPacket || e != api.OK {
		t.Errorf("a long one, and more behind it: %d, %d, %v", len(payload), n, e)
	}
	b[8]++
	refused(t, "a long one, one more", b)
}

func TestSeveral(t *testing.T) { // P18.2
	var all []byte
	for _, x := range written {
		if x.h.Long {
			all = append(all, unhex(t, x.b)...)
		}
	}
	all = append(all, unhex(t, written[4].b)...)
	for _, x := range append(written[7:len(written):len(written)], written[4]) {
		h, payload, n, e := Read(all)
		if !same(h, x.h) || string(payload) != x.payload || e != api.OK {
			t.Fatalf("%v, %q, %d, %v, not %v", h, payload, n, e, x.h)
		}
		all = all[n:]
	}
	if len(all) != 0 {
		t.Errorf("%d left", len(all))
	}
}

func some(r *rand.Rand, n int) []byte {
	b := make([]byte, n)
	r.Read(b)
	return b
}

// anyHeader: one that Write takes.
func anyHeader(r *rand.Rand) api.Header {
	h := api.Header{Long: r.Intn(2) == 0, Dst: some(r, 8), PnLen: 1 + r.Intn(4)}
	h.Pn = r.Uint64() >> (64 - 8*h.PnLen) >> r.Intn(8*h.PnLen)
	if h.Long {
		h.Type, h.Version, h.Dst, h.Src = r.Intn(4), r.Uint32(), some(r, r.Intn(21)), some(r, r.Intn(21))
	}
	return h
}

func TestBackAgain(t *testing.T) { // P18.3
	r := rand.New(rand.NewSource(18))
	for range 20000 {
		h := anyHeader(r)
		payload := some(r, r.Intn(100))
		if r.Intn(10) == 0 {
			payload = some(r, r.Intn(1140))
		}
		b, e := Write(h, payload)
		if e != api.OK {
			t.Fatalf("Write(%v): %v", h, e)
		}
		got, p, n, e := Read(b)
		if !same(got, h) || !bytes.Equal(p, payload) || n != len(b) || e != api.OK {
			t.Fatalf("%v, %x came back as %v, %x, %d, %v", h, payload, got, p, n, e)
		}
	}
}

// plain: what Read is to answer, told byte by byte; a b that is read further than it goes is no packet.
func plain(b []byte) (h api.Header, payload []byte, n int, e api.Errno) {
	at := 0
	next := func() uint64 {
		at++
		return uint64(b[at-1])
	}
	defer func() {
		if recover() != nil {
			h, payload, n, e = api.Header{}, nil, 0, api.ErrPacket
		}
	}()
	first := next()
	h.PnLen = int(first%4) + 1
	end := len(b)
	switch {
	case first/64%2 == 0, first >= 128 && first/4%4 != 0, first < 128 && first/4%16 != 0:
		panic("no packet")
	case first < 128:
		h.Dst = b[1:9]
		at = 9
	default:
		h.Long, h.Type = true, int(first/16%4)
		for range 4 {
			h.Version = h.Version*256 + uint32(next())
		}
		for _, id := range []*[]byte{&h.Dst, &h.Src} {
			size := int(next())
			if size > 20 {
				panic("no packet")
			}
			for range size {
				*id = append(*id, byte(next()))
			}
		}
		size := next()
		more := []int{0, 1, 3, 7}[size/64]
		size %= 64
		for range more {
			size = size*256 + next()
		}
		if size < uint64(h.PnLen) || size > uint64(len(b)-at) {
			panic("no packet")
		}
		end = at + int(size)
	}
	for range h.PnLen {
		h.Pn = h.Pn*256 + next()
	}
	return h, b[at:end], end, api.OK
}

func TestAnyBytes(t *testing.T) { // P18.2
	r := rand.New(rand.NewSource(2))
	good := 0
	for range 200000 {
		b, _ := Write(anyHeader(r), some(r, r.Intn(20)))
		for range r.Intn(3) { // a few bytes of it are others, the first ones most often
			b[r.Intn(1+r.Intn(len(b)))] = byte(r.Intn(256) >> r.Intn(8))
		}
		b = b[:len(b)-r.Intn(1+r.Intn(len(b)+1))]
		h, payload, n, e := Read(b)
		wh, wp, wn, we := plain(b)
		if !same(h, wh) || !bytes.Equal(payload, wp) || n != wn || e != we {
			t.Fatalf("Read(%x): %v, %x, %d, %v, not %v, %x, %d, %v", b, h, payload, n, e, wh, wp, wn, we)
		}
		if e == api.OK {
			good++
		}
	}
	if good < 20000 || good > 180000 {
		t.Errorf("%d were packets", good)
	}
}

func TestHandedIn(t *testing.T) { // DOC's rule 3
	room := []byte("8 bytes!source payload and spare room")
	h := long(0, 1, "", "", 1, 1)
	h.Dst, h.Src = room[:8], room[8:14]
	b, _ := Write(h, room[15:22])
	h.Long = false
	c, _ := Write(h, room[15:22])
	if string(room) != "8 bytes!source payload and spare room" {
		t.Errorf("Write changed what was handed in: %q", room)
	}
	clear(room)
	if !bytes.Contains(b, []byte("8 bytes!\x06source")) || !bytes.Contains(b, []byte("payload")) || string(c[1:9]) != "8 bytes!" || string(c[10:]) != "payload" {
		t.Errorf("Write's answers changed with what was handed in: %q, %q", b, c)
	}

	for _, wire := range [][]byte{b, c} {
		before := bytes.Clone(wire)
		got, payload, _, _ := Read(wire)
		for _, l := range [][]byte{got.Dst, got.Src, payload} {
			_ = append(l, "over"...)
		}
		if !bytes.Equal(wire, before) || string(got.Dst) != "8 bytes!" || string(payload) != "payload" {
			t.Errorf("Read's answers share: %q, %q, %q", wire, got.Dst, payload)
		}
		clear(wire)
		if string(got.Dst) != "8 bytes!" || got.Long && string(got.Src) != "source" || string(payload) != "payload" {
			t.Errorf("Read's answers changed with what was handed in: %q, %q, %q", got.Dst, got.Src, payload)
		}
	}
}
