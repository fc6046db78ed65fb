package qframe

import (
	"bytes"
	"encoding/hex"
	"math"
	"math/rand"
	"slices"
	"strings"
	"testing"

	"bifold/api"
)

func unhex(t *testing.T, s string) []byte {
	t.Helper()
	b, err := hex.DecodeString(strings.ReplaceAll(s, " ", ""))
	if err != nil {
		t.Fatal(err)
	}
	return b
}

func same(a, b api.QFrame) bool {
	numbers := func(f api.QFrame) [6]uint64 { return [6]uint64{f.Type, f.Id, f.Off, f.Max, f.Code, f.Delay} }
	bools := func(f api.QFrame) [3]bool { return [3]bool{f.Fin, f.Uni, f.App} }
	return numbers(a) == numbers(b) && bools(a) == bools(b) && a.N == b.N && bytes.Equal(a.B, b.B) && slices.Equal(a.Ranges, b.Ranges)
}

func sameAll(a, b []api.QFrame) bool { return slices.EqualFunc(a, b, same) }

const top = api.MaxVar

// down: as many ranges of one number each, from first down, each two below the one ahead.
func down(first uint64, n int) []api.Range {
	var l []api.Range
	for range n {
		l = append(l, api.Range{First: first, Last: first})
		first -= 2
	}
	return l
}

// written: frames, and their bytes as RFC 9000 draws them (19).
var written = []struct {
	f api.QFrame
	b string
}{
	{api.QFrame{Type: api.QPadding, N: 1}, "00"},
	{api.QFrame{Type: api.QPadding, N: 3}, "00 00 00"},
	{api.QFrame{Type: api.QPadding, N: 300}, strings.Repeat("00", 300)},
	{api.QFrame{Type: api.QPing}, "01"},
	{api.QFrame{Type: api.QAck, Ranges: []api.Range{{First: 0, Last: 0}}}, "02 00 00 00 00"},
	{api.QFrame{Type: api.QAck, Delay: 5, Ranges: []api.Range{{First: 3, Last: 9}}}, "02 09 05 00 06"},
	{api.QFrame{Type: api.QAck, Delay: 100, Ranges: []api.Range{{First: 8, Last: 9}, {First: 4, Last: 6}, {First: 0, Last: 0}}}, "02 09 4064 02 01 00 02 02 00"},
	{api.QFrame{Type: api.QAck, Delay: top, Ranges: []api.Range{{First: 0, Last: top}}}, "02 ffffffffffffffff ffffffffffffffff 00 ffffffffffffffff"},
	{api.QFrame{Type: api.QAck, Ranges: []api.Range{{First: top, Last: top}, {First: 0, Last: 0}}}, "02 ffffffffffffffff 00 01 00 fffffffffffffffd 00"},
	{api.QFrame{Type: api.QAck, Ranges: down(62, 32)}, "02 3e 00 1f 00" + strings.Repeat("00 00", 31)}, // MaxRanges
	{api.QFrame{Type: api.QReset, Id: 1, Code: 2, Max: 3}, "04 01 02 03"},
	{api.QFrame{Type: api.QReset, Id: 0x4000, Code: 0x40, Max: top}, "04 80004000 4040 ffffffffffffffff"},
	{api.QFrame{Type: api.QReset}, "04 00 00 00"},
	{api.QFrame{Type: api.QStop, Id: 1, Code: 2}, "05 01 02"},
	{api.QFrame{Type: api.QStop, Id: top, Code: top}, "05 ffffffffffffffff ffffffffffffffff"},
	{api.QFrame{Type: api.QCrypto, Off: 7, B: []byte("abc")}, "06 07 03 616263"},
	{api.QFrame{Type: api.QCrypto}, "06 00 00"},
	{api.QFrame{Type: api.QCrypto, Off: top - 3, B: []byte("abc")}, "06 fffffffffffffffc 03 616263"},
	{api.QFrame{Type: api.QCrypto, Off: top}, "06 ffffffffffffffff 00"},
	{api.QFrame{Type: api.QToken, B: []byte("t")}, "07 01 74"},
	{api.QFrame{Type: api.QToken, B: bytes.Repeat([]byte("t"), 64)}, "07 4040" + strings.Repeat("74", 64)},
	{api.QFrame{Type: api.QStream}, "0a 00 00"},
	{api.QFrame{Type: api.QStream, Fin: true}, "0b 00 00"},
	{api.QFrame{Type: api.QStream, Id: 4, B: []byte("ab")}, "0a 04 02 6162"},
	{api.QFrame{Type: api.QStream, Id: 4, Fin: true, B: []byte("ab")}, "0b 04 02 6162"},
	{api.QFrame{Type: api.QStream, Id: 4, Off: 9, B: []byte("ab")}, "0e 04 09 02 6162"},
	{api.QFrame{Type: api.QStream, Id: 4, Off: 9, Fin: true, B: []byte("ab")}, "0f 04 09 02 6162"},
	{api.QFrame{Type: api.QStream, Id: top, Off: top, Fin: true}, "0f ffffffffffffffff ffffffffffffffff 00"},
	{api.QFrame{Type: api.QStream, Id: 1, Off: top - 2, B: []byte("ab")}, "0e 01 fffffffffffffffd 02 6162"},
	{api.QFrame{Type: api.QMaxData}, "10 00"},
	{api.QFrame{Type: api.QMaxData, Max: top}, "10 ffffffffffffffff"},
	{api.QFrame{Type: api.QMaxStream, Id: 4, Max: 64}, "11 04 4040"},
	{api.QFrame{Type: api.QMaxStreams, Max: 16}, "12 10"},
	{api.QFrame{Type: api.QMaxStreams, Max: 16, Uni: true}, "13 10"},
	{api.QFrame{Type: api.QMaxStreams, Max: 1 << 60}, "12 d000000000000000"},
	{api.QFrame{Type: api.QMaxStreams, Max: 1 << 60, Uni: true}, "13 d000000000000000"},
	{api.QFrame{Type: api.QDataBlk, Max: 5}, "14 05"},
	{api.QFrame{Type: api.QStreamBlk, Id: 4, Max: 5}, "15 04 05"},
	{api.QFrame{Type: api.QStreamsBlk, Max: 16}, "16 10"},
	{api.QFrame{Type: api.QStreamsBlk, Max: 16, Uni: true}, "17 10"},
	{api.QFrame{Type: api.QStreamsBlk, Max: 1 << 60}, "16 d000000000000000"},
	{api.QFrame{Type: api.QStreamsBlk, Max: 1 << 60, Uni: true}, "17 d000000000000000"},
	{api.QFrame{Type: api.QNewId, B: []byte("i0123456789abcdef")}, "18 00 00 01 69 30313233343536373839616263646566"},
	{api.QFrame{Type: api.QNewId, Id: 5, Max: 5, B: []byte("8 bytes!0123456789abcdef")}, "18 05 05 08 3820627974657321 30313233343536373839616263646566"},
	{api.QFrame{Type: api.QNewId, Id: 64, Max: 5, B: bytes.Repeat([]byte("i"), 36)}, "18 4040 05 14" + strings.Repeat("69", 36)},
	{api.QFrame{Type: api.QRetire, Id: 5}, "19 05"},
	{api.QFrame{Type: api.QChallenge, B: []byte("8 bytes!")}, "1a 3820627974657321"},
	{api.QFrame{Type: api.QResponse, B: []byte("8 bytes!")}, "1b 3820627974657321"},
	{api.QFrame{Type: api.QClose, Code: 0x100, Off: 6, B: []byte("why")}, "1c 4100 06 03 776879"},
	{api.QFrame{Type: api.QClose}, "1c 00 00 00"},
	{api.QFrame{Type: api.QClose, App: true, Code: 0x100, B: []byte("why")}, "1d 4100 03 776879"},
	{api.QFrame{Type: api.QClose, App: true}, "1d 00 00"},
	{api.QFrame{Type: api.QClose, Code: top, Off: top}, "1c ffffffffffffffff ffffffffffffffff 00"},
	{api.QFrame{Type: api.QDone}, "1e"},
}

func TestBytes(t *testing.T) { // P19.1, P19.2
	for _, x := range written {
		b := unhex(t, x.b)
		if got, e := Write(nil, x.f); !bytes.Equal(got, b) || e != api.OK {
			t.Errorf("Write(nil, %v): %x, %v, not %x", x.f, got, e, b)
		}
		if got, e := Write([]byte("ahead"), x.f); string(got) != "ahead"+string(b) || e != api.OK {
			t.Errorf("Write(ahead, %v): %x, %v, not ahead and %x", x.f, got, e, b)
		}
		for _, behind := range []string{"", "\x01", "\x1e\x00", "\xff\xff"} {
			if got, n, e := Read(append(bytes.Clone(b), behind...)); !same(got, x.f) || n != len(b) || e != api.OK {
				t.Errorf("Read(%x) with %x behind: %v, %d, %v, not %v", b, behind, got, n, e, x.f)
			}
		}
		if l, e := All(b); !sameAll(l, []api.QFrame{x.f}) || e != api.OK {
			t.Errorf("All(%x): %v, %v", b, l, e)
		}
	}
}

func TestPaddingOfNone(t *testing.T) { // P19.1
	for _, n := range []int{0, -1, math.MinInt} {
		if b, e := Write([]byte("x"), api.QFrame{Type: api.QPadding, N: n}); string(b) != "x\x00" || e != api.OK {
			t.Errorf("N %d: %x, %v", n, b, e)
		}
	}
	if b, e := Write(nil, api.QFrame{}); string(b) != "\x00" || e != api.OK {
		t.Errorf("%x, %v", b, e)
	}
}

// TestReadAsWell: bytes that Read takes and Write doesn't make.
func TestReadAsWell(t *testing.T) { // P19.1, P19.2
	for _, x := range []struct {
		b    string
		f    api.QFrame
		took int
	}{
		{"08 04 6162", api.QFrame{Type: api.QStream, Id: 4, B: []byte("ab")}, 4}, // no length: all that is left
		{"08 04", api.QFrame{Type: api.QStream, Id: 4}, 2},
		{"09 04 6162", api.QFrame{Type: api.QStream, Id: 4, Fin: true, B: []byte("ab")}, 4},
		{"0c 04 09 6162", api.QFrame{Type: api.QStream, Id: 4, Off: 9, B: []byte("ab")}, 5},
		{"0d 04 09 010203", api.QFrame{Type: api.QStream, Id: 4, Off: 9, Fin: true, B: []byte{1, 2, 3}}, 6},
		{"0e 04 00 02 6162 63", api.QFrame{Type: api.QStream, Id: 4, B: []byte("ab")}, 6}, // an offset that is 0
		{"0c 04 00 6162", api.QFrame{Type: api.QStream, Id: 4, B: []byte("ab")}, 5},
		{"0c 04 fffffffffffffffd 6162", api.QFrame{Type: api.QStream, Id: 4, Off: top - 2, B: []byte("ab")}, 12},
		{"10 c000000000000005", api.QFrame{Type: api.QMaxData, Max: 5}, 9}, // numbers in more bytes than they need
		{"0a 4004 80000002 6162", api.QFrame{Type: api.QStream, Id: 4, B: []byte("ab")}, 9},
		{"02 4009 4005 4000 4006", api.QFrame{Type: api.QAck, Delay: 5, Ranges: []api.Range{{First: 3, Last: 9}}}, 9},
		{"1c 00 401c 00", api.QFrame{Type: api.QClose, Off: 0x1c}, 5},
		{"00 00 01", api.QFrame{Type: api.QPadding, N: 2}, 2},
	} {
		b := unhex(t, x.b)
		if f, n, e := Read(b); !same(f, x.f) || n != x.took || e != api.OK {
			t.Errorf("Read(%x): %v, %d, %v, not %v", b, f, n, e, x.f)
		}
	}
}

// refused: Read finds no frame in b, and All none, too.
func refused(t *testing.T, why string, b []byte) {
	t.Helper()
	if f, n, e := Read(b); !same(f, api.QFrame{}) || n != 0 || e != api.ErrFrame {
		t.Errorf("%s: Read(%.40x): %v, %d, %v", why, b, f, n, e)
	}
	if l, e := All(b); len(l) != 0 || e != api.ErrFrame {
		t.Errorf("%s: All(%.40x): %v, %v", why, b, l, e)
	}
	if l, e := All(append([]byte{1}, b...)); len(b) > 0 && (len(l) != 0 || e != api.ErrFrame) {
		t.Errorf("%s: All(a PING, %.40x): %v, %v", why, b, l, e)
	}
}

func TestReadCut(t *testing.T) { // P19.2
	refused(t, "nothing", nil)
	refused(t, "nothing", []byte{})
	for _, x := range written {
		b := unhex(t, x.b)
		for n := range b {
			if x.f.Type != api.QPadding {
				refused(t, "cut", b[:n])
			}
		}
	}
}

func TestTypes(t *testing.T) { // P19.1, P19.2
	behind := append([]byte{1}, make([]byte, 40)...) // what suits all types but 18
	known := "\x00\x01\x02\x04\x05\x06\x07\x08\x09\x0a\x0b\x0c\x0d\x0e\x0f\x10\x11\x12\x13\x14\x15\x16\x17\x19\x1a\x1b\x1c\x1d\x1e"
	for first := range 256 {
		_, _, e := Read(append([]byte{byte(first)}, behind...))
		if want := strings.ContainsRune(known, rune(first)); (e == api.OK) != want || !want && e != api.ErrFrame {
			t.Errorf("type %x: %v", first, e)
		}
	}
	for _, x := range written { // each type in more bytes than it needs
		b := unhex(t, x.b)
		for _, ahead := range []string{"40", "800000", "c0000000000000"} {
			refused(t, "a long type", append(unhex(t, ahead), b...))
		}
	}
	for _, b := range []string{"4040", "40ff 00000000", "80004000 00", "c000000100000001 00", "ffffffffffffffff 0000"} {
		refused(t, "a type that none has", unhex(t, b))
	}
}

func TestReadWrong(t *testing.T) { // P19.1, P19.2
	for _, x := range []struct{ why, b string }{
		{"an ACK with counts of ECN", "03 00 00 00 00 00 00 00"},
		{"an ACK of 33 ranges", "02 40ff 00 20 00" + strings.Repeat("0000", 32)},
		{"an ACK of 33 ranges, whose last one isn't there", "02 40ff 00 20 00" + strings.Repeat("0000", 31)},
		{"an ACK of all ranges that there could be", "02 40ff 00 ffffffffffffffff 00" + strings.Repeat("0000", 100)},
		{"an ACK below 0", "02 05 00 00 06"},
		{"an ACK below 0", "02 05 00 00 ffffffffffffffff"},
		{"an ACK whose second range is below 0", "02 05 00 01 00 04 00"},
		{"an ACK whose second range is below 0", "02 05 00 01 05 00 00"},
		{"an ACK whose second range is below 0", "02 05 00 01 04 00 00"},
		{"an ACK whose second range is below 0", "02 05 00 01 00 00 04"},
		{"an ACK whose second range is below 0", "02 05 00 01 00 ffffffffffffffff 00"},
		{"CRYPTO beyond MaxVar", "06 ffffffffffffffff 01 61"},
		{"CRYPTO beyond MaxVar", "06 fffffffffffffffd 03 616161"},
		{"CRYPTO longer than b", "06 00 04 616161"},
		{"CRYPTO longer than b", "06 00 ffffffffffffffff 616161"},
		{"NEW_TOKEN of nothing", "07 00"},
		{"STREAM beyond MaxVar", "0e 00 ffffffffffffffff 01 61"},
		{"STREAM beyond MaxVar, without a length", "0c 00 ffffffffffffffff 61"},
		{"STREAM beyond MaxVar, without a length", "0d 00 fffffffffffffffe 6161"},
		{"STREAM longer than b", "0a 00 02 61"},
		{"MAX_STREAMS", "12 d000000000000001"},
		{"MAX_STREAMS", "13 d000000000000001"},
		{"MAX_STREAMS", "12 ffffffffffffffff"},
		{"STREAMS_BLOCKED", "16 d000000000000001"},
		{"STREAMS_BLOCKED", "17 d000000000000001"},
		{"NEW_CONNECTION_ID that retires itself", "18 04 05 01" + strings.Repeat("69", 17)},
		{"NEW_CONNECTION_ID of no id", "18 05 05 00" + strings.Repeat("69", 16)},
		{"NEW_CONNECTION_ID of 21", "18 05 05 15" + strings.Repeat("69", 37)},
		{"NEW_CONNECTION_ID of 255", "18 05 05 ff" + strings.Repeat("69", 271)},
		{"NEW_CONNECTION_ID whose length is no byte", "18 05 05 4008" + strings.Repeat("69", 24)},
		{"NEW_CONNECTION_ID with 15 more", "18 05 05 08" + strings.Repeat("69", 23)},
		{"CONNECTION_CLOSE longer than b", "1c 00 00 02 61"},
		{"CONNECTION_CLOSE of the application longer than b", "1d 00 02 61"},
	} {
		refused(t, x.why, unhex(t, x.b))
	}
}

func TestWriteWrong(t *testing.T) { // P19.1, P19.2
	good := api.QFrame{Type: api.QPing}
	var wrong []api.QFrame
	for _, ranges := range [][]api.Range{
		nil,
		{},
		down(100, 33),
		{{First: 2, Last: 1}},
		{{First: top, Last: 0}},
		{{First: math.MaxUint64, Last: 0}}, // as if one lay below 0
		{{First: 5, Last: 9}, {First: math.MaxUint64, Last: 0}},
		{{First: 5, Last: 9}, {First: 4, Last: 4}}, // one below
		{{First: 5, Last: 9}, {First: 5, Last: 5}},
		{{First: 5, Last: 9}, {First: 5, Last: 9}},
		{{First: 5, Last: 9}, {First: 6, Last: 7}},
		{{First: 5, Last: 9}, {First: 11, Last: 12}}, // from the least up
		{{First: 5, Last: 9}, {First: 3, Last: 2}},
		{{First: 0, Last: 9}, {First: 0, Last: 0}},
		{{First: 1, Last: 9}, {First: 0, Last: 0}},
		{{First: 1, Last: 9}, {First: 0, Last: math.MaxUint64}},
		{{First: 1, Last: 1}, {First: math.MaxUint64 - 9, Last: math.MaxUint64 - 9}},
		{{First: 0, Last: 0}, {First: math.MaxUint64 - 9, Last: math.MaxUint64 - 9}},
		{{First: 0, Last: top + 1}},
		{{First: top + 1, Last: top + 1}},
		{{First: 0, Last: math.MaxUint64}},
		{{First: math.MaxUint64, Last: math.MaxUint64}, {First: 1, Last: 2}},
	} {
		wrong = append(wrong, api.QFrame{Type: api.QAck, Ranges: ranges})
	}
	id := func(n int) []byte { return make([]byte, n) }
	for _, v := range []uint64{top + 1, math.MaxUint64, 1 << 63} {
		for _, kind := range []uint64{api.QMaxData, api.QMaxStream, api.QMaxStreams, api.QDataBlk, api.QStreamBlk, api.QStreamsBlk, api.QReset} {
			wrong = append(wrong, api.QFrame{Type: kind, Max: v})
		}
		for _, kind := range []uint64{api.QReset, api.QStop, api.QStream, api.QMaxStream, api.QStreamBlk, api.QRetire} {
			wrong = append(wrong, api.QFrame{Type: kind, Id: v})
		}
		for _, kind := range []uint64{api.QReset, api.QStop, api.QClose} {
			wrong = append(wrong, api.QFrame{Type: kind, Code: v})
		}
		for _, kind := range []uint64{api.QCrypto, api.QStream, api.QClose} {
			wrong = append(wrong, api.QFrame{Type: kind, Off: v})
		}
		wrong = append(wrong,
			api.QFrame{Type: api.QClose, App: true, Code: v},
			api.QFrame{Type: api.QNewId, Id: v, B: id(24)},
			api.QFrame{Type: api.QNewId, Id: v, Max: v, B: id(24)},
			api.QFrame{Type: api.QAck, Delay: v, Ranges: down(0, 1)},
		)
	}
	for _, n := range []int{0, 1, 15, 16, 37, 38, 100, 16 + 256} {
		wrong = append(wrong, api.QFrame{Type: api.QNewId, Id: 1, B: id(n)})
	}
	for _, n := range []int{0, 7, 9, 16} {
		wrong = append(wrong, api.QFrame{Type: api.QChallenge, B: id(n)}, api.QFrame{Type: api.QResponse, B: id(n)})
	}
	wrong = append(wrong,
		api.QFrame{Type: api.QNewId, Id: 4, Max: 5, B: id(24)},
		api.QFrame{Type: api.QToken},
		api.QFrame{Type: api.QToken, B: id(0)},
		api.QFrame{Type: api.QCrypto, Off: top, B: id(1)},
		api.QFrame{Type: api.QCrypto, Off: top - 2, B: id(3)},
		api.QFrame{Type: api.QStream, Off: top, B: id(1)},
		api.QFrame{Type: api.QStream, Off: top - 2, B: id(3)},
		api.QFrame{Type: api.QMaxStreams, Max: 1<<60 + 1},
		api.QFrame{Type: api.QMaxStreams, Max: 1<<60 + 1, Uni: true},
		api.QFrame{Type: api.QStreamsBlk, Max: 1<<60 + 1},
		api.QFrame{Type: api.QStreamsBlk, Max: 1<<60 + 1, Uni: true},
		api.QFrame{Type: api.QPadding, N: math.MaxInt},
	)
	for _, kind := range []uint64{3, 9, 10, 11, 12, 13, 14, 15, 0x13, 0x17, 0x1d, 0x1f, 0x20, 0x40, top, math.MaxUint64} {
		for _, b := range [][]byte{nil, id(8), id(24)} {
			wrong = append(wrong, api.QFrame{Type: kind, B: b, Ranges: down(0, 1)}, api.QFrame{Type: kind, B: b})
		}
	}
	for _, f := range wrong {
		for _, l := range [][]api.QFrame{{f}, {good, f}, {f, good}, {good, f, good}, {f, f}} {
			if b, e := Write([]byte("ahead"), l...); len(b) != 0 || e != api.ErrFrame {
				t.Errorf("Write(%v): %x, %v", l, b, e)
			}
		}
	}
}

// fields: a setter for each field of a frame, by its name.
var fields = map[string]func(*api.QFrame){
	"Id":     func(f *api.QFrame) { f.Id = 1 },
	"Off":    func(f *api.QFrame) { f.Off = 1 },
	"Fin":    func(f *api.QFrame) { f.Fin = true },
	"Max":    func(f *api.QFrame) { f.Max = 1 },
	"Code":   func(f *api.QFrame) { f.Code = 1 },
	"Delay":  func(f *api.QFrame) { f.Delay = 1 },
	"Ranges": func(f *api.QFrame) { f.Ranges = down(9, 1) },
	"B":      func(f *api.QFrame) { f.B = []byte("8 bytes!") },
	"Uni":    func(f *api.QFrame) { f.Uni = true },
	"App":    func(f *api.QFrame) { f.App = true },
	"N":      func(f *api.QFrame) { f.N = 1 },
}

// TestFieldsOfOthers: what a type hasn't is 0, or it can't be so.
func TestFieldsOfOthers(t *testing.T) { // P19.1, P19.2
	newId := api.QFrame{Type: api.QNewId, Id: 5, B: make([]byte, 24)}
	eight := []byte("8 bytes?")
	for _, x := range []struct {
		f    api.QFrame
		have string
	}{
		{api.QFrame{Type: api.QPadding}, "N"},
		{api.QFrame{Type: api.QPing}, ""},
		{api.QFrame{Type: api.QAck, Ranges: down(4, 2)}, "Delay Ranges"},
		{api.QFrame{Type: api.QReset}, "Id Code Max"},
		{api.QFrame{Type: api.QStop}, "Id Code"},
		{api.QFrame{Type: api.QCrypto}, "Off B"},
		{api.QFrame{Type: api.QToken, B: eight}, "B"},
		{api.QFrame{Type: api.QStream}, "Id Off Fin B"},
		{api.QFrame{Type: api.QMaxData}, "Max"},
		{api.QFrame{Type: api.QMaxStream}, "Id Max"},
		{api.QFrame{Type: api.QMaxStreams}, "Max Uni"},
		{api.QFrame{Type: api.QDataBlk}, "Max"},
		{api.QFrame{Type: api.QStreamBlk}, "Id Max"},
		{api.QFrame{Type: api.QStreamsBlk}, "Max Uni"},
		{newId, "Id Max"},
		{api.QFrame{Type: api.QRetire}, "Id"},
		{api.QFrame{Type: api.QChallenge, B: eight}, "B"},
		{api.QFrame{Type: api.QResponse, B: eight}, "B"},
		{api.QFrame{Type: api.QClose}, "Code Off B App"},
		{api.QFrame{Type: api.QClose, App: true}, "Code B"},
		{api.QFrame{Type: api.QDone}, ""},
	} {
		for name, set := range fields {
			f := x.f
			set(&f)
			_, e := Write(nil, f)
			if f.Type == api.QNewId && name == "B" || f.App && x.f.App && name == "App" {
				continue
			}
			has := slices.Contains(strings.Fields(x.have), name)
			if has && e != api.OK || !has && e != api.ErrFrame {
				t.Errorf("Write(%v), of which %s is its own: %v: %v", f, name, has, e)
			}
		}
	}
}

func TestSeveral(t *testing.T) { // P19.2
	var l []api.QFrame
	want := "ahead"
	for _, x := range written[3:] {
		l, want = append(l, x.f), want+string(unhex(t, x.b))
	}
	b, e := Write([]byte("ahead"), l...)
	if string(b) != want || e != api.OK {
		t.Errorf("%x, %v, not %x", b, e, want)
	}
	if got, e := All(b[5:]); !sameAll(got, l) || e != api.OK {
		t.Errorf("%v, %v", got, e)
	}
	for _, b := range [][]byte{nil, []byte("ahead")} {
		if got, e := Write(b); !bytes.Equal(got, b) || e != api.OK {
			t.Errorf("none behind %q: %q, %v", b, got, e)
		}
	}
	if got, e := All([]byte{0, 0, 1, 0, 1, 1, 0}); e != api.OK || !sameAll(got, []api.QFrame{{N: 2}, {Type: 1}, {N: 1}, {Type: 1}, {Type: 1}, {N: 1}}) {
		t.Errorf("%v, %v", got, e)
	}
	for _, b := range [][]byte{{1, 3}, {0, 3}, {1, 1, 1, 2}, {0, 0x40, 0}} {
		if l, e := All(b); len(l) != 0 || e != api.ErrFrame {
			t.Errorf("All(%x): %v, %v", b, l, e)
		}
	}
}

func TestEager(t *testing.T) { // P19.2
	for _, x := range written {
		f := x.f
		if want := f.Type != 0 && f.Type != 2 && f.Type != 0x1c; Eager(f) != want {
			t.Errorf("Eager(%v): %v", f, !want)
		}
		if want := f.Type != 0 && f.Type != 2 && f.Type != 0x1c; Eager(api.QFrame{Type: f.Type}) != want {
			t.Errorf("Eager of type %x alone: %v", f.Type, !want)
		}
	}
}

func anyNumber(r *rand.Rand) uint64 { return r.Uint64() >> (2 + r.Intn(62)) }

func some(r *rand.Rand, n int) []byte {
	b := make([]byte, n)
	r.Read(b)
	return b
}

func anyRanges(r *rand.Rand) []api.Range {
	var l []api.Range
	last := anyNumber(r)
	for range 1 + r.Intn(api.MaxRanges) {
		first := last - min(last, anyNumber(r)>>r.Intn(40))
		l = append(l, api.Range{First: first, Last: last})
		gap := 2 + anyNumber(r)>>r.Intn(60)
		if gap > first {
			break
		}
		last = first - gap
	}
	return l
}

// anyFrame: one that can be so; a PADDING of one nought at least.
func anyFrame(r *rand.Rand) api.QFrame {
	v, w, x := anyNumber(r), anyNumber(r), anyNumber(r)
	b := some(r, r.Intn(100))
	yes := r.Intn(2) == 0
	switch r.Intn(21) {
	case 0:
		return api.QFrame{Type: api.QPadding, N: 1 + r.Intn(9)}
	case 1:
		return api.QFrame{Type: api.QPing}
	case 2, 3:
		return api.QFrame{Type: api.QAck, Delay: v, Ranges: anyRanges(r)}
	case 4:
		return api.QFrame{Type: api.QReset, Id: v, Code: w, Max: x}
	case 5:
		return api.QFrame{Type: api.QStop, Id: v, Code: w}
	case 6:
		return api.QFrame{Type: api.QCrypto, Off: min(v, top-uint64(len(b))), B: b}
	case 7:
		return api.QFrame{Type: api.QToken, B: append(b, 1)}
	case 8, 9:
		return api.QFrame{Type: api.QStream, Id: v, Off: min(w, top-uint64(len(b))) * uint64(r.Intn(2)), Fin: yes, B: b}
	case 10:
		return api.QFrame{Type: api.QMaxData, Max: v}
	case 11:
		return api.QFrame{Type: api.QMaxStream, Id: v, Max: w}
	case 12:
		return api.QFrame{Type: api.QMaxStreams, Max: min(v, 1<<60), Uni: yes}
	case 13:
		return api.QFrame{Type: api.QDataBlk, Max: v}
	case 14:
		return api.QFrame{Type: api.QStreamBlk, Id: v, Max: w}
	case 15:
		return api.QFrame{Type: api.QStreamsBlk, Max: min(v, 1<<60), Uni: yes}
	case 16:
		return api.QFrame{Type: api.QNewId, Id: max(v, w), Max: min(v, w), B: some(r, 17+r.Intn(20))}
	case 17:
		return api.QFrame{Type: api.QRetire, Id: v}
	case 18:
		return api.QFrame{Type: api.QChallenge + uint64(r.Intn(2)), B: some(r, 8)}
	case 19:
		if yes {
			return api.QFrame{Type: api.QClose, App: true, Code: v, B: b}
		}
		return api.QFrame{Type: api.QClose, Code: v, Off: w, B: b}
	}
	return api.QFrame{Type: api.QDone}
}

func TestBackAgain(t *testing.T) { // P19.3
	r := rand.New(rand.NewSource(19))
	for range 20000 {
		var l []api.QFrame
		for range 1 + r.Intn(6) {
			f := anyFrame(r)
			if len(l) > 0 && f.Type == api.QPadding && l[len(l)-1].Type == api.QPadding {
				continue // both would be one
			}
			l = append(l, f)
		}
		b, e := Write(nil, l...)
		if e != api.OK {
			t.Fatalf("Write(%v): %v", l, e)
		}
		if got, e := All(b); !sameAll(got, l) || e != api.OK {
			t.Fatalf("%v came back as %v, %v", l, got, e)
		}
		for _, f := range l {
			got, n, e := Read(b)
			if !same(got, f) || e != api.OK {
				t.Fatalf("%v was read as %v, %v", f, got, e)
			}
			b = b[n:]
		}
	}
}

// plainReader: RFC 9000's frames, number by number; it panics where there is none such.
type plainReader struct {
	b  []byte
	at int
}

func (p *plainReader) must(ok bool) {
	if !ok {
		panic("no frame")
	}
}

func (p *plainReader) byte() byte {
	p.must(p.at < len(p.b))
	p.at++
	return p.b[p.at-1]
}

func (p *plainReader) v() uint64 {
	first := p.byte()
	v := uint64(first % 64)
	for range []int{0, 1, 3, 7}[first/64] {
		v = v*256 + uint64(p.byte())
	}
	return v
}

func (p *plainReader) many(n uint64) []byte {
	var b []byte
	p.must(n <= uint64(len(p.b)-p.at))
	for range n {
		b = append(b, p.byte())
	}
	return b
}

func (p *plainReader) ack() api.QFrame {
	f := api.QFrame{Type: 2}
	largest := p.v()
	f.Delay = p.v()
	count := p.v()
	p.must(count <= 31)
	length := p.v()
	p.must(length <= largest)
	smallest := largest - length
	f.Ranges = append(f.Ranges, api.Range{First: smallest, Last: largest})
	for range count {
		gap := p.v()
		p.must(smallest >= gap+2)
		largest = smallest - gap - 2
		length = p.v()
		p.must(length <= largest)
		smallest = largest - length
		f.Ranges = append(f.Ranges, api.Range{First: smallest, Last: largest})
	}
	return f
}

func (p *plainReader) frame() api.QFrame {
	kind := p.byte()
	switch kind {
	case 0:
		n := 1
		for p.at < len(p.b) && p.b[p.at] == 0 {
			p.at, n = p.at+1, n+1
		}
		return api.QFrame{N: n}
	case 1, 0x1e:
		return api.QFrame{Type: uint64(kind)}
	case 2:
		return p.ack()
	case 4:
		return api.QFrame{Type: 4, Id: p.v(), Code: p.v(), Max: p.v()}
	case 5:
		return api.QFrame{Type: 5, Id: p.v(), Code: p.v()}
	case 6:
		f := api.QFrame{Type: 6, Off: p.v()}
		f.B = p.many(p.v())
		p.must(f.Off+uint64(len(f.B)) < 1<<62)
		return f
	case 7:
		f := api.QFrame{Type: 7, B: p.many(p.v())}
		p.must(len(f.B) > 0)
		return f
	case 8, 9, 10, 11, 12, 13, 14, 15:
		f := api.QFrame{Type: 8, Id: p.v(), Fin: kind%2 == 1}
		if kind >= 12 {
			f.Off = p.v()
		}
		if kind/2%2 == 1 {
			f.B = p.many(p.v())
		} else {
			f.B = p.many(uint64(len(p.b) - p.at))
		}
		p.must(f.Off+uint64(len(f.B)) < 1<<62)
		return f
	case 0x10, 0x14:
		return api.QFrame{Type: uint64(kind), Max: p.v()}
	case 0x11, 0x15:
		return api.QFrame{Type: uint64(kind), Id: p.v(), Max: p.v()}
	case 0x12, 0x13, 0x16, 0x17:
		f := api.QFrame{Type: uint64(kind - kind%2), Max: p.v(), Uni: kind%2 == 1}
		p.must(f.Max <= 1<<60)
		return f
	case 0x18:
		f := api.QFrame{Type: 0x18, Id: p.v(), Max: p.v()}
		n := uint64(p.byte())
		p.must(n >= 1 && n <= 20 && f.Max <= f.Id)
		f.B = p.many(n + 16)
		return f
	case 0x19:
		return api.QFrame{Type: 0x19, Id: p.v()}
	case 0x1a, 0x1b:
		return api.QFrame{Type: uint64(kind), B: p.many(8)}
	case 0x1c:
		return api.QFrame{Type: 0x1c, Code: p.v(), Off: p.v(), B: p.many(p.v())}
	case 0x1d:
		return api.QFrame{Type: 0x1c, App: true, Code: p.v(), B: p.many(p.v())}
	}
	panic("no frame")
}

func plain(b []byte) (f api.QFrame, n int, e api.Errno) {
	p := &plainReader{b: b}
	defer func() {
		if recover() != nil {
			f, n, e = api.QFrame{}, 0, api.ErrFrame
		}
	}()
	f = p.frame()
	return f, p.at, api.OK
}

func TestAnyBytes(t *testing.T) { // P19.1, P19.2
	r := rand.New(rand.NewSource(2))
	good := 0
	for range 300000 {
		b, _ := Write(nil, anyFrame(r), anyFrame(r))
		for range r.Intn(3) { // a few bytes of it are others, the first ones most often
			b[r.Intn(1+r.Intn(len(b)))] = byte(r.Intn(256) >> r.Intn(8))
		}
		b = b[:len(b)-r.Intn(1+r.Intn(len(b)+1))]
		f, n, e := Read(b)
		wf, wn, we := plain(b)
		if !same(f, wf) || n != wn || e != we {
			t.Fatalf("Read(%x): %v, %d, %v, not %v, %d, %v", b, f, n, e, wf, wn, we)
		}
		if e == api.OK {
			good++
		}
	}
	if good < 30000 || good > 290000 {
		t.Errorf("%d were frames", good)
	}
}

// TestWhatIsReadCanBeWritten: no frame that Read answers is one that Write refuses.
func TestWhatIsReadCanBeWritten(t *testing.T) { // P19.3
	r := rand.New(rand.NewSource(3))
	for range 100000 {
		b := some(r, 1+r.Intn(60))
		b[0] %= 32
		f, _, e := Read(b)
		if e != api.OK {
			continue
		}
		again, e := Write(nil, f)
		if got, n, e2 := Read(again); e != api.OK || e2 != api.OK || n != len(again) || !same(got, f) {
			t.Fatalf("Read(%x): %v, written %x, %v, read %v", b, f, again, e, got)
		}
	}
}

func TestHandedIn(t *testing.T) { // DOC's rule 3
	room := []byte("ahead, and spare room that is enough for some frames")
	payload := []byte("8 bytes!, and spare room")
	ranges := append(down(9, 2), api.Range{First: 77, Last: 78})
	l := []api.QFrame{{Type: api.QStream, B: payload[:8]}, {Type: api.QAck, Ranges: ranges[:2]}, {Type: api.QChallenge, B: payload[:8]}}
	b, _ := Write(room[:5], l...)
	if string(room) != "ahead, and spare room that is enough for some frames" || string(payload) != "8 bytes!, and spare room" || ranges[2].First != 77 || ranges[0].Last != 9 {
		t.Errorf("Write changed what was handed in: %q, %q, %v", room, payload, ranges)
	}
	want := string(b)
	clear(room)
	clear(payload)
	clear(ranges)
	if string(b) != want {
		t.Errorf("Write's answer changed with what was handed in: %q", b)
	}
	empty, _ := Write(room[:0])
	if _ = append(empty, "over"...); !bytes.Equal(room, make([]byte, len(room))) {
		t.Errorf("Write of nothing handed out the room: %q", room)
	}

	wire := b[5:]
	before := string(wire)
	got, e := All(wire)
	if e != api.OK || len(got) != 3 {
		t.Fatal(got, e)
	}
	one, _, _ := Read(wire)
	for _, f := range append(got, one) {
		_ = append(f.B, "over"...)
		_ = append(f.Ranges, api.Range{})
	}
	if string(wire) != before {
		t.Errorf("what was read shares with what was handed in: %q", wire)
	}
	clear(wire)
	if string(got[0].B) != "8 bytes!" || string(got[2].B) != "8 bytes!" || string(one.B) != "8 bytes!" || !slices.Equal(got[1].Ranges, down(9, 2)) {
		t.Errorf("what was read changed with what was handed in: %v, %v", got, one)
	}
}
