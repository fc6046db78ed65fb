package h2pay

import (
	"bytes"
	"encoding/hex"
	"fmt"
	"math"
	"slices"
	"strings"
	"testing"

	"bifold/api"
)

func unhex(t *testing.T, s string) []byte {
	t.Helper()
	b, err := hex.DecodeString(strings.ReplaceAll(s, " ", ""))
	if err != nil {
		t.Fatal(err)
	}
	return b
}

func samePay(a, b api.Pay) bool {
	return bytes.Equal(a.Data, b.Data) && slices.Equal(a.Settings, b.Settings) && a.Code == b.Code && a.Stream == b.Stream && a.Incr == b.Incr
}

func sameFrame(a, b api.Frame) bool {
	return a.Type == b.Type && a.Flags == b.Flags && a.Stream == b.Stream && bytes.Equal(a.B, b.B)
}

// reads: Read tells that of f.
func reads(t *testing.T, f api.Frame, want api.Pay, rule int) {
	t.Helper()
	if p, r := Read(f); !samePay(p, want) || r != rule {
		t.Errorf("Read(%.60v): %.60v, rule %d, not %.60v, %d", f, p, r, want, rule)
	}
}

// lasting: on which streams a type may be: 1, 0, or both.
var lasting = map[uint8]string{
	api.F2Data: "1", api.F2Headers: "1", api.F2Priority: "1", api.F2Reset: "1", api.F2Push: "1", api.F2Continuation: "1",
	api.F2Settings: "0", api.F2Ping: "0", api.F2Goaway: "0",
	api.F2Window: "01",
}

const (
	end, endHeaders, padFlag, priority = api.FlagEnd, api.FlagEndHeaders, api.FlagPadded, api.FlagPriority
)

func TestRead(t *testing.T) { // P12.1
	data := func(s string) api.Pay { return api.Pay{Data: []byte(s)} }
	for _, x := range []struct {
		kind, flags uint8
		b           string
		want        api.Pay
	}{
		{api.F2Data, 0, "", api.Pay{}},
		{api.F2Data, 0, "61", data("a")},
		{api.F2Data, end, "616263", data("abc")},
		{api.F2Data, priority, "616263646566", data("abcdef")}, // no flag of DATA's
		{api.F2Data, padFlag, "00", api.Pay{}},
		{api.F2Data, padFlag, "00 6162", data("ab")},
		{api.F2Data, padFlag, "01 6162 00", data("ab")},
		{api.F2Data, padFlag, "02 6162 0000", data("ab")},
		{api.F2Data, padFlag, "03 61 ff80ff", data("a")}, // padding of any bytes
		{api.F2Data, padFlag | end, "02 0000", api.Pay{}},
		{api.F2Headers, 0, "", api.Pay{}},
		{api.F2Headers, end | endHeaders, "8284", data("\x82\x84")},
		{api.F2Headers, padFlag, "01 82 00", data("\x82")},
		{api.F2Headers, priority, "80000003 ff", api.Pay{}}, // of which nothing is told
		{api.F2Headers, priority, "80000003 ff 8284", data("\x82\x84")},
		{api.F2Headers, padFlag | priority, "00 00000003 10", api.Pay{}},
		{api.F2Headers, padFlag | priority, "02 00000003 10 8284 0000", data("\x82\x84")},
		{api.F2Headers, padFlag | priority, "02 00000003 10 0000", api.Pay{}},
		{api.F2Priority, 0, "00000000 00", api.Pay{}},
		{api.F2Priority, 0, "01020304 05", api.Pay{Stream: 0x01020304}},
		{api.F2Priority, 0xff, "ffffffff ff", api.Pay{Stream: 1<<31 - 1}},
		{api.F2Reset, 0, "00000000", api.Pay{}},
		{api.F2Reset, 0xff, "81020304", api.Pay{Code: 0x81020304}},
		{api.F2Settings, 0, "", api.Pay{}},
		{api.F2Settings, end, "", api.Pay{}},
		{api.F2Settings, 0, "0003 00000064", api.Pay{Settings: []api.Setting{{Id: 3, Value: 100}}}},
		{api.F2Settings, 0xfe, "ffff ffffffff 0000 00000000 0102 03040506", api.Pay{Settings: []api.Setting{{Id: 0xffff, Value: 1<<32 - 1}, {}, {Id: 0x0102, Value: 0x03040506}}}},
		{api.F2Settings, 0, "0004 00000001 0004 80000000", api.Pay{Settings: []api.Setting{{Id: 4, Value: 1}, {Id: 4, Value: 1 << 31}}}},
		{api.F2Push, 0, "00000002", api.Pay{Stream: 2}},
		{api.F2Push, priority, "81020304 8284", api.Pay{Stream: 0x01020304, Data: []byte("\x82\x84")}},
		{api.F2Push, padFlag, "00 00000002", api.Pay{Stream: 2}},
		{api.F2Push, padFlag | endHeaders, "03 ffffffff 82 000000", api.Pay{Stream: 1<<31 - 1, Data: []byte("\x82")}},
		{api.F2Push, padFlag, "03 00000002 000000", api.Pay{Stream: 2}},
		{api.F2Ping, 0, "0102030405060708", data("\x01\x02\x03\x04\x05\x06\x07\x08")},
		{api.F2Ping, 0xff, "0102030405060708", data("\x01\x02\x03\x04\x05\x06\x07\x08")},
		{api.F2Goaway, 0, "00000000 00000000", api.Pay{}},
		{api.F2Goaway, 0xff, "81020304 85060708", api.Pay{Stream: 0x01020304, Code: 0x85060708}},
		{api.F2Goaway, 0, "00000003 0000000b 6f7570", api.Pay{Stream: 3, Code: 11, Data: []byte("oup")}},
		{api.F2Window, 0, "00000001", api.Pay{Incr: 1}},
		{api.F2Window, 0xff, "ffffffff", api.Pay{Incr: 1<<31 - 1}},
		{api.F2Window, 0, "81020304", api.Pay{Incr: 0x01020304}},
		{api.F2Continuation, 0, "", api.Pay{}},
		{api.F2Continuation, 0xff, "028284", data("\x02\x82\x84")}, // neither padding nor a priority
	} {
		f := api.Frame{Type: x.kind, Flags: x.flags, B: unhex(t, x.b)}
		for _, s := range []uint32{0, 1, 2, 0x01020300, 1<<31 - 1, 1 << 31, 1<<31 | 1, 1<<32 - 1} {
			f.Stream = s
			on := "1"
			if s == 0 || s == 1<<31 { // the highest bit is left out
				on = "0"
			}
			if strings.Contains(lasting[x.kind], on) {
				reads(t, f, x.want, api.RuleNone)
			} else {
				reads(t, f, api.Pay{}, api.RuleStreamZero)
			}
		}
	}
}

func TestOtherTypes(t *testing.T) { // P12.1
	for kind := api.F2Continuation + 1; kind < 256; kind++ {
		for _, s := range []uint32{0, 1, 1 << 31} {
			for _, b := range []string{"", "\xff", "\x00\x00\x00\x00", "12345678"} {
				reads(t, api.Frame{Type: uint8(kind), Flags: 0xff, Stream: s, B: []byte(b)}, api.Pay{}, api.RuleNone)
			}
		}
	}
}

func TestSizes(t *testing.T) { // P12.1
	below := func(n int) func(int) bool { return func(k int) bool { return k < n } }
	not := func(n int) func(int) bool { return func(k int) bool { return k != n } }
	never := func(int) bool { return false }
	for _, x := range []struct {
		kind, flags uint8
		wrong       func(n int) bool
	}{
		{api.F2Data, 0, never},
		{api.F2Data, 0xff &^ padFlag, never},
		{api.F2Data, padFlag, below(1)},
		{api.F2Data, 0xff, below(1)},
		{api.F2Headers, 0xff &^ (padFlag | priority), never},
		{api.F2Headers, padFlag, below(1)},
		{api.F2Headers, priority, below(5)},
		{api.F2Headers, padFlag | priority, below(6)},
		{api.F2Headers, 0xff, below(6)},
		{api.F2Priority, 0, not(5)},
		{api.F2Priority, 0xff, not(5)},
		{api.F2Reset, 0, not(4)},
		{api.F2Reset, 0xff, not(4)},
		{api.F2Settings, 0, func(n int) bool { return n%6 != 0 }},
		{api.F2Settings, 0xff &^ end, func(n int) bool { return n%6 != 0 }},
		{api.F2Settings, end, not(0)},
		{api.F2Settings, 0xff, not(0)},
		{api.F2Push, 0, below(4)},
		{api.F2Push, priority, below(4)},
		{api.F2Push, padFlag, below(5)},
		{api.F2Push, 0xff, below(5)},
		{api.F2Ping, 0, not(8)},
		{api.F2Ping, end, not(8)},
		{api.F2Goaway, 0, below(8)},
		{api.F2Goaway, 0xff, below(8)},
		{api.F2Window, 0, not(4)},
		{api.F2Window, 0xff, not(4)},
		{api.F2Continuation, 0, never},
		{api.F2Continuation, 0xff, never},
	} {
		for n := range 40 {
			f := api.Frame{Type: x.kind, Flags: x.flags, B: bytes.Repeat([]byte{1}, n)}
			if lasting[x.kind] == "1" {
				f.Stream = 1
			}
			p, r := Read(f)
			if wrong := x.wrong(n); wrong != (r == api.RuleFrameSize) || wrong && !samePay(p, api.Pay{}) {
				t.Errorf("type %d, flags %x, %d bytes: %v, rule %d", x.kind, x.flags, n, p, r)
			}
			if f.Stream ^= 1; x.kind != api.F2Window { // the stream is asked ahead of the size
				reads(t, f, api.Pay{}, api.RuleStreamZero)
			}
		}
	}
}

func TestExample(t *testing.T) { // P12.1
	reads(t, api.Frame{Type: api.F2Reset, Stream: 1, B: []byte("\x00\x00\x01")}, api.Pay{}, api.RuleFrameSize)
}

func TestPadding(t *testing.T) { // P12.1
	for _, x := range []struct {
		kind, flags uint8
		ahead       string // behind the pad's length
		want        api.Pay
	}{
		{api.F2Data, padFlag, "", api.Pay{}},
		{api.F2Data, padFlag | priority, "", api.Pay{}},
		{api.F2Headers, padFlag, "", api.Pay{}},
		{api.F2Headers, padFlag | priority, "\x00\x00\x00\x03\x10", api.Pay{}},
		{api.F2Push, padFlag, "\x00\x00\x00\x02", api.Pay{Stream: 2}},
	} {
		for pad := range 256 {
			for left := range 300 {
				behind := strings.Repeat("\x7f", left)
				f := api.Frame{Type: x.kind, Flags: x.flags, Stream: 1, B: []byte(string([]byte{byte(pad)}) + x.ahead + behind)}
				if pad > left {
					reads(t, f, api.Pay{}, api.RuleOrder)
					continue
				}
				want := x.want
				want.Data = []byte(behind[pad:])
				reads(t, f, want, api.RuleNone)
			}
		}
	}
}

func TestIncrementOfZero(t *testing.T) { // P12.1
	for _, s := range []uint32{0, 1, 1<<32 - 1} {
		for _, b := range []string{"\x00\x00\x00\x00", "\x80\x00\x00\x00"} {
			reads(t, api.Frame{Type: api.F2Window, Stream: s, B: []byte(b)}, api.Pay{}, api.RuleFlow)
		}
	}
}

func TestData(t *testing.T) { // P12.2
	for _, b := range []string{"", "a", "\x00\xff\x00", strings.Repeat("body", 5000)} {
		for _, pad := range []int{math.MinInt, -1, 0, 1, 2, 127, 128, 254, 255, 256, 257, 512, math.MaxInt} {
			payload, padded := b, uint8(0)
			if 0 <= pad && pad <= 255 {
				payload, padded = string([]byte{byte(pad)})+b+strings.Repeat("\x00", pad), 8
			}
			for flags := range uint8(4) {
				ends, last := flags&1 != 0, flags&2 != 0
				want := api.Frame{Type: 0, Flags: flags&1 | padded, Stream: 5, B: []byte(payload)}
				if f := Data(5, ends, pad, []byte(b)); !sameFrame(f, want) {
					t.Errorf("Data(5, %v, %d, %.20q): %.60v", ends, pad, b, f)
				}
				want.Type, want.Flags = 1, flags&1|flags&2<<1|padded
				if f := Headers(5, ends, last, pad, []byte(b)); !sameFrame(f, want) {
					t.Errorf("Headers(5, %v, %v, %d, %.20q): %.60v", ends, last, pad, b, f)
				}
			}
		}
	}
	for _, s := range []uint32{0, 1, 1<<31 - 1} {
		if f := Data(s, false, -1, nil); !sameFrame(f, api.Frame{Stream: s}) {
			t.Errorf("stream %d: %v", s, f)
		}
		if f := Headers(s, false, false, -1, nil); !sameFrame(f, api.Frame{Type: api.F2Headers, Stream: s}) {
			t.Errorf("stream %d: %v", s, f)
		}
	}
}

func TestSettings(t *testing.T) { // P12.2
	for _, x := range []struct {
		l []api.Setting
		b string
	}{
		{nil, ""},
		{[]api.Setting{{}}, "0000 00000000"},
		{[]api.Setting{{Id: 3, Value: 100}}, "0003 00000064"},
		{[]api.Setting{{Id: 0x0102, Value: 0x03040506}, {Id: 1, Value: 1}, {Id: 1, Value: 2}}, "0102 03040506 0001 00000001 0001 00000002"},
		{[]api.Setting{{Id: 0xffff, Value: 1<<32 - 1}}, "ffff ffffffff"},
		{[]api.Setting{{Id: 0x10000, Value: 1 << 32}, {Id: math.MaxUint64, Value: 0}, {Id: 0, Value: math.MaxUint64}}, "0000 00000000 ffff 00000000 0000 ffffffff"},
		{[]api.Setting{{Id: 0x0102030405060708, Value: 0x1112131415161718}}, "0708 15161718"},
	} {
		if f := Settings(x.l...); !sameFrame(f, api.Frame{Type: 4, B: unhex(t, x.b)}) {
			t.Errorf("Settings(%v): %v, not %s", x.l, f, x.b)
		}
	}
}

func TestCode(t *testing.T) { // P12.3
	codes := map[int][2]uint64{
		api.RuleNone:        {0, 0x100},
		api.RuleFrameSize:   {6, 0x106},
		api.RuleStreamZero:  {1, 0x103},
		api.RuleFlow:        {3, 0x101},
		api.RuleSettings:    {1, 0x109},
		api.RuleClosed:      {5, 0x104},
		api.RuleOrder:       {1, 0x105},
		api.RuleCompression: {9, 0x200},
		api.RuleMessage:     {1, 0x10e},
		api.RuleUnexpected:  {1, 0x105},
	}
	for _, rule := range []int{math.MinInt, -1, 0, 1, 2, 3, 4, 5, 6, 7, 8, 9, 10, 11, 100, math.MaxInt} {
		want, ok := codes[rule]
		if !ok {
			want = [2]uint64{2, 0x102}
		}
		if c2, c3 := Code(rule, 2), Code(rule, 3); c2 != want[0] || c3 != want[1] {
			t.Errorf("Code(%d): %#x, %#x, not %#x", rule, c2, c3, want)
		}
		for _, stack := range []int{math.MinInt, -2, -1, 0, 1, 4, 5, 23, math.MaxInt} {
			if c := Code(rule, stack); c != 0 {
				t.Errorf("Code(%d, %d): %d", rule, stack, c)
			}
		}
	}
}

func TestReadBack(t *testing.T) { // P12.4
	for _, b := range []string{"", "a", "\x00\x00", "\xff\x00\xff", strings.Repeat("z", 16000)} {
		for pad := -1; pad <= 256; pad++ {
			at := fmt.Sprintf("%d bytes, pad %d", len(b), pad)
			d, h := Data(1, true, pad, []byte(b)), Headers(1<<31-1, true, true, pad, []byte(b))
			for _, f := range []api.Frame{d, h} {
				if p, r := Read(f); !samePay(p, api.Pay{Data: []byte(b)}) || r != api.RuleNone {
					t.Errorf("%s: %.60v, rule %d", at, p, r)
				}
			}
		}
	}
	for n := range 40 {
		var l []api.Setting
		for i := range n {
			l = append(l, api.Setting{Id: uint64(i*i*i) % 65536, Value: uint64(i) * 0x07654321 % (1 << 32)})
		}
		reads(t, Settings(l...), api.Pay{Settings: l}, api.RuleNone)
	}
}

func TestHandedIn(t *testing.T) { // DOC's rule 3
	const told = "\x02the data\x00\x00, and spare room"
	for kind, from := range map[uint8]int{api.F2Data: 1, api.F2Headers: 1, api.F2Continuation: 0, api.F2Ping: 0, api.F2Goaway: 8, api.F2Push: 5} {
		room := []byte(told)
		f := api.Frame{Type: kind, Flags: api.FlagPadded, Stream: 1, B: room[:11]}
		switch kind {
		case api.F2Ping:
			f.Stream, f.B = 0, room[:8]
		case api.F2Goaway:
			f.Stream = 0
		}
		p, r := Read(f)
		if r != api.RuleNone || len(p.Data) == 0 || p.Data[0] != told[from] {
			t.Fatalf("type %d: %q, rule %d", kind, p.Data, r)
		}
		want := string(p.Data)
		clear(room)
		if string(p.Data) != want {
			t.Errorf("type %d: what was told changed with what was handed in: %q", kind, p.Data)
		}
		_ = append(p.Data, "over"...)
		clear(p.Data[:1])
		p.Data[0] = 'x'
		if string(room) != strings.Repeat("\x00", len(told)) {
			t.Errorf("type %d: what was handed in changed with what was told: %q", kind, room)
		}
	}
	for _, pad := range []int{-1, 0, 3} {
		room := []byte("data, and spare room")
		for _, f := range []api.Frame{Data(1, true, pad, room[:4]), Headers(1, true, true, pad, room[:4])} {
			want := string(f.B)
			_ = append(f.B, "over"...)
			if string(room) != "data, and spare room" {
				t.Errorf("pad %d: what was handed in changed: %q", pad, room)
			}
			room[0] = 'x'
			if string(f.B) != want {
				t.Errorf("pad %d: what was answered changed with what was handed in: %q", pad, f.B)
			}
			room[0] = 'd'
		}
	}
	l := []api.Setting{{Id: 1, Value: 2}, {Id: 3, Value: 4}}
	Settings(l...)
	if !slices.Equal(l, []api.Setting{{Id: 1, Value: 2}, {Id: 3, Value: 4}}) {
		t.Errorf("Settings changed what was handed in: %v", l)
	}
}
