package qparam

import (
	"bytes"
	"encoding/hex"
	"math"
	"math/rand"
	"slices"
	"strings"
	"testing"

	"bifold/api"
)

func unhex(t *testing.T, s string) []byte {
	t.Helper()
	b, err := hex.DecodeString(strings.ReplaceAll(s, " ", ""))
	if err != nil {
		t.Fatal(err)
	}
	return b
}

func param(id uint64, b string) api.Param { return api.Param{Id: id, B: []byte(b)} }

func same(a, b []api.Param) bool {
	return slices.EqualFunc(a, b, func(p, q api.Param) bool { return p.Id == q.Id && bytes.Equal(p.B, q.B) })
}

// many: n parameters of unlike Ids.
func many(n int) []api.Param {
	var l []api.Param
	for i := range n {
		l = append(l, param(uint64(i)*0x1003, strings.Repeat("b", i)))
	}
	return l
}

var written = []struct {
	l []api.Param
	b string
}{
	{nil, ""},
	{[]api.Param{param(4, "\x40\x64")}, "04 02 4064"}, // the chapter's
	{[]api.Param{param(0, "")}, "00 00"},
	{[]api.Param{param(0, "\x00")}, "00 01 00"},
	{[]api.Param{param(4, "\x05"), param(0, "id"), param(12, "")}, "04 01 05 00 02 6964 0c 00"}, // as they come
	{[]api.Param{param(0x40, "a"), param(0x4000, "b"), param(1<<30, "c"), param(api.MaxVar, "d")}, "4040 01 61 80004000 01 62 c000000040000000 01 63 ffffffffffffffff 01 64"},
	{[]api.Param{param(5, strings.Repeat("x", 63)), param(6, strings.Repeat("x", 64))}, "05 3f" + strings.Repeat("78", 63) + "06 4040" + strings.Repeat("78", 64)},
	{[]api.Param{param(5, strings.Repeat("x", 16384))}, "05 80004000" + strings.Repeat("78", 16384)},
}

func TestBytes(t *testing.T) { // P20.1
	for _, x := range written {
		want := unhex(t, x.b)
		if b, e := Write(x.l...); !bytes.Equal(b, want) || e != api.OK {
			t.Errorf("Write(%.60v): %.60x, %v, not %.60x", x.l, b, e, want)
		}
		if l, e := Read(want); !same(l, x.l) || e != api.OK {
			t.Errorf("Read(%.60x): %.60v, %v, not %.60v", want, l, e, x.l)
		}
	}
	if l, e := Read([]byte{}); len(l) != 0 || e != api.OK {
		t.Errorf("Read of nothing: %v, %v", l, e)
	}
	// Numbers in more bytes than they need.
	if l, e := Read(unhex(t, "4004 80000001 05 c000000000000000 00")); !same(l, []api.Param{param(4, "\x05"), param(0, "")}) || e != api.OK {
		t.Errorf("Read of long numbers: %v, %v", l, e)
	}
}

func TestMost(t *testing.T) { // P20.1
	for _, n := range []int{api.MaxParams - 1, api.MaxParams} {
		b, e := Write(many(n)...)
		if e != api.OK {
			t.Fatalf("Write of %d: %v", n, e)
		}
		if l, e := Read(b); !same(l, many(n)) || e != api.OK {
			t.Errorf("Read of %d: %d, %v", n, len(l), e)
		}
	}
	for _, n := range []int{api.MaxParams + 1, api.MaxParams + 2, 1000} {
		if b, e := Write(many(n)...); len(b) != 0 || e != api.ErrParam {
			t.Errorf("Write of %d: %d bytes, %v", n, len(b), e)
		}
		var b []byte
		for i := range n {
			b = append(b, 0x40|byte(i>>8), byte(i), 0)
		}
		if l, e := Read(b); len(l) != 0 || e != api.ErrParam {
			t.Errorf("Read of %d: %d, %v", n, len(l), e)
		}
	}
}

func TestWriteWrong(t *testing.T) { // P20.1
	for _, l := range [][]api.Param{
		{param(4, "a"), param(4, "b")},
		{param(4, "a"), param(4, "a")},
		{param(4, "a"), param(5, "a"), param(4, "")},
		{param(0, ""), param(0, "")},
		{param(api.MaxVar+1, "a")},
		{param(1<<63, "a")},
		{param(math.MaxUint64, "a")},
		{param(4, "a"), param(api.MaxVar+1, "a")},
		{param(api.MaxVar+1, "a"), param(4, "a")},
		append(many(api.MaxParams-1), param(0, "")),
	} {
		if b, e := Write(l...); len(b) != 0 || e != api.ErrParam {
			t.Errorf("Write(%v): %x, %v", l, b, e)
		}
	}
}

func refused(t *testing.T, why string, b []byte) {
	t.Helper()
	if l, e := Read(b); len(l) != 0 || e != api.ErrParam {
		t.Errorf("%s: Read(%.60x): %.60v, %v", why, b, l, e)
	}
}

func TestReadWrong(t *testing.T) { // P20.1
	for _, x := range []struct{ why, b string }{
		{"no length", "04"},
		{"no whole Id", "40"},
		{"no whole Id", "c0000000000000"},
		{"no whole length", "04 40"},
		{"no whole length", "04 c0000000000000"},
		{"too few bytes", "04 01"},
		{"too few bytes", "04 03 6162"},
		{"too few bytes", "04 7fff 6162"},
		{"too few bytes", "04 ffffffffffffffff 6162"},
		{"too few bytes", "04 c000000100000001 6162"},
		{"an Id twice", "04 01 61 04 01 62"},
		{"an Id twice", "04 01 61 05 00 04 01 61"},
		{"an Id twice, in other bytes", "04 01 61 4004 01 62"},
		{"an Id twice, in other bytes", "c000000000000000 00 00 00"},
	} {
		refused(t, x.why, unhex(t, x.b))
		refused(t, x.why+", behind another one", append([]byte{9, 1, 7}, unhex(t, x.b)...))
	}
	b, _ := Write(param(4, "abc"), param(0x40, "d"), param(7, ""))
	whole := []int{0, 5, 9}
	for n := range b {
		if !slices.Contains(whole, n) {
			refused(t, "cut", b[:n])
		}
	}
	twice, _ := Write(many(api.MaxParams - 1)...)
	refused(t, "an Id twice, the last one", append(twice, 0, 0))
}

func TestInt(t *testing.T) { // P20.2
	l := []api.Param{
		param(4, "\x05"),
		param(4, "\x06"), // the first one counts
		param(5, ""),     // no number
		param(5, "\x40"),
		param(5, "\x01\x02"), // a number, and more
		param(5, "\x40\x64"), // the first one that is
		param(5, "\x01"),
		param(6, "\x40\x64\x00"),
		param(7, "\xff\xff\xff\xff\xff\xff\xff\xff"),
		param(8, "\x80\x00\x00\x01"), // in more bytes than it needs
		param(math.MaxUint64, "\x09"),
		param(0, "\x00"),
	}
	for _, x := range []struct {
		id, want uint64
		ok       bool
	}{{4, 5, true}, {5, 100, true}, {6, 0, false}, {7, api.MaxVar, true}, {8, 1, true}, {math.MaxUint64, 9, true}, {0, 0, true}, {9, 0, false}, {1 << 63, 0, false}} {
		if v, ok := Int(l, x.id); v != x.want || ok != x.ok {
			t.Errorf("Int of %d: %d, %v, not %d, %v", x.id, v, ok, x.want, x.ok)
		}
	}
	if v, ok := Int(nil, 0); v != 0 || ok {
		t.Errorf("Int of none: %d, %v", v, ok)
	}
	if v, ok := Int(append(many(100), param(1, "\x03")), 1); v != 3 || !ok { // however many there are
		t.Errorf("Int of 101: %d, %v", v, ok)
	}
}

// varint: v in as many bytes.
func varint(v uint64, n int) string {
	b := make([]byte, n)
	for i := range n {
		b[n-1-i] = byte(v >> (8 * i))
	}
	b[0] |= []byte{1: 0, 2: 0x40, 4: 0x80, 8: 0xc0}[n]
	return string(b)
}

// bothSay: Check answers that error of l, whoever says it.
func bothSay(t *testing.T, want api.Errno, l ...api.Param) {
	t.Helper()
	for _, server := range []bool{true, false} {
		if e := Check(l, server); e != want {
			t.Errorf("Check(%v, %v): %v, not %v", l, server, e, want)
		}
	}
}

func TestCheckNumbers(t *testing.T) { // P20.2
	const top = api.MaxVar
	for id, x := range map[uint64]struct{ least, most uint64 }{
		1: {0, top}, 3: {1200, top}, 4: {0, top}, 5: {0, top}, 6: {0, top}, 7: {0, top}, 8: {0, 1 << 60}, 9: {0, 1 << 60}, 10: {0, 20}, 11: {0, 1<<14 - 1}, 14: {2, top},
	} {
		for _, v := range []uint64{x.least, x.most, x.least + 1, x.most - 1} {
			bothSay(t, api.OK, param(id, varint(v, 8)))
		}
		if x.least > 0 {
			for _, v := range []uint64{0, 1, x.least - 1} {
				bothSay(t, api.ErrParam, param(id, varint(v, 8)))
			}
		}
		if x.most < top {
			for _, v := range []uint64{x.most + 1, top} {
				bothSay(t, api.ErrParam, param(id, varint(v, 8)))
			}
		}
		for _, b := range []string{"", "\x40", "\x80\x00\x10", "\x05\x05", "\x45\x00\x00", varint(x.least, 8) + "\x00", varint(x.least, 8)[:7]} {
			bothSay(t, api.ErrParam, param(id, b))
		}
	}
	bothSay(t, api.OK, param(3, varint(1200, 2)), param(10, varint(20, 1)), param(10, varint(20, 4)), param(14, varint(2, 1)), param(11, varint(16383, 2)))
	bothSay(t, api.ErrParam, param(14, varint(1, 1)))
	bothSay(t, api.ErrParam, param(10, varint(21, 1)))
	bothSay(t, api.ErrParam, param(11, varint(16384, 4)))
	bothSay(t, api.ErrParam, param(3, varint(1199, 2)))
}

func TestCheckOthers(t *testing.T) { // P20.2
	bothSay(t, api.OK)
	bothSay(t, api.OK, param(12, ""))
	bothSay(t, api.ErrParam, param(12, "\x00"))
	bothSay(t, api.ErrParam, param(12, "\x05"))
	for _, id := range []uint64{0, 2, 13, 16} {
		for _, b := range []string{"", "\x40", "16 bytes of them", "\x05"} {
			if e := Check([]api.Param{param(id, b)}, true); e != api.OK {
				t.Errorf("%d of a server: %v", id, e)
			}
			if e := Check([]api.Param{param(id, b)}, false); e != api.ErrParam {
				t.Errorf("%d of a client: %v", id, e)
			}
		}
	}
	for _, id := range []uint64{15, 17, 18, 27, 0x20, 0x100, 0x101, 0x103, 0x10c, 1 << 62, math.MaxUint64} { // anything may be there
		bothSay(t, api.OK, param(id, ""), param(id, "\x40"), param(id, "anything"))
	}
}

func TestCheckEach(t *testing.T) { // P20.2
	good := []api.Param{param(4, "\x05"), param(3, varint(1200, 2)), param(12, ""), param(15, "source"), param(99, "what")}
	bothSay(t, api.OK, good...)
	bothSay(t, api.OK, append(good, good...)...) // an Id twice is looked at twice
	for _, wrong := range []api.Param{param(4, ""), param(3, varint(1199, 2)), param(12, "x"), param(10, "\x15"), param(14, "\x01")} {
		for i := range len(good) + 1 {
			bothSay(t, api.ErrParam, slices.Insert(slices.Clone(good), i, wrong)...)
		}
	}
	bothSay(t, api.OK, many(1)[1:]...)
	var l []api.Param
	for range 100 {
		l = append(l, param(200, "x"))
	}
	bothSay(t, api.OK, l...) // however many there are
	bothSay(t, api.ErrParam, append(l, param(4, ""))...)
}

func TestBackAgain(t *testing.T) { // P20.3
	r := rand.New(rand.NewSource(20))
	for range 20000 {
		var l []api.Param
		ids := map[uint64]int{}
		for range r.Intn(api.MaxParams + 1) {
			p := api.Param{Id: r.Uint64() >> (2 + r.Intn(62)), B: make([]byte, r.Intn(20)*r.Intn(10))}
			r.Read(p.B)
			if ids[p.Id]++; ids[p.Id] == 1 {
				l = append(l, p)
			}
		}
		b, e := Write(l...)
		if e != api.OK {
			t.Fatalf("Write(%v): %v", l, e)
		}
		if got, e := Read(b); !same(got, l) || e != api.OK {
			t.Fatalf("%v came back as %v, %v", l, got, e)
		}
	}
}

// plain: what Read is to answer, number by number; it panics, and so is an error, where b ends ahead.
func plain(b []byte) (l []api.Param, e api.Errno) {
	defer func() {
		if recover() != nil {
			l, e = nil, api.ErrParam
		}
	}()
	at := 0
	next := func() uint64 {
		first := b[at]
		v, more := uint64(first%64), []int{0, 1, 3, 7}[first/64]
		for _, c := range b[at+1 : at+1+more : len(b)] {
			v = v*256 + uint64(c)
		}
		at += 1 + more
		return v
	}
	for at < len(b) {
		p := api.Param{Id: next()}
		n := next()
		if n > 1000 {
			panic("b isn't so long")
		}
		p.B = b[at : at+int(n) : len(b)]
		at += int(n)
		for _, q := range l {
			if q.Id == p.Id {
				panic("twice")
			}
		}
		l = append(l, p)
	}
	if len(l) > 32 {
		panic("too many")
	}
	return l, api.OK
}

func TestAnyBytes(t *testing.T) { // P20.1
	r := rand.New(rand.NewSource(2))
	good := 0
	for range 100000 {
		b := make([]byte, r.Intn(80))
		for i := range b {
			b[i] = byte(r.Intn(256) >> r.Intn(8) >> r.Intn(8))
		}
		b = slices.Clip(b)
		l, e := Read(b)
		want, we := plain(b)
		if !same(l, want) || e != we {
			t.Fatalf("Read(%x): %v, %v, not %v, %v", b, l, e, want, we)
		}
		if e == api.OK {
			good++
		}
	}
	if good < 1000 {
		t.Errorf("%d were good", good)
	}
}

func TestHandedIn(t *testing.T) { // DOC's rule 3
	room := []byte("abcd and spare room")
	l := []api.Param{{Id: 4, B: room[:2]}, {Id: 5, B: room[2:4]}, {Id: 77}}
	b, _ := Write(l[:2]...)
	Int(l[:2], 4)
	Check(l[:2], true)
	if string(room) != "abcd and spare room" || l[0].Id != 4 || l[2].Id != 77 {
		t.Errorf("what was handed in changed: %q, %v", room, l)
	}
	clear(room)
	clear(l)
	if string(b) != "\x04\x02ab\x05\x02cd" {
		t.Errorf("Write's answer changed with what was handed in: %q", b)
	}
	got, _ := Read(b)
	for _, p := range got {
		_ = append(p.B, "over"...)
	}
	if string(b) != "\x04\x02ab\x05\x02cd" {
		t.Errorf("what was read shares with what was handed in: %q", b)
	}
	clear(b)
	if !same(got, []api.Param{param(4, "ab"), param(5, "cd")}) {
		t.Errorf("what was read changed with what was handed in: %v", got)
	}
}
