package qenc

import (
	"encoding/hex"
	"math"
	"slices"
	"strconv"
	"strings"
	"testing"

	"bifold/api"
	"bifold/dyn"
	"bifold/num"
)

func pair(name, value string) api.Field { return api.Field{Name: name, Value: value} }

func unhex(t *testing.T, s string) string {
	t.Helper()
	b, err := hex.DecodeString(strings.ReplaceAll(s, " ", ""))
	if err != nil {
		t.Fatal(err)
	}
	return string(b)
}

// begun: an encoder that has told its capacity.
func begun(capacity, blocked int) *Encoder {
	e := New(capacity, blocked)
	e.Encode(0)
	return e
}

// stand: what stands in t, from the newest on.
func stand(t *dyn.Table) []api.Field {
	var l []api.Field
	for i := range t.Len() {
		f, _ := t.Newest(uint64(i))
		l = append(l, f)
	}
	return l
}

// writes: e says orders, and writes l as this section, both in hexadecimal digits.
func writes(t *testing.T, at string, e *Encoder, stream uint64, orders, section string, l ...api.Field) {
	t.Helper()
	a, b := e.Encode(stream, l...)
	if string(a) != unhex(t, orders) || string(b) != unhex(t, section) {
		t.Errorf("%s: Encode(%d, %.80q): %.80x and %.80x, not %s and %s", at, stream, l, a, b, orders, section)
	}
}

// stands: e's table has these, from the newest on.
func stands(t *testing.T, at string, e *Encoder, want ...api.Field) {
	t.Helper()
	if got := stand(e.Table()); !slices.Equal(got, want) {
		t.Errorf("%s: the table: %.80q, not %.80q", at, got, want)
	}
}

// feeds: e takes b, in hexadecimal digits, and knows so many behind it.
func feeds(t *testing.T, at string, e *Encoder, b string, want api.Errno, known uint64) {
	t.Helper()
	if got := e.Feed([]byte(unhex(t, b))); got != want || e.Known() != known {
		t.Errorf("%s: Feed(%s): %v, %d known; not %v, %d known", at, b, got, e.Known(), want, known)
	}
}

var a1, b2, c3, d4, e5 = pair("a", "1"), pair("b", "2"), pair("c", "3"), pair("d", "4"), pair("e", "5") // 34 each

const a1Literal, b2Literal, c3Literal, d4Literal, e5Literal = "21610131", "21620132", "21630133", "21640134", "21650135"
const a1Insert, b2Insert, c3Insert, d4Insert, e5Insert = "41610131", "41620132", "41630133", "41640134", "41650135"

func TestNew(t *testing.T) { // P9.1
	for n, want := range map[int]int{0: 0, 1: 1, 100: 100, 4095: 4095, 4096: 4096, 4097: 4096, math.MaxInt: 4096, -1: 0, math.MinInt: 0} {
		e := New(n, 3)
		if c := e.Table().Cap(); c != want || e.Table().Len() != 0 || e.Table().Count() != 0 || e.Known() != 0 {
			t.Errorf("New(%d): %d, %d stand, %d known", n, c, e.Table().Len(), e.Known())
		}
	}
}

func TestBegin(t *testing.T) { // P9.1
	for n, want := range map[int]string{0: "", -7: "", 1: "21", 30: "3e", 31: "3f00", 220: "3fbd01", 4096: "3fe11f", 9999: "3fe11f"} {
		at := "New(" + strconv.Itoa(n) + ")"
		e := New(n, 0)
		writes(t, at, e, 9, want, "0000d1", pair(":method", "GET"))
		writes(t, at+" is told once", e, 9, "", "0000d1", pair(":method", "GET"))
		e = New(n, 0)
		writes(t, at+" ahead of no field", e, 0, want, "0000")
		writes(t, at+" ahead of no field is told once", e, 0, "", "0000")
	}
	writes(t, "ahead of an insertion", New(4096, 1), 0, "3fe11f"+a1Insert, "020080", a1)
	e := New(4096, 1)
	feeds(t, "Feed takes it from nobody", e, "40", api.OK, 0)
	writes(t, "behind a Feed", e, 0, "3fe11f", "0000")
}

func TestBlockedBelowZero(t *testing.T) { // P9.1
	for _, n := range []int{0, -1, math.MinInt} {
		e := begun(4096, n)
		writes(t, "none may be blocked", e, 0, a1Insert, "0000"+a1Literal, a1)
	}
	e := begun(4096, math.MaxInt)
	for stream := range uint64(100) {
		e.Encode(stream, a1)
	}
	writes(t, "all may be blocked", e, math.MaxUint64, "", "020080", a1)
}

func TestStatic(t *testing.T) { // P9.2
	e := begun(4096, 1)
	for _, x := range []struct {
		f api.Field
		b string
	}{
		{pair(":authority", ""), "c0"},
		{pair(":path", "/"), "c1"},
		{pair(":method", "GET"), "d1"},
		{pair("x-xss-protection", "1; mode=block"), "fe"}, // 62: the last in one byte
		{pair(":status", "100"), "ff00"},
		{pair(":status", "204"), "ff01"},
		{pair("x-frame-options", "sameorigin"), "ff23"}, // 98: the last one
		// Three names that are never indexed: what the static table has is.
		{pair("authorization", ""), "ff15"},
		{pair("cookie", ""), "c5"},
		{pair("set-cookie", ""), "ce"},
	} {
		writes(t, "static", e, 0, "", "0000"+x.b, x.f)
	}
	stands(t, "what the static table has isn't inserted", e)
	e.Table().Add(pair(":method", "GET"))
	feeds(t, "an entry that is like a static one", e, "01", api.OK, 1)
	writes(t, "the static one's ahead of it", e, 0, "", "0000d1", pair(":method", "GET"))
	writes(t, "several", e, 0, "", "0000d1c1d7", pair(":method", "GET"), pair(":path", "/"), pair(":scheme", "https"))
}

func TestLiterals(t *testing.T) { // P9.2
	long := func(n int) string { return strings.Repeat("~", n) } // 13 bits each: never shorter in huff's code
	of := func(n int) string { return strings.Repeat("7e", n) }
	for _, x := range []struct {
		at string
		f  api.Field
		b  string
	}{
		{"a static name", pair(":path", "/index.html"), "51 88 60d5485f2bce9a68"}, // RFC 9204, B.1, in huff's code
		{"the first one", pair(":authority", "~"), "50 017e"},
		{"the 14th one", pair("referer", "~"), "5d 017e"},
		{"the 15th one", pair(":method", "~"), "5f00 017e"},
		{"the least of its name", pair(":status", "~"), "5f09 017e"},
		{"the last one", pair("x-frame-options", "~"), "5f52 017e"},
		{"another name", pair("~", "~"), "21 7e 017e"},
		{"a name in huff's code", pair("custom-key", "custom-value"), "2f01 25a849e95ba97d7f 89 25a849e95bb8e8b4bf"},
		{"a short one", pair("aaa", "aaa"), "2a 18c7 82 18c7"},
		{"one as long", pair("aa", "aa"), "22 6161 02 6161"},
		{"a name of nothing", pair("", ""), "20 00"},
		{"other letters are another name", pair("Cookie", "~"), "2d bc73f5317f 017e"},
		{"6 bytes", pair(long(6), ""), "26" + of(6) + "00"},
		{"7 bytes", pair(long(7), ""), "2700" + of(7) + "00"},
		{"134 bytes", pair(long(134), ""), "277f" + of(134) + "00"},
		{"135 bytes", pair(long(135), ""), "278001" + of(135) + "00"},
		{"a long value", pair("~", long(127)), "217e 7f00" + of(127)},
		{"any bytes", pair("\x00\xff", "\r\n"), "2200ff 020d0a"},
		{"authorization", pair("authorization", "~"), "7f45 017e"},
		{"cookie", pair("cookie", "~"), "75 017e"},
		{"set-cookie", pair("set-cookie", "~"), "7e 017e"},
	} {
		writes(t, x.at, New(0, 9), 0, "", "0000"+x.b, x.f)
	}
}

func TestInsertions(t *testing.T) { // P9.2
	long := func(n int) string { return strings.Repeat("~", n) }
	of := func(n int) string { return strings.Repeat("7e", n) }
	for _, x := range []struct {
		at string
		f  api.Field
		b  string
	}{
		{"a static name", pair(":authority", "www.example.com"), "c0 8c f1e3c2e5f23a6ba0ab90f4ff"}, // RFC 9204, B.2, in huff's code
		{"the least of its name", pair(":status", "~"), "d8 017e"},
		{"the 62nd one", pair("x-xss-protection", "~"), "fe 017e"},
		{"the 72nd one", pair("accept-language", "~"), "ff09 017e"},
		{"the last one", pair("x-frame-options", "~"), "ff22 017e"},
		{"another name", pair("~", "~"), "417e 017e"},
		{"a name in huff's code", pair("custom-key", "custom-value"), "68 25a849e95ba97d7f 89 25a849e95bb8e8b4bf"}, // B.4
		{"a short one", pair("aaa", "aaa"), "62 18c7 82 18c7"},
		{"one as long", pair("aa", "aa"), "42 6161 02 6161"},
		{"a name of nothing", pair("", ""), "40 00"},
		{"30 bytes", pair(long(30), ""), "5e" + of(30) + "00"},
		{"31 bytes", pair(long(31), ""), "5f00" + of(31) + "00"},
		{"32 bytes", pair(long(32), ""), "5f01" + of(32) + "00"},
		{"any bytes", pair("\x00\xff", "\r\n"), "4200ff 020d0a"},
	} {
		e := begun(4096, 1)
		writes(t, x.at, e, 0, x.b, "020080", x.f)
		stands(t, x.at, e, x.f)
		writes(t, x.at+": it stands", e, 0, "", "020080", x.f)
	}
	// Neither an entry's name nor a copy of one is ever asked for.
	e := begun(4096, 1)
	writes(t, "the name again", e, 0, a1Insert+"41610132"+"41610133", "04 00 82 81 80", a1, pair("a", "2"), pair("a", "3"))
}

func TestNeverIndexed(t *testing.T) { // P9.2
	e := begun(4096, 9)
	for _, x := range []struct {
		f api.Field
		b string
	}{
		{pair("authorization", "~"), "7f45017e"},
		{pair("cookie", "~"), "75017e"},
		{pair("set-cookie", "~"), "7e017e"},
	} {
		for range 2 {
			writes(t, "never", e, 0, "", "0000"+x.b, x.f)
		}
	}
	stands(t, "never", e)
	// Names like those are other names.
	for _, name := range []string{"Cookie", "cookie2", "set-cooki", "cooki", "authorization ", "proxy-authorization", ""} {
		e.Encode(0, pair(name, "~"))
		if f, ok := e.Table().Newest(0); !ok || f != pair(name, "~") {
			t.Errorf("%q isn't inserted", name)
		}
	}
	// What was put into the table itself is indexed all the same.
	e.Table().Add(pair("cookie", "x"))
	_, b := e.Encode(0, pair("cookie", "x"))
	if b[len(b)-1] != 0x80 {
		t.Errorf("a cookie that stands: %x", b)
	}
}

func TestQuarter(t *testing.T) { // P9.2
	for _, x := range []struct {
		capacity, size int
		inserted       bool
	}{
		{4096, 1024, true}, {4096, 1025, false}, {4095, 1023, true}, {4095, 1024, false},
		{136, 34, true}, {135, 34, false}, {139, 34, true}, {139, 35, false}, {140, 35, true}, {132, 33, true}, {131, 33, false},
		{100, 33, false}, {1, 33, false}, {0, 33, false},
	} {
		at := strconv.Itoa(x.size) + " of " + strconv.Itoa(x.capacity)
		f := pair("~", strings.Repeat("~", x.size-33))
		e := begun(x.capacity, 1)
		for range 2 {
			e.Encode(0, f)
			if e.Table().Len() == 1 != x.inserted {
				t.Errorf("%s: %d stand", at, e.Table().Len())
			}
		}
	}
	writes(t, "the least field, a quarter of 128", begun(128, 1), 0, "4000", "020080", api.Field{})
	writes(t, "the least field, above a quarter of 127", begun(127, 1), 0, "", "00002000", api.Field{})
	writes(t, "a static name, above a quarter", begun(180, 1), 0, "", "000051 88 60d5485f2bce9a68 50 13"+strings.Repeat("7e", 19), pair(":path", "/index.html"), pair(":authority", strings.Repeat("~", 19)))
}

func TestMayUse(t *testing.T) { // P9.2
	e := begun(4096, 1)
	writes(t, "one may be blocked", e, 0, a1Insert, "020080", a1)
	writes(t, "another one may not", e, 4, "", "0000"+a1Literal, a1)
	writes(t, "nor by what it has inserted", e, 4, b2Insert, "0000"+b2Literal, b2)
	writes(t, "the blocked one may use all", e, 0, c3Insert, "04 00 80 81 82", c3, b2, a1)
	feeds(t, "the first section", e, "80", api.OK, 1)
	writes(t, "what is known, all may use", e, 4, "", "02 00 80"+b2Literal, a1, b2)
	writes(t, "stream 0 is blocked still", e, 8, "", "0000"+c3Literal, c3)
	feeds(t, "an entry more", e, "01", api.OK, 2)
	writes(t, "stream 0 is blocked still", e, 8, "", "0000"+c3Literal, c3)
	feeds(t, "all entries", e, "01", api.OK, 3)
	writes(t, "none is blocked", e, 8, d4Insert, "05 00 81 80", c3, d4)
	writes(t, "stream 0 isn't", e, 0, "", "0000"+d4Literal, d4)
	feeds(t, "stream 8 is cancelled", e, "48", api.OK, 3)
	writes(t, "stream 0 may", e, 0, "", "05 00 80", d4)
	writes(t, "stream 8 may not any more", e, 8, "", "0000"+d4Literal, d4)
}

func TestMayUseTwo(t *testing.T) { // P9.2
	e := begun(4096, 2)
	e.Encode(0, a1)
	e.Encode(4, b2)
	writes(t, "two are blocked", e, 8, "", "0000"+a1Literal+b2Literal, a1, b2)
	writes(t, "one of both", e, 4, "", "03 00 81 80", a1, b2)
	feeds(t, "stream 0 goes on", e, "80", api.OK, 1)
	writes(t, "one is blocked", e, 8, "", "03 00 80", b2)
	writes(t, "stream 0 may not", e, 0, "", "02 00 80"+b2Literal, a1, b2)
	feeds(t, "stream 4's first section", e, "84", api.OK, 2)
	writes(t, "none is blocked", e, 0, c3Insert, "04 00 80", c3)
	writes(t, "one is", e, 12, "", "04 00 80", c3)
	writes(t, "two are", e, 16, "", "0000"+c3Literal, c3)
	feeds(t, "a cancelled stream that isn't blocked", e, "48", api.OK, 2)
	writes(t, "two are", e, 16, "", "0000"+c3Literal, c3)
	feeds(t, "one that is", e, "4c", api.OK, 2)
	writes(t, "one is", e, 16, "", "04 00 80", c3)
}

// TestAcknowledgedAheadOfAnother: a stream stays blocked by its later section, whatever the earlier one used.
func TestAcknowledgedAheadOfAnother(t *testing.T) { // P9.2, P9.3
	e := begun(4096, 1)
	e.Encode(0, b2, a1) // places 0 and 1
	e.Encode(0, b2)     // place 0 alone
	feeds(t, "both places are known", e, "80", api.OK, 2)
	writes(t, "so that it isn't blocked by the second section", e, 4, c3Insert, "04 00 80", c3)
	e = begun(4096, 1)
	e.Encode(0, b2)
	e.Encode(0, b2, a1)
	feeds(t, "the first place alone", e, "80", api.OK, 1)
	writes(t, "it is blocked", e, 4, "", "02 00 80"+a1Literal, b2, a1)
}

func TestRoom(t *testing.T) { // P9.2
	full := func() *Encoder {
		e := begun(136, 0) // four of 34 each
		e.Encode(0, a1, b2, c3, d4)
		return e
	}
	e := full()
	writes(t, "a1 isn't known", e, 0, "", "0000"+e5Literal, e5)
	feeds(t, "a1", e, "01", api.OK, 1)
	writes(t, "it may go", e, 0, e5Insert, "0000"+e5Literal, e5)
	stands(t, "it went", e, e5, d4, c3, b2)
	writes(t, "b2 isn't known", e, 0, "", "0000"+a1Literal, a1)

	e = full()
	feeds(t, "all", e, "04", api.OK, 4)
	writes(t, "a section of stream 0 uses b2", e, 0, "", "03 00 80", b2)
	writes(t, "a1 may go", e, 4, e5Insert, "0000"+e5Literal, e5)
	writes(t, "b2 may not", e, 4, "", "0000"+a1Literal, a1)
	writes(t, "a second section of it uses c3", e, 0, "", "04 00 80", c3)
	feeds(t, "the first one", e, "80", api.OK, 4)
	writes(t, "b2 may", e, 4, a1Insert, "0000"+a1Literal, a1)
	writes(t, "c3 may not", e, 4, "", "0000"+b2Literal, b2)
	feeds(t, "the second one", e, "80", api.OK, 4)
	writes(t, "c3 may", e, 4, b2Insert, "0000"+b2Literal, b2)
	stands(t, "they went", e, b2, a1, e5, d4)

	e = full()
	feeds(t, "all", e, "04", api.OK, 4)
	writes(t, "this section uses a1", e, 0, "", "02 00 80"+e5Literal, a1, e5)
	writes(t, "so did that one", e, 0, "", "0000"+e5Literal, e5)
	feeds(t, "it is cancelled", e, "40", api.OK, 4)
	writes(t, "a1 goes ahead of its use", e, 0, e5Insert+a1Insert, "0000"+e5Literal+a1Literal, e5, a1)

	e = full()
	feeds(t, "all", e, "04", api.OK, 4)
	for _, stream := range []uint64{0, 4, 4} {
		writes(t, "three sections use a1", e, stream, "", "02 00 80 80", a1, a1)
	}
	for _, b := range []string{"80", "84"} {
		feeds(t, "one fewer", e, b, api.OK, 4)
		writes(t, "others use it", e, 8, "", "0000"+e5Literal, e5)
	}
	feeds(t, "the last one", e, "84", api.OK, 4)
	writes(t, "none uses it", e, 8, e5Insert, "0000"+e5Literal, e5)
}

func TestRoomOfSeveral(t *testing.T) { // P9.2
	of := func(name string, size int) api.Field { return pair(name, strings.Repeat("~", size-33)) }
	other, great := of("b", 33), of("g", 60)
	e := begun(400, 0)
	e.Encode(0, of("a", 33), other, of("c", 100), of("d", 100), of("e", 100), of("f", 34))
	if e.Table().Size() != 400 || e.Table().Len() != 6 {
		t.Fatalf("%d are taken", e.Table().Size())
	}
	for known := range 2 {
		e.Encode(0, great)
		if e.Table().Len() != 6 {
			t.Errorf("%d known: %d stand", known, e.Table().Len())
		}
		feeds(t, "one more", e, "01", api.OK, uint64(known+1))
	}
	e.Encode(4, other)
	e.Encode(0, great)
	if e.Table().Len() != 6 {
		t.Errorf("the second one is used: %d stand", e.Table().Len())
	}
	feeds(t, "it isn't any more", e, "84", api.OK, 2)
	e.Encode(0, great)
	if e.Table().Len() != 5 || e.Table().Size() != 394 {
		t.Errorf("two go for it: %d stand", e.Table().Len())
	}
	e.Encode(0, of("h", 39))
	if e.Table().Len() != 5 || e.Table().Size() != 394 {
		t.Errorf("the third one isn't known: %d stand", e.Table().Len())
	}
}

func TestRoomThatIsThere(t *testing.T) { // P9.2
	e := begun(136, 0)
	for i, f := range []api.Field{a1, b2, c3, d4} {
		e.Encode(0, f)
		if e.Table().Len() != i+1 {
			t.Errorf("%d stand, %d were inserted: there was room", e.Table().Len(), i+1)
		}
	}
}

func TestCount(t *testing.T) { // P9.2
	e := begun(136, 0)
	e.Encode(0, a1, b2, c3, d4)
	feeds(t, "all", e, "04", api.OK, 4)
	for _, x := range []struct {
		l []api.Field
		b string
	}{
		{nil, "00 00"},
		{[]api.Field{a1}, "02 00 80"},
		{[]api.Field{b2}, "03 00 80"},
		{[]api.Field{d4}, "05 00 80"},
		{[]api.Field{a1, d4}, "05 00 83 80"},
		{[]api.Field{d4, a1}, "05 00 80 83"},
		{[]api.Field{c3, a1, c3, pair(":method", "GET"), b2}, "04 00 80 82 80 d1 81"},
	} {
		writes(t, "from the greatest place it uses", e, 0, "", x.b, x.l...)
	}
}

func TestCountsRest(t *testing.T) { // P9.2: by 2 * (136 / 32)
	e := begun(136, 0)
	for i := range uint64(20) {
		f := pair("n", string(rune('a'+i)))
		e.Encode(0, f)
		feeds(t, "it is there", e, "01", api.OK, i+1)
		writes(t, f.Value, e, 4, "", hex.EncodeToString([]byte{byte((i+1)%8 + 1), 0, 0x80}), f)
		feeds(t, "it was read", e, "84", api.OK, i+1)
	}
}

func TestPlacesInMoreBytes(t *testing.T) { // P9.2
	e := begun(4096, 1)
	var l []api.Field
	for i := range 100 {
		l = append(l, pair("n"+strconv.Itoa(i), ""))
	}
	_, b := e.Encode(0, l...)
	if want := unhex(t, "65 00 bf24 bf23"); !strings.HasPrefix(string(b), want) {
		t.Errorf("%x begins otherwise", b)
	}
	if want := unhex(t, "bf02 bf01 bf00 be bd bc"); !strings.Contains(string(b), want) || len(b) != 2+37*2+63 {
		t.Errorf("%x", b)
	}
	if want := unhex(t, "83 82 81 80"); !strings.HasSuffix(string(b), want) {
		t.Errorf("%x ends otherwise", b)
	}
}

func TestAcknowledgments(t *testing.T) { // P9.3
	e := begun(4096, 9)
	feeds(t, "nothing", e, "", api.OK, 0)
	e.Encode(0, a1)
	e.Encode(0, pair(":method", "GET")) // of a count of 0: it is never acknowledged
	e.Encode(0, b2, a1)
	e.Encode(4, c3)
	e.Encode(1337, a1)
	feeds(t, "the first of stream 0", e, "80", api.OK, 1)
	feeds(t, "its second one, beside another", e, "8480", api.OK, 3)
	feeds(t, "1337", e, "ffba09", api.OK, 3)
	for _, b := range []string{"80", "84", "ffba09", "88", "ff00"} {
		e := begun(4096, 9)
		e.Encode(0, a1)
		e.Encode(4, a1)
		e.Encode(1337, a1)
		feeds(t, "all of them", e, "80ffba0984", api.OK, 1)
		feeds(t, "there is none", e, b, api.ErrBlock, 1)
	}
	e = begun(4096, 9)
	e.Encode(0, pair(":method", "GET"))
	feeds(t, "none with a count", e, "80", api.ErrBlock, 0)
	feeds(t, "none at all", New(4096, 9), "80", api.ErrBlock, 0)
	e = begun(4096, 9)
	e.Encode(api.MaxVar, a1)
	feeds(t, "the greatest number", e, "ff80ffffffffffffff3f", api.OK, 1)
}

func TestCancellations(t *testing.T) { // P9.3
	e := begun(4096, 9)
	feeds(t, "there is none", e, "407f00", api.OK, 0)
	e.Encode(0, a1)
	e.Encode(4, b2)
	e.Encode(0, c3)
	feeds(t, "both of stream 0", e, "40", api.OK, 0)
	feeds(t, "stream 4 has its own", e, "84", api.OK, 2)
	e.Encode(0, c3)
	feeds(t, "stream 0 has a new one", e, "80", api.OK, 3)
	feeds(t, "and no other one", e, "80", api.ErrBlock, 3)
	e = begun(4096, 9)
	e.Encode(1337, a1)
	feeds(t, "1337", e, "7ffa09", api.OK, 0) // 1337 and 63: 1274 behind
	feeds(t, "it is forgotten", e, "ffba09", api.ErrBlock, 0)
}

func TestIncrements(t *testing.T) { // P9.3
	e := begun(4096, 9)
	e.Encode(0, a1, b2, c3)
	feeds(t, "one", e, "01", api.OK, 1)
	feeds(t, "two", e, "02", api.OK, 3)
	feeds(t, "one that isn't there", e, "01", api.ErrBlock, 3)
	for _, b := range []string{"00", "04", "3f00", "3fc0ffffffffffffff3f"} {
		e := begun(4096, 9)
		e.Encode(0, a1, b2, c3)
		feeds(t, "none, or too many", e, b, api.ErrBlock, 0)
	}
	feeds(t, "of none", New(4096, 9), "01", api.ErrBlock, 0)
	e = begun(4096, 9)
	e.Encode(0, a1, b2, c3)
	e.Encode(4, a1)
	feeds(t, "ahead of acknowledgments", e, "02", api.OK, 2)
	feeds(t, "of less: it stays", e, "84", api.OK, 2)
	feeds(t, "of more", e, "80", api.OK, 3)
	var l []api.Field
	for i := range 100 {
		l = append(l, pair("n"+strconv.Itoa(i), ""))
	}
	e.Encode(0, l...)
	feeds(t, "in two bytes", e, "3f25", api.OK, 103)
}

func TestPieces(t *testing.T) { // P9.3
	begin := func() *Encoder {
		e := begun(4096, 9)
		for i, stream := range []uint64{0, 4, 127, 1337} {
			e.Encode(stream, pair("n", strconv.Itoa(i)))
		}
		return e
	}
	for _, x := range []struct {
		b     string
		known []uint64 // behind each byte
	}{
		{"01 80 84", []uint64{1, 1, 2}},
		{"84 40 ffba09", []uint64{2, 2, 2, 2, 4}},
		{"ff8000 7f8000 01", []uint64{0, 0, 3, 3, 3, 3, 4}}, // not in the fewest bytes
		{"3f8000", []uint64{0, 0, 0}},                       // 63: wrong behind the last byte
		{"ffba808000", []uint64{0, 0, 0, 0, 0}},             // stream 185 has no section
	} {
		b := []byte(unhex(t, x.b))
		whole, apart := begin(), begin()
		want := whole.Feed(b)
		for i := range b {
			got := apart.Feed(b[i : i+1])
			if i < len(b)-1 && got != api.OK || i == len(b)-1 && got != want || apart.Known() != x.known[i] {
				t.Errorf("%s: byte %d: %v, %d known", x.b, i, got, apart.Known())
			}
		}
		if whole.Known() != apart.Known() || apart.Feed(nil) != want {
			t.Errorf("%s: %d known, and %d", x.b, whole.Known(), apart.Known())
		}
	}
}

func TestWrongNumbers(t *testing.T) { // P9.3
	for _, first := range []string{"ff", "7f", "3f"} {
		for _, x := range []struct {
			b string
			e api.Errno
		}{
			{"ffffffffffffffffff", api.ErrNum}, // above MaxVar as soon as it is there
			{"80808080808080808080", api.ErrNum},
			{"808080808080808080", api.OK}, // it may go on
			{"80", api.OK},
			{"", api.OK},
		} {
			e := begun(4096, 9)
			e.Encode(0, a1, b2, c3)
			feeds(t, "a number", e, "01"+first+x.b, x.e, 1)
			feeds(t, "and no more", e, "", x.e, 1)
		}
	}
}

func TestBehindAnError(t *testing.T) { // P9.3
	for _, x := range []struct {
		b     string
		e     api.Errno
		known uint64
	}{
		{"00", api.ErrBlock, 0},
		{"01 00", api.ErrBlock, 1},
		{"01 80 80 01", api.ErrBlock, 2}, // what stands ahead has been done
		{"04", api.ErrBlock, 0},
		{"01 03", api.ErrBlock, 1},
		{"84 ff808080808080808080 80", api.ErrNum, 3},
		{"84 00 808080808080808080ff", api.ErrBlock, 3}, // the first one counts
	} {
		e := begun(4096, 9)
		e.Encode(0, a1, b2)
		e.Encode(4, c3)
		feeds(t, "wrong", e, x.b, x.e, x.known)
		for _, b := range []string{"", "01", "80", "84", "40", "00", "ffffffffffffffffffffff"} {
			feeds(t, "it tells it", e, b, x.e, x.known)
		}
		stands(t, "Encode goes on", e, c3, b2, a1)
		e.Encode(8, d4)
		stands(t, "Encode goes on", e, d4, c3, b2, a1)
	}
}

// TestWrongOneDoesNothing: an instruction that is wrong leaves sections and blocked streams as they are.
func TestWrongOneDoesNothing(t *testing.T) { // P9.3
	e := begun(4096, 1)
	e.Encode(0, a1)
	feeds(t, "wrong", e, "02", api.ErrBlock, 0)
	writes(t, "stream 0 is blocked", e, 4, "", "0000"+a1Literal, a1)
	writes(t, "and may go on", e, 0, "", "020080", a1)
}

func TestHandedIn(t *testing.T) { // DOC's rule 3
	l := []api.Field{a1, pair(":path", "/x"), pair("cookie", "x"), b2}
	was := slices.Clone(l)
	e := begun(4096, 1)
	orders, section := e.Encode(0, l[:3]...)
	if !slices.Equal(l, was) {
		t.Errorf("Encode changed what was handed in: %q", l)
	}
	l[0], l[1] = c3, d4
	stands(t, "nothing of it is kept", e, pair(":path", "/x"), a1)
	clear(orders)
	clear(section)
	writes(t, "what was answered is new", e, 0, "", "03 00 81 80 750178", was[:3]...)

	room := []byte("\xff\xba\x09, and spare room")
	e = begun(4096, 1)
	e.Encode(1337, a1)
	if e.Feed(room[:2]) != api.OK || string(room) != "\xff\xba\x09, and spare room" {
		t.Errorf("Feed changed what was handed in: %q", room)
	}
	clear(room)
	feeds(t, "the rest of it is kept", e, "09", api.OK, 1)
}

func TestTable(t *testing.T) { // DOC's rule 3: it is the thing itself
	e := begun(4096, 1)
	table := e.Table()
	e.Encode(0, a1)
	if got := stand(table); table != e.Table() || !slices.Equal(got, []api.Field{a1}) {
		t.Errorf("the table that was answered ahead: %q", got)
	}
	// The place is the newest one's, which Find tells.
	table.Add(b2, a1)
	writes(t, "what was added to it", e, 0, "", "04 00 80 81", a1, b2)
	feeds(t, "it was inserted", e, "03", api.OK, 3)
}

// TestKeepsNoMore: what is acknowledged or cancelled is kept no longer.
func TestKeepsNoMore(t *testing.T) { // LANGUAGE's rule 8
	e := begun(4096, 3)
	for i := range uint64(1000) {
		e.Encode(i, a1, b2, pair("n", strconv.Itoa(int(i)%10)))
		e.Encode(i, a1)
		e.Feed(num.Prefix(nil, 0x80, 7, i))
		e.Feed(num.Prefix(nil, 0x40, 6, i))
	}
	if n := len(e.sections) + len(e.queues) + len(e.uses) + len(e.blocked) + len(e.rest); n != 0 {
		t.Errorf("%d are kept", n)
	}
}
