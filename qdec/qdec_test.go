package qdec

import (
	"encoding/hex"
	"math"
	"slices"
	"strconv"
	"strings"
	"testing"

	"bifold/api"
	"bifold/dyn"
	"bifold/huff"
	"bifold/num"
	"bifold/static"
)

func pair(name, value string) api.Field { return api.Field{Name: name, Value: value} }

func unhex(t *testing.T, s string) []byte {
	t.Helper()
	b, err := hex.DecodeString(strings.ReplaceAll(s, " ", ""))
	if err != nil {
		t.Fatal(err)
	}
	return b
}

// digits: b in hexadecimal digits, so that pieces of it can be put together with others.
func digits(b []byte) string { return hex.EncodeToString(b) }

// number: v in a prefix of so many bits, below first, in hexadecimal digits.
func number(first byte, bits int, v uint64) string { return digits(num.Prefix(nil, first, bits, v)) }

// raw, coded: s behind its length, in a prefix of so many bits below first; as it stands, or in huff's code.
func raw(first byte, bits int, s string) string {
	return number(first, bits, uint64(len(s))) + digits([]byte(s))
}

func coded(first byte, bits int, s string) string {
	b := huff.Encode(nil, s)
	return number(first|1<<bits, bits, uint64(len(b))) + digits(b)
}

func repeat(n int) string { return strings.Repeat("~", n) }

// stand: what stands in t, from the newest on.
func stand(t *dyn.Table) []api.Field {
	var l []api.Field
	for i := range t.Len() {
		f, _ := t.Newest(uint64(i))
		l = append(l, f)
	}
	return l
}

// stands: d's table has these, from the newest on.
func stands(t *testing.T, at string, d *Decoder, want ...api.Field) {
	t.Helper()
	if got := stand(d.Table()); !slices.Equal(got, want) {
		t.Errorf("%s: the table: %.200q, not %.200q", at, got, want)
	}
}

// feeds: d takes b, in hexadecimal digits.
func feeds(t *testing.T, at string, d *Decoder, b string, want api.Errno) {
	t.Helper()
	if got := d.Feed(unhex(t, b)); got != want {
		t.Errorf("%s: Feed(%.80s): %v, not %v", at, b, got, want)
	}
}

// reads: a section of stream, in hexadecimal digits, has these fields.
func reads(t *testing.T, at string, d *Decoder, stream uint64, section string, want ...api.Field) {
	t.Helper()
	if got, e := d.Decode(stream, unhex(t, section)); e != api.OK || !slices.Equal(got, want) {
		t.Errorf("%s: Decode(%d, %.80s): %.200q, %v, not %.200q", at, stream, section, got, e, want)
	}
}

// refuses: a section of stream comes to the error; so many streams wait behind it.
func refuses(t *testing.T, at string, d *Decoder, stream uint64, section string, want api.Errno, waiting int) {
	t.Helper()
	if got, e := d.Decode(stream, unhex(t, section)); e != want || len(got) > 0 || d.Waiting() != waiting {
		t.Errorf("%s: Decode(%d, %.80s): %.200q, %v, %d wait; not %v, %d", at, stream, section, got, e, d.Waiting(), want, waiting)
	}
}

// says: d has this to say on the decoder stream, in hexadecimal digits, and nothing behind it.
func says(t *testing.T, at string, d *Decoder, want string) {
	t.Helper()
	if got := d.Send(); string(got) != string(unhex(t, want)) {
		t.Errorf("%s: Send: %x, not %s", at, got, want)
	}
	if got := d.Send(); len(got) > 0 {
		t.Errorf("%s: Send says it again: %x", at, got)
	}
}

var a1, b2, c3, d4, e5 = pair("a", "1"), pair("b", "2"), pair("c", "3"), pair("d", "4"), pair("e", "5") // 34 each

const a1Insert, b2Insert, c3Insert, d4Insert, e5Insert = "41610131", "41620132", "41630133", "41640134", "41650135"

const whole = "3fe11f" // a capacity of 4096

// with: a decoder of the greatest limit, whose table has that capacity and what these insert.
func with(t *testing.T, blocked int, orders ...string) *Decoder {
	t.Helper()
	d := New(4096, blocked)
	feeds(t, "with", d, whole+strings.Join(orders, ""), api.OK)
	return d
}

func TestNew(t *testing.T) { // P10.1
	for n, limit := range map[int]uint64{0: 0, 1: 1, 31: 31, 4095: 4095, 4096: 4096, 4097: 4096, math.MaxInt: 4096, -1: 0, math.MinInt: 0} {
		at := "New(" + strconv.Itoa(n) + ")"
		d := New(n, 3)
		if d.Table().Cap() != 0 || d.Table().Len() != 0 || d.Table().Count() != 0 || d.Waiting() != 0 {
			t.Errorf("%s: a capacity of %d, %d stand, %d wait", at, d.Table().Cap(), d.Table().Len(), d.Waiting())
		}
		says(t, at, d, "")
		feeds(t, at, d, number(0x20, 5, limit), api.OK)
		if d.Table().Cap() != int(limit) {
			t.Errorf("%s: a capacity of %d, not %d", at, d.Table().Cap(), limit)
		}
		feeds(t, at, d, number(0x20, 5, limit+1), api.ErrBlock)
		if d.Table().Cap() != int(limit) {
			t.Errorf("%s: a capacity of %d, not %d", at, d.Table().Cap(), limit)
		}
	}
}

func TestOfTheRFC(t *testing.T) { // P10.1, P10.2, P10.3: RFC 9204, appendix B
	d := New(220, 1)
	reads(t, "B.1", d, 0, "0000 510b 2f69 6e64 6578 2e68 746d 6c", pair(":path", "/index.html"))
	says(t, "B.1", d, "")
	authority, path := pair(":authority", "www.example.com"), pair(":path", "/sample/path")
	custom := pair("custom-key", "custom-value")
	feeds(t, "B.2", d, "3fbd01 c00f 7777 772e 6578 616d 706c 652e 636f 6d c10c 2f73 616d 706c 652f 7061 7468", api.OK)
	stands(t, "B.2", d, path, authority)
	reads(t, "B.2", d, 4, "0381 10 11", authority, path)
	says(t, "B.2", d, "84")
	feeds(t, "B.3", d, "4a63 7573 746f 6d2d 6b65 790c 6375 7374 6f6d 2d76 616c 7565", api.OK)
	stands(t, "B.3", d, custom, path, authority)
	says(t, "B.3", d, "01")
	refuses(t, "B.4", d, 8, "0500 80 c1 81", api.ErrWait, 1)
	feeds(t, "B.4", d, "02", api.OK)
	stands(t, "B.4", d, authority, custom, path, authority)
	if d.Table().Size() != 217 {
		t.Errorf("B.4: a size of %d", d.Table().Size())
	}
	d.Cancel(8)
	says(t, "B.4", d, "48 01")
	feeds(t, "B.5", d, "810d 6375 7374 6f6d 2d76 616c 7565 32", api.OK)
	stands(t, "B.5", d, pair("custom-key", "custom-value2"), authority, custom, path)
	if d.Table().Size() != 215 || d.Table().Count() != 5 {
		t.Errorf("B.5: a size of %d, %d inserted", d.Table().Size(), d.Table().Count())
	}
	reads(t, "B.4, later", d, 12, "0500 80 c1 81", authority, pair(":path", "/"), custom)
	says(t, "B.5", d, "8c 01")
}

func TestCapacities(t *testing.T) { // P10.1
	d := with(t, 0, a1Insert, b2Insert, c3Insert)
	for _, x := range []struct {
		b        string
		capacity int
		left     []api.Field
	}{
		{"3f47", 102, []api.Field{c3, b2, a1}},
		{"3f46", 101, []api.Field{c3, b2}},
		{whole, 4096, []api.Field{c3, b2}},
		{"3f03", 34, []api.Field{c3}},
		{"3e", 30, nil},
		{"20", 0, nil},
		{"3f00", 31, nil},
		{"3fe1 1f 3f80808000", 31, nil}, // a number in more bytes than it needs
	} {
		feeds(t, x.b, d, x.b, api.OK)
		stands(t, x.b, d, x.left...)
		if d.Table().Cap() != x.capacity {
			t.Errorf("%s: a capacity of %d", x.b, d.Table().Cap())
		}
	}
}

func TestInsertions(t *testing.T) { // P10.1
	for _, x := range []struct {
		at, b string
		f     api.Field
	}{
		{"a static name", "c0" + raw(0, 7, "x"), pair(":authority", "x")},
		{"the value of that entry isn't taken", "c1 00", pair(":path", "")},
		{"the 62nd one", "fe 0161", pair("x-xss-protection", "a")},
		{"the 63rd one", "ff00 0161", pair(":status", "a")},
		{"the last one", "ff23 0161", pair("x-frame-options", "a")},
		{"the value in huff's code", "c0" + coded(0, 7, "www.example.com"), pair(":authority", "www.example.com")},
		{"a dynamic name, the newest", "80 0133", pair("b", "3")},
		{"a dynamic name, the oldest", "81" + coded(0, 7, "aaa"), pair("a", "aaa")},
		{"a literal name", "41 78 01 79", pair("x", "y")},
		{"both in huff's code", coded(0x40, 5, "custom-key") + coded(0, 7, "custom-value"), pair("custom-key", "custom-value")},
		{"the name alone", coded(0x40, 5, "custom-key") + raw(0, 7, "custom-value"), pair("custom-key", "custom-value")},
		{"the value alone", raw(0x40, 5, "custom-key") + coded(0, 7, "custom-value"), pair("custom-key", "custom-value")},
		{"nothing", "40 00", api.Field{}},
		{"nothing, in huff's code", "60 80", api.Field{}},
		{"a name of 30 bytes", raw(0x40, 5, repeat(30)) + "00", pair(repeat(30), "")},
		{"a name of 31 bytes", raw(0x40, 5, repeat(31)) + "00", pair(repeat(31), "")},
		{"a name of 32 bytes", raw(0x40, 5, repeat(32)) + "00", pair(repeat(32), "")},
		{"a name of 200 bytes", raw(0x40, 5, repeat(200)) + raw(0, 7, repeat(127)), pair(repeat(200), repeat(127))},
		{"a name that takes 31 bytes in huff's code", coded(0x40, 5, strings.Repeat("a", 49)) + "00", pair(strings.Repeat("a", 49), "")},
		{"a name that takes 32", coded(0x40, 5, strings.Repeat("a", 51)) + "00", pair(strings.Repeat("a", 51), "")},
		{"any bytes", "43 00ff41 02 0d0a", pair("\x00\xffA", "\r\n")},
		{"what stands already", a1Insert, a1},
		{"the newest again", "00", b2},
		{"the oldest again", "01", a1},
	} {
		d := with(t, 0, a1Insert, b2Insert)
		feeds(t, x.at, d, x.b, api.OK)
		stands(t, x.at, d, x.f, b2, a1)
		if d.Table().Count() != 3 {
			t.Errorf("%s: %d inserted", x.at, d.Table().Count())
		}
		feeds(t, x.at+", and another", d, c3Insert, api.OK)
		stands(t, x.at+", and another", d, c3, x.f, b2, a1)
	}
}

// TestFarIndexes: indexes that need more bytes than one.
func TestFarIndexes(t *testing.T) { // P10.1
	orders := make([]string, 100)
	for i := range orders {
		orders[i] = raw(0x40, 5, "n") + raw(0, 7, strconv.Itoa(i))
	}
	for i := range uint64(100) {
		d := with(t, 0, orders...)
		feeds(t, "again", d, number(0, 5, i), api.OK)
		if f, _ := d.Table().Newest(0); f != pair("n", strconv.Itoa(99-int(i))) {
			t.Errorf("entry %d again: %q", i, f)
		}
		d = with(t, 0, strings.Join(orders, "")+raw(0x40, 5, "m")+"00")
		feeds(t, "its name", d, number(0x80, 6, i)+"0178", api.OK)
		want := "n"
		if i == 0 {
			want = "m"
		}
		if f, _ := d.Table().Newest(0); f != pair(want, "x") {
			t.Errorf("entry %d's name: %q", i, f)
		}
	}
}

// TestTheyGo: what is inserted makes room for itself; what it is made from may go for it.
func TestTheyGo(t *testing.T) { // P10.1
	d := New(102, 0)
	feeds(t, "three", d, "3f47"+a1Insert+b2Insert+c3Insert, api.OK)
	feeds(t, "the oldest again", d, "02", api.OK)
	stands(t, "the oldest again", d, a1, c3, b2)
	feeds(t, "by the oldest one's name", d, "820139", api.OK)
	stands(t, "by the oldest one's name", d, pair("b", "9"), a1, c3)
	feeds(t, "all of the room", d, "80"+raw(0, 7, repeat(69)), api.OK)
	stands(t, "all of the room", d, pair("b", repeat(69)))
	feeds(t, "itself again", d, "00", api.OK)
	stands(t, "itself again", d, pair("b", repeat(69)))
	if d.Table().Count() != 7 {
		t.Errorf("%d inserted", d.Table().Count())
	}
	says(t, "those that went were there", d, "07")
}

func TestAboveTheCapacity(t *testing.T) { // P10.1
	for _, x := range []struct {
		at       string
		capacity uint64
		b        string
		want     api.Errno
	}{
		{"32 of 32", 32, "4000", api.OK},
		{"32 of 31", 31, "4000", api.ErrBlock},
		{"32 of 0", 0, "4000", api.ErrBlock},
		{"34 of 34", 34, a1Insert, api.OK},
		{"34 of 33", 33, a1Insert, api.ErrBlock},
		{"a static name, 42 of 42", 42, "c000", api.OK},
		{"a static name, 42 of 41", 41, "c000", api.ErrBlock},
		{"4096 of 4096", 4096, raw(0x40, 5, repeat(64)) + raw(0, 7, repeat(4000)), api.OK},
		{"4097 of 4096", 4096, raw(0x40, 5, repeat(64)) + raw(0, 7, repeat(4001)), api.ErrBlock},
		{"fewer bytes in huff's code", 40, "41 61" + coded(0, 7, "0000000"), api.OK},
		{"not as few as they seem", 39, "41 61" + coded(0, 7, "0000000"), api.ErrBlock},
	} {
		d := New(4096, 0)
		feeds(t, x.at, d, number(0x20, 5, x.capacity), api.OK)
		feeds(t, x.at+": all but the end", d, x.b[:len(x.b)-2], api.OK)
		feeds(t, x.at, d, x.b[len(x.b)-2:], x.want)
		if stood := d.Table().Len() == 1; stood != (x.want == api.OK) {
			t.Errorf("%s: %d stand", x.at, d.Table().Len())
		}
	}
	// Others don't go for what isn't inserted.
	d := New(4096, 0)
	feeds(t, "a1", d, "3f03"+a1Insert, api.OK)
	feeds(t, "35 of 34", d, "41 61 02 6161", api.ErrBlock)
	stands(t, "35 of 34", d, a1)
	d = New(4096, 0)
	feeds(t, "a dynamic name", d, "3f03"+a1Insert, api.OK)
	feeds(t, "a dynamic name, 35 of 34", d, "80 02 6161", api.ErrBlock)
	stands(t, "a dynamic name, 35 of 34", d, a1)
}

// TestWrongInstructions: each is wrong by its last byte, whatever would come behind it, and not by those ahead.
func TestWrongInstructions(t *testing.T) { // P10.1
	above := "ffffffffffffffffff" // behind a full prefix: above MaxVar
	long := "80808080808080808080"
	for _, x := range []struct{ at, b string }{
		{"a capacity of 4097", number(0x20, 5, 4097)},
		{"a capacity of 2^62-1", number(0x20, 5, api.MaxVar)},
		{"a capacity above MaxVar", "3f" + above},
		{"a capacity of too many bytes", "3f" + long},
		{"the static table's end", number(0xc0, 6, 99)},
		{"far behind it", number(0xc0, 6, api.MaxVar)},
		{"a static index above MaxVar", "ff" + above},
		{"a static index of too many bytes", "ff" + long},
		{"the table's end", "82"},
		{"far behind it", number(0x80, 6, api.MaxVar)},
		{"an index above MaxVar", "bf" + above},
		{"an index of too many bytes", "bf" + long},
		{"the table's end again", "02"},
		{"far behind it again", number(0x00, 5, api.MaxVar)},
		{"an index above MaxVar again", "1f" + above},
		{"an index of too many bytes again", "1f" + long},
		{"a name of 4097 bytes", number(0x40, 5, 4097)},
		{"a name of 4097 bytes in huff's code", number(0x60, 5, 4097)},
		{"a name of 2^62-1 bytes", number(0x40, 5, api.MaxVar)},
		{"a name of more", "5f" + above},
		{"a name of a length of too many bytes", "5f" + long},
		{"a name that isn't huff's code", "61 00"},
		{"a name with the sign that ends", "64 ffffffff"},
		{"a name with a byte too many", "62 1fff"},
		{"a name of 4097 in huff's code", coded(0x40, 5, strings.Repeat("a", 4097))},
		{"a value of 4097 bytes", "c0" + number(0x00, 7, 4097)},
		{"a value of 4097 bytes in huff's code", "c0" + number(0x80, 7, 4097)},
		{"a value of 2^62-1 bytes", "80" + number(0x00, 7, api.MaxVar)},
		{"a value of more", "4161 7f" + above},
		{"a value of a length of too many bytes", "4161 7f" + long},
		{"a value that isn't huff's code", "c0 8100"},
		{"a value with the sign that ends", "80 84ffffffff"},
		{"a value with a byte too many", "4161 821fff"},
		{"a value of 4097 in huff's code", "c0" + coded(0, 7, strings.Repeat("a", 4097))},
	} {
		b := unhex(t, x.b)
		d := with(t, 0, a1Insert, b2Insert)
		if e := d.Feed(b[:len(b)-1]); e != api.OK {
			t.Errorf("%s: %v ahead of the last byte", x.at, e)
		}
		if e := d.Feed(b[len(b)-1:]); e != api.ErrBlock {
			t.Errorf("%s: %v", x.at, e)
		}
		stands(t, x.at, d, b2, a1)
		d = with(t, 0, a1Insert, b2Insert)
		feeds(t, x.at+", in one", d, "3f25"+x.b+"20"+d4Insert, api.ErrBlock)
		stands(t, x.at+", in one", d, b2, a1)
		if d.Table().Cap() != 68 {
			t.Errorf("%s: what stands ahead has been done: a capacity of %d", x.at, d.Table().Cap())
		}
	}
}

func TestEmptyTable(t *testing.T) { // P10.1
	for _, b := range []string{"00", "80", "8000"} {
		feeds(t, "no entry", New(4096, 0), whole+b, api.ErrBlock)
		feeds(t, "nor a capacity", New(4096, 0), b, api.ErrBlock)
	}
}

// TestLongest: strings of MaxStr bytes are read; that their entry is above the capacity is known at the end.
func TestLongest(t *testing.T) { // P10.1, P10.2
	for _, x := range []struct {
		order, line string
		f           api.Field
	}{
		{raw(0x40, 5, repeat(4096)) + "00", raw(0x20, 3, repeat(4096)) + "00", pair(repeat(4096), "")},
		{coded(0x40, 5, strings.Repeat("a", 4096)) + "00", coded(0x20, 3, strings.Repeat("a", 4096)) + "00", pair(strings.Repeat("a", 4096), "")},
		{"c0" + raw(0, 7, repeat(4096)), "50" + raw(0, 7, repeat(4096)), pair(":authority", repeat(4096))},
		{"c0" + coded(0, 7, strings.Repeat("a", 4096)), "50" + coded(0, 7, strings.Repeat("a", 4096)), pair(":authority", strings.Repeat("a", 4096))},
	} {
		d := with(t, 0)
		reads(t, "a line", d, 0, "0000"+x.line, x.f)
		feeds(t, "all but the end", d, x.order[:len(x.order)-2], api.OK)
		feeds(t, "the end", d, x.order[len(x.order)-2:], api.ErrBlock)
		stands(t, "the end", d)
	}
}

func TestPieces(t *testing.T) { // P10.1
	b := unhex(t, whole+a1Insert+coded(0x40, 5, strings.Repeat("name", 300))+coded(0, 7, strings.Repeat("value", 60))+
		"01"+raw(0x40, 5, repeat(40))+raw(0, 7, repeat(300))+"3fe11e"+"ff23"+coded(0, 7, "x")+"82"+"00"+"3fe11f")
	all := New(4096, 0)
	if e := all.Feed(b); e != api.OK {
		t.Fatal(e)
	}
	stands(t, "in one", all, pair("a", ""), pair("x-frame-options", "x"), pair(repeat(40), repeat(300)), a1, pair(strings.Repeat("name", 300), strings.Repeat("value", 60)), a1)
	for size := 1; size < len(b); size += 1 + size/9 {
		d := New(4096, 0)
		for piece := range slices.Chunk(b, size) {
			if e := d.Feed(piece); e != api.OK || d.Feed(nil) != api.OK {
				t.Fatalf("pieces of %d: %v", size, e)
			}
		}
		stands(t, "pieces of "+strconv.Itoa(size), d, stand(all.Table())...)
	}
}

// TestAsSoonAs: each instruction is done by its last byte.
func TestAsSoonAs(t *testing.T) { // P10.1
	d := New(4096, 0)
	for _, x := range []struct {
		b     string
		count uint64
	}{
		{whole, 0}, {a1Insert, 1}, {b2Insert, 2}, {"00", 3}, {"81 0139", 4}, {"c0" + raw(0, 7, repeat(200)), 5}, {coded(0x40, 5, "custom-key") + coded(0, 7, "custom-value"), 6}, {"4000", 7},
	} {
		feeds(t, "all but the end", d, x.b[:len(x.b)-2], api.OK)
		if was := d.Table().Count(); was+1 != x.count && x.count > 0 {
			t.Errorf("%s: %d inserted ahead of the end", x.b, was)
		}
		feeds(t, "the end", d, x.b[len(x.b)-2:], api.OK)
		if d.Table().Count() != x.count {
			t.Errorf("%s: %d inserted", x.b, d.Table().Count())
		}
	}
}

func TestBehindAnError(t *testing.T) { // P10.1
	d := with(t, 2, a1Insert, b2Insert)
	refuses(t, "it waits", d, 4, "0500d1", api.ErrWait, 1)
	reads(t, "it is read", d, 0, "020080", a1)
	feeds(t, "wrong", d, c3Insert+"05"+d4Insert, api.ErrBlock)
	for _, b := range []string{"", "20", d4Insert, "00", whole} {
		feeds(t, "behind it", d, b, api.ErrBlock)
	}
	for _, section := range []string{"0000d1", "020080", "0300", "", "0500d1", "0900d1"} {
		refuses(t, "behind it", d, 0, section, api.ErrBlock, 1)
		refuses(t, "behind it, one that waits", d, 4, section, api.ErrBlock, 1)
	}
	stands(t, "behind it", d, c3, b2, a1)
	d.Cancel(4)
	d.Cancel(8)
	if d.Waiting() != 0 {
		t.Errorf("Cancel behind it: %d wait", d.Waiting())
	}
	says(t, "behind it", d, "80 44 48 02")
}

func TestLines(t *testing.T) { // P10.2
	for _, x := range []struct {
		at, b string
		want  []api.Field
	}{
		{"the example", "0000 d1", []api.Field{pair(":method", "GET")}},
		{"none", "0000", nil},
		{"indexed, static: the first", "0000 c0", []api.Field{pair(":authority", "")}},
		{"the 62nd", "0000 fe", []api.Field{pair("x-xss-protection", "1; mode=block")}},
		{"the 63rd", "0000 ff00", []api.Field{pair(":status", "100")}},
		{"the last", "0000 ff23", []api.Field{pair("x-frame-options", "sameorigin")}},
		{"a static name", "0000 50 0178", []api.Field{pair(":authority", "x")}},
		{"never indexed", "0000 70 0178", []api.Field{pair(":authority", "x")}},
		{"the 14th", "0000 5e 0178", []api.Field{pair("set-cookie", "x")}},
		{"the 15th", "0000 5f00 0178", []api.Field{pair(":method", "x")}},
		{"the last", "0000 7f53" + coded(0, 7, "www"), []api.Field{pair("x-frame-options", "www")}},
		{"a literal name", "0000 2178 0179", []api.Field{pair("x", "y")}},
		{"never indexed", "0000 3178 0179", []api.Field{pair("x", "y")}},
		{"in huff's code", "0000" + coded(0x20, 3, "custom-key") + coded(0, 7, "custom-value"), []api.Field{pair("custom-key", "custom-value")}},
		{"never indexed, in huff's code", "0000" + coded(0x30, 3, "custom-key") + raw(0, 7, "custom-value"), []api.Field{pair("custom-key", "custom-value")}},
		{"one in huff's code", "0000" + raw(0x20, 3, "custom-key") + coded(0, 7, "custom-value"), []api.Field{pair("custom-key", "custom-value")}},
		{"nothing", "0000 2000 2880 3000", []api.Field{{}, {}, {}}},
		{"a name of 6 bytes", "0000" + raw(0x20, 3, repeat(6)) + "00", []api.Field{pair(repeat(6), "")}},
		{"a name of 7", "0000" + raw(0x20, 3, repeat(7)) + "00", []api.Field{pair(repeat(7), "")}},
		{"a name of 8", "0000" + raw(0x20, 3, repeat(8)) + "00", []api.Field{pair(repeat(8), "")}},
		{"a name of 4096", "0000" + raw(0x20, 3, repeat(4096)) + raw(0, 7, repeat(4096)), []api.Field{pair(repeat(4096), repeat(4096))}},
		{"any bytes", "0000 22 00ff 02 0d0a", []api.Field{pair("\x00\xff", "\r\n")}},
		{"a base that isn't needed", "007f7f d1", []api.Field{pair(":method", "GET")}},

		// Three entries: the base is the count, below it, above it.
		{"indexed", "0400 80 81 82 80", []api.Field{c3, b2, a1, c3}},
		{"of two", "0300 80 81", []api.Field{b2, a1}},
		{"a count above what is used", "0400 82", []api.Field{a1}},
		{"from above", "0402 82 83 84", []api.Field{c3, b2, a1}},
		{"from a base above all", "04 7d" + number(0x80, 6, 125) + number(0x80, 6, 127), []api.Field{c3, a1}},
		{"upwards", "0482 10 11 12", []api.Field{a1, b2, c3}},
		{"both", "0481 80 10 11", []api.Field{a1, b2, c3}},
		{"both", "0480 80 81 10", []api.Field{b2, a1, c3}},
		{"a name", "0400 40 0178 41 0179 42 00", []api.Field{pair("c", "x"), pair("b", "y"), pair("a", "")}},
		{"a name, never indexed", "0400 60 0178", []api.Field{pair("c", "x")}},
		{"a name upwards", "0482 00 0178 01 0179 02" + coded(0, 7, "www"), []api.Field{pair("a", "x"), pair("b", "y"), pair("c", "www")}},
		{"a name upwards, never indexed", "0482 08 0178 0a 00", []api.Field{pair("a", "x"), pair("c", "")}},
		{"all together", "0480 80 d1 10 2161 00 50 00 40 00 00 00", []api.Field{b2, pair(":method", "GET"), c3, pair("a", ""), pair(":authority", ""), pair("b", ""), pair("c", "")}},
	} {
		reads(t, x.at, with(t, 0, a1Insert, b2Insert, c3Insert), 0, x.b, x.want...)
	}
}

func TestStaticLines(t *testing.T) { // P10.2
	d := New(0, 0)
	for i := range uint64(99) {
		f, _ := static.H3(i)
		reads(t, "indexed", d, 0, "0000"+number(0xc0, 6, i), f)
		reads(t, "its name", d, 0, "0000"+number(0x50, 4, i)+"0178", pair(f.Name, "x"))
		reads(t, "its name, never indexed", d, 0, "0000"+number(0x70, 4, i)+"0178", pair(f.Name, "x"))
	}
	says(t, "none needs an entry", d, "")
}

// TestFarPlaces: indexes that need more bytes than one, from bases everywhere.
func TestFarPlaces(t *testing.T) { // P10.2
	orders := make([]string, 100)
	for i := range orders {
		orders[i] = raw(0x40, 5, "n"+strconv.Itoa(i)) + raw(0, 7, "v")
	}
	d := with(t, 0, orders...)
	for place := range uint64(100) {
		f, name := pair("n"+strconv.Itoa(int(place)), "v"), pair("n"+strconv.Itoa(int(place)), "x")
		for _, base := range []uint64{0, 1, 50, 99, 100, 101, 300} {
			if place < base {
				reads(t, "below", d, 0, prefix(100, base)+number(0x80, 6, base-1-place)+number(0x40, 4, base-1-place)+"0178", f, name)
				continue
			}
			reads(t, "above", d, 0, prefix(100, base)+number(0x10, 4, place-base)+number(0x00, 3, place-base)+"0178", f, name)
		}
	}
}

// prefix: of a section of that count and base, where the limit is 4096, as RFC 9204 has it (4.5.1).
func prefix(count, base uint64) string {
	enc := uint64(0)
	if count > 0 {
		enc = count%256 + 1
	}
	if base >= count {
		return number(0, 8, enc) + number(0, 7, base-count)
	}
	return number(0, 8, enc) + number(0x80, 7, count-base-1)
}

func TestWrongSections(t *testing.T) { // P10.2
	above := "ffffffffffffffffff"
	for _, x := range []struct{ at, b string }{
		{"no byte", ""},
		{"no base", "00"},
		{"no base", "04"},
		{"a count that isn't whole", "ff"},
		{"a count that isn't whole", "ff80"},
		{"a count above MaxVar", "ff" + above + "00"},
		{"a count above its window", "ff02 00"}, // 257, of 256
		{"a count of 0 that is told as a rest", "01 00"},
		{"a base that isn't whole", "00 7f"},
		{"a base above MaxVar", "00 7f" + above},
		{"a base below 0", "00 80"},
		{"a base below 0", "04 83"},
		{"the static table's end", "0000" + number(0xc0, 6, 99)},
		{"far behind it", "0000" + number(0xc0, 6, api.MaxVar)},
		{"an index above MaxVar", "0000 ff" + above},
		{"an index that isn't whole", "0000 ff"},
		{"an index that isn't whole", "0000 ff80"},
		{"the static table's end, a name", "0000" + number(0x50, 4, 99) + "00"},
		{"a name's index that isn't whole", "0000 5f"},
		{"a name's index of too many bytes, ahead of what could be a value", "0000 5f" + strings.Repeat("80", 95)},
		{"a name without a value", "0000 50"},
		{"a value that isn't whole", "0000 50 01"},
		{"a value that isn't whole", "0000 50 7f"},
		{"a value of 4097 bytes", "0000 50" + raw(0, 7, repeat(4097))},
		{"a value that isn't huff's code", "0000 50 8100"},
		{"a value of 4097 in huff's code", "0000 50" + coded(0, 7, strings.Repeat("a", 4097))},
		{"a literal name that isn't whole", "0000 21"},
		{"a literal name that isn't whole", "0000 27"},
		{"a literal name of 4097 bytes", "0000" + raw(0x20, 3, repeat(4097)) + "00"},
		{"a literal name that isn't huff's code", "0000 2900 00"},
		{"a literal name of 4097 in huff's code", "0000" + coded(0x20, 3, strings.Repeat("a", 4097)) + "00"},
		{"a literal name without a value", "0000 2161"},
		{"a line behind a good one", "0000 d1 ff"},
		{"no entry is needed, but one is used", "0000 80"},
		{"no entry is needed, but one is used", "0003 80"},
		{"no entry is needed, but one is used", "0003 40 00"},
		{"no entry is needed, but one is used", "0000 10"},
		{"no entry is needed, but one is used", "0000 00 00"},
		{"behind the oldest", "0400 83"},
		{"behind the oldest, a name", "0400 43 00"},
		{"far behind it", "0400" + number(0x80, 6, api.MaxVar)},
		{"far behind it, a name", "0400" + number(0x40, 4, api.MaxVar) + "00"},
		{"at the count", "0301 80"},
		{"at the count, a name", "0301 40 00"},
		{"at the count, upwards", "0381 12"},
		{"at the count, a name upwards", "0381 02 00"},
		{"above the count", "0202 80"},
		{"at the count, which is all there is", "0401 80"},
		{"at the count, which is all there is, upwards", "0480 11"},
		{"at the count, which is all there is, upwards", "0400 10"},
		{"at the count, which is all there is, a name upwards", "0400 00 00"},
		{"far above", "0400" + number(0x10, 4, api.MaxVar)},
		{"far above, a name", "0400" + number(0x00, 3, api.MaxVar) + "00"},
		{"an index upwards that isn't whole", "0482 1f"},
		{"an index upwards above MaxVar", "0482 1f" + above},
		{"a name's index upwards that isn't whole", "0482 07"},
		{"a name upwards without a value", "0482 00"},
		{"a value upwards that isn't whole", "0482 00 01"},
		{"an index below that isn't whole", "0400 bf"},
		{"a name below without a value", "0400 40"},
	} {
		d := with(t, 9, a1Insert, b2Insert, c3Insert)
		refuses(t, x.at, d, 0, x.b, api.ErrBlock, 0)
		says(t, x.at, d, "03")
		// Errors of Decode say nothing about later calls.
		reads(t, "behind it", d, 0, "0400 80 d1", c3, pair(":method", "GET"))
		feeds(t, "behind it", d, d4Insert, api.OK)
		stands(t, "behind it", d, d4, c3, b2, a1)
	}
}

// TestWhatWent: entries that stand no more are none.
func TestWhatWent(t *testing.T) { // P10.2
	d := New(4096, 0)
	feeds(t, "four", d, "3f47"+a1Insert+b2Insert+c3Insert+d4Insert, api.OK)
	reads(t, "those that stand", d, 0, "0500 80 81 82", d4, c3, b2)
	refuses(t, "one that went", d, 0, "0500 83", api.ErrBlock, 0)
	refuses(t, "one that went, a name", d, 0, "0500 43 00", api.ErrBlock, 0)
	refuses(t, "one that went, upwards", d, 0, "0583 10", api.ErrBlock, 0)
	reads(t, "a count that is whole", d, 0, "0200")
	refuses(t, "one that went", d, 0, "0200 80", api.ErrBlock, 0)
}

// TestCounts: they are told by their rest, by the limit, whatever the capacity.
func TestCounts(t *testing.T) { // P10.2
	d := New(100, 9) // a window of 6
	feeds(t, "a lesser capacity", d, "3f03", api.OK)
	for i := range uint64(50) {
		f := pair("n", string(rune('0'+i)))
		feeds(t, "another", d, raw(0x40, 5, f.Name)+raw(0, 7, f.Value), api.OK)
		reads(t, "all", d, 0, number(0, 8, (i+1)%6+1)+"0080", f)
		for more := range uint64(3) {
			refuses(t, "more", d, i, number(0, 8, (i+2+more)%6+1)+"0080", api.ErrWait, 1)
		}
		refuses(t, "above the window", d, 0, "070080", api.ErrBlock, 1)
		d.Cancel(i)
	}
	d = New(31, 9) // no entry has room
	reads(t, "no count", d, 0, "0000d1", pair(":method", "GET"))
	refuses(t, "a count", d, 0, "0200", api.ErrBlock, 0)
	refuses(t, "a count", d, 0, "0100", api.ErrBlock, 0)
}

func TestWaits(t *testing.T) { // P10.2, P10.3
	d := with(t, 2)
	refuses(t, "one", d, 0, "0200 80", api.ErrWait, 1)
	refuses(t, "again", d, 0, "0200 80", api.ErrWait, 1)
	refuses(t, "another one", d, 4, "0300 80", api.ErrWait, 2)
	refuses(t, "too many", d, 8, "0200 80", api.ErrMany, 2)
	refuses(t, "too many again", d, 8, "0200 80", api.ErrMany, 2)
	refuses(t, "those that wait already may", d, 0, "0400 80", api.ErrWait, 2)
	refuses(t, "those that wait already may", d, 4, "0200 80", api.ErrWait, 2)
	reads(t, "those that needn't wait", d, 8, "0000 d1", pair(":method", "GET"))
	refuses(t, "nothing is changed by a wrong prefix", d, 0, "ff", api.ErrBlock, 2)
	says(t, "nothing to tell", d, "")
	feeds(t, "a1", d, a1Insert, api.OK)
	if d.Waiting() != 2 {
		t.Errorf("they wait till they are read: %d", d.Waiting())
	}
	reads(t, "its entry is there", d, 4, "0200 80", a1)
	if d.Waiting() != 1 {
		t.Errorf("%d wait", d.Waiting())
	}
	refuses(t, "there is room for one", d, 8, "0300 80", api.ErrWait, 2)
	refuses(t, "for one", d, 4, "0300 80", api.ErrMany, 2)
	refuses(t, "a wrong line: it waits no more", d, 0, "0200 81", api.ErrBlock, 1)
	refuses(t, "there is room for one", d, 4, "0300 80", api.ErrWait, 2)
	reads(t, "a section that needs nothing: it waits no more", d, 4, "0000")
	if d.Waiting() != 1 {
		t.Errorf("%d wait", d.Waiting())
	}
	d.Cancel(8)
	d.Cancel(8)
	d.Cancel(12)
	if d.Waiting() != 0 {
		t.Errorf("%d wait", d.Waiting())
	}
	refuses(t, "one", d, math.MaxUint64, "0300 80", api.ErrWait, 1)
	refuses(t, "two", d, 0, "0300 80", api.ErrWait, 2)
	refuses(t, "and no more", d, 1, "0300 80", api.ErrMany, 2)
}

func TestBlockedBelowZero(t *testing.T) { // P10.2
	for _, n := range []int{0, -1, math.MinInt} {
		d := with(t, n)
		refuses(t, "none may wait", d, 0, "0200 80", api.ErrMany, 0)
		feeds(t, "a1", d, a1Insert, api.OK)
		reads(t, "it needn't", d, 0, "0200 80", a1)
	}
	d := with(t, math.MaxInt)
	for stream := range uint64(1000) {
		refuses(t, "all may wait", d, stream, "0200 80", api.ErrWait, int(stream)+1)
	}
}

func TestMaxFields(t *testing.T) { // P10.2
	for _, line := range []string{"d1", "2000", "5000", "80", "10", "4000", "0000"} {
		d := with(t, 0, a1Insert, b2Insert)
		l, e := d.Decode(0, unhex(t, "0380"+strings.Repeat(line, 64)))
		if e != api.OK || len(l) != 64 {
			t.Errorf("64 of %s: %d fields, %v", line, len(l), e)
		}
		refuses(t, "65", d, 0, "0380"+strings.Repeat(line, 65), api.ErrBlock, 0)
		refuses(t, "66", d, 0, "0380"+strings.Repeat(line, 66), api.ErrBlock, 0)
	}
}

func TestAcknowledgments(t *testing.T) { // P10.3
	d := with(t, 2, a1Insert, b2Insert)
	reads(t, "b2", d, 4, "0300 80", b2)
	reads(t, "no count", d, 8, "0000 d1", pair(":method", "GET"))
	reads(t, "a1", d, 0, "0200 80", a1)
	reads(t, "b2 again", d, 4, "0300 80", b2)
	reads(t, "of no line", d, 12, "0300")
	refuses(t, "a wrong one", d, 16, "0300 82", api.ErrBlock, 0)
	refuses(t, "one that waits", d, 20, "0400 80", api.ErrWait, 1)
	says(t, "in order", d, "84 80 84 8c")
	for stream, b := range map[uint64]string{0: "80", 126: "fe", 127: "ff00", 128: "ff01", api.MaxVar: "ff80ffffffffffffff3f", math.MaxUint64: "ff80ffffffffffffffff01"} {
		reads(t, b, d, stream, "0300 80", b2)
		says(t, b, d, b)
	}
}

func TestCancel(t *testing.T) { // P10.3
	d := with(t, 2)
	for stream, b := range map[uint64]string{0: "40", 62: "7e", 63: "7f00", 64: "7f01", api.MaxVar: "7fc0ffffffffffffff3f", math.MaxUint64: "7fc0ffffffffffffffff01"} {
		d.Cancel(stream)
		says(t, b, d, b)
	}
	d.Cancel(4)
	d.Cancel(0)
	d.Cancel(4)
	says(t, "each of them", d, "44 40 44")
	for n, want := range map[int]string{0: "", -1: "", math.MinInt: "", 1: "44", 31: "44", 9999: "44"} {
		d := New(n, 2)
		d.Cancel(4)
		says(t, "New("+strconv.Itoa(n)+")", d, want)
	}
}

func TestIncrements(t *testing.T) { // P10.3
	d := with(t, 0)
	says(t, "nothing", d, "")
	feeds(t, "three", d, a1Insert+b2Insert+c3Insert, api.OK)
	says(t, "three", d, "03")
	feeds(t, "one", d, "00", api.OK)
	reads(t, "an acknowledgment of less", d, 4, "0200 80", a1)
	says(t, "one", d, "84 01")
	feeds(t, "two", d, a1Insert+b2Insert, api.OK)
	reads(t, "an acknowledgment of one of them", d, 4, "0600 80", a1)
	says(t, "the other one", d, "84 01")
	feeds(t, "two", d, c3Insert+d4Insert, api.OK)
	reads(t, "an acknowledgment of both", d, 4, "0900 80", d4)
	says(t, "none", d, "84")
	feeds(t, "two", d, a1Insert+b2Insert, api.OK)
	reads(t, "both", d, 4, "0b00 80", b2)
	reads(t, "the first one", d, 8, "0a00 80", a1)
	says(t, "the greatest count", d, "84 88")
	feeds(t, "two", d, a1Insert+b2Insert, api.OK)
	refuses(t, "a wrong section", d, 4, "0d00 ff", api.ErrBlock, 0)
	says(t, "it tells of none", d, "02")
	feeds(t, "one", d, a1Insert, api.OK)
	d.Cancel(8)
	reads(t, "nothing new", d, 4, "0200")
	d.Cancel(4)
	says(t, "in order, and at last", d, "48 84 44 01")
	feeds(t, "many", d, strings.Repeat("4000", 62), api.OK)
	says(t, "62", d, "3e")
	feeds(t, "many", d, strings.Repeat("4000", 63), api.OK)
	says(t, "63", d, "3f00")
	feeds(t, "wrong behind one", d, a1Insert+"ffff7f", api.ErrBlock)
	says(t, "what was inserted ahead of it", d, "01")
}

func TestReadWhenThere(t *testing.T) { // P10.4
	d := New(4096, 1)
	section := "0300 80 81 d1"
	orders := unhex(t, whole+a1Insert+coded(0x40, 5, "custom-key")+coded(0, 7, "custom-value"))
	for _, c := range orders {
		refuses(t, "it waits", d, 0, section, api.ErrWait, 1)
		feeds(t, "a byte more", d, digits([]byte{c}), api.OK)
	}
	reads(t, "it is read", d, 0, section, pair("custom-key", "custom-value"), a1, pair(":method", "GET"))
	if d.Waiting() != 0 {
		t.Errorf("%d wait", d.Waiting())
	}
	says(t, "it was read", d, "80")
}

func TestHandedIn(t *testing.T) { // DOC's rule 3
	room := append(unhex(t, whole+a1Insert+"41620132"), "spare room"...)
	was := slices.Clone(room)
	d := New(4096, 1)
	n := len(room) - len("spare room") - 1
	if d.Feed(room[:n]) != api.OK || !slices.Equal(room, was) {
		t.Errorf("Feed changed what was handed in: %q", room)
	}
	clear(room)
	feeds(t, "the rest", d, "32", api.OK)
	stands(t, "nothing of it is kept", d, b2, a1)

	room = append(unhex(t, "0300 80 2161 0131 50"+coded(0, 7, "www")), "spare room"...)
	was = slices.Clone(room)
	l, e := d.Decode(0, room[:len(room)-len("spare room")])
	if e != api.OK || !slices.Equal(room, was) {
		t.Errorf("Decode changed what was handed in: %q, %v", room, e)
	}
	clear(room)
	want := []api.Field{b2, a1, pair(":authority", "www")}
	if !slices.Equal(l, want) {
		t.Errorf("the fields changed: %q", l)
	}
	clear(l)
	reads(t, "what was answered is new", d, 0, "0300 80", b2)
	b := d.Send()
	d.Cancel(4)
	clear(b)
	says(t, "what was answered is new", d, "44")
}

func TestTable(t *testing.T) { // DOC's rule 3: it is the thing itself
	d := New(4096, 1)
	table := d.Table()
	feeds(t, "a1", d, whole+a1Insert, api.OK)
	if got := stand(table); table != d.Table() || !slices.Equal(got, []api.Field{a1}) {
		t.Errorf("the table that was answered ahead: %q", got)
	}
	table.Add(b2)
	reads(t, "what was added to it", d, 0, "0300 80", b2)
}

// TestApart: decoders know nothing of each other.
func TestApart(t *testing.T) { // DOC's rule 8
	a, b := with(t, 1), with(t, 1)
	feeds(t, "one", a, a1Insert+"41", api.OK)
	feeds(t, "the other", b, b2Insert, api.OK)
	refuses(t, "one waits", a, 0, "0300 80", api.ErrWait, 1)
	stands(t, "the other", b, b2)
	refuses(t, "the other waits", b, 4, "0300 80", api.ErrWait, 1)
	says(t, "the other", b, "01")
	feeds(t, "one", a, "620132", api.OK)
	stands(t, "one", a, b2, a1)
	says(t, "one", a, "02")
}

// TestKeepsNoMore: what was read, said or is of no use any more is kept no longer.
func TestKeepsNoMore(t *testing.T) { // LANGUAGE's rule 8
	d := with(t, 9)
	for i := range uint64(1000) {
		if i%2 == 0 {
			refuses(t, "it waits", d, i, number(0, 8, (i+1)%256+1)+"0080", api.ErrWait, 1)
		}
		feeds(t, "another", d, a1Insert, api.OK)
		reads(t, "it is read", d, i, number(0, 8, (i+1)%256+1)+"0080", a1)
		d.Cancel(i)
		d.Send()
	}
	if n := len(d.waiting) + len(d.rest) + len(d.name) + len(d.says); n != 0 {
		t.Errorf("%d are kept", n)
	}
	feeds(t, "a name", d, raw(0x40, 5, repeat(1000)), api.OK)
	if cap(d.rest) != 0 || len(d.name) != 1000 {
		t.Errorf("a name of %d: %d bytes and %d are kept", 1000, cap(d.rest), len(d.name))
	}
	feeds(t, "a value's length", d, "ff", api.OK)
	feeds(t, "wrong", d, "ffffffffffffffffffffff", api.ErrBlock)
	if n := cap(d.rest) + len(d.name); n != 0 {
		t.Errorf("behind an error %d are kept", n)
	}
}
