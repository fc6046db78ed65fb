package henc

import (
	"bytes"
	"encoding/hex"
	"math"
	"slices"
	"strconv"
	"strings"
	"testing"

	"bifold/api"
	"bifold/dyn"
)

func pair(name, value string) api.Field { return api.Field{Name: name, Value: value} }

func unhex(t *testing.T, s string) string {
	t.Helper()
	b, err := hex.DecodeString(strings.ReplaceAll(s, " ", ""))
	if err != nil {
		t.Fatal(err)
	}
	return string(b)
}

// stand: what stands in t, from the newest on.
func stand(t *dyn.Table) []api.Field {
	var l []api.Field
	for i := range t.Len() {
		f, _ := t.Newest(uint64(i))
		l = append(l, f)
	}
	return l
}

// writes: e writes l as this block.
func writes(t *testing.T, at string, e *Encoder, block string, l ...api.Field) {
	t.Helper()
	if b := e.Encode(l...); string(b) != block {
		t.Errorf("%s: Encode(%.80q): %.80x, not %.80x", at, l, b, block)
	}
}

// stands: e's table has these, from the newest on.
func stands(t *testing.T, at string, e *Encoder, want ...api.Field) {
	t.Helper()
	if got := stand(e.Table()); !slices.Equal(got, want) {
		t.Errorf("%s: the table: %.80q, not %.80q", at, got, want)
	}
}

func TestStr(t *testing.T) { // P7.1
	tildes := func(n int) string { return strings.Repeat("~", n) } // 13 bits each: never shorter
	for _, x := range []struct{ s, b string }{
		{"", "\x00"},
		{"a", "\x01a"},               // huff's is as long: a byte
		{"aa", "\x02aa"},             // 10 bits: two bytes
		{"aaa", "\x82\x18\xc7"},      // 15 bits: two bytes of three
		{"302", "\x82\x64\x02"},      // 16 bits
		{"307", "\x03307"},           // 17 bits: as long as it is
		{"/", "\x01/"},               // 6 bits
		{"*/*", "\x03*/*"},           // 8, 6 and 8 bits
		{"\x00\xff", "\x02\x00\xff"}, // longer
		{"no-cache", "\x86\xa8\xeb\x10\x64\x9c\xbf"},
		{"custom-key", "\x88\x25\xa8\x49\xe9\x5b\xa9\x7d\x7f"},
		{"www.example.com", "\x8c\xf1\xe3\xc2\xe5\xf2\x3a\x6b\xa0\xab\x90\xf4\xff"},
		{tildes(126), "\x7e" + tildes(126)},
		{tildes(127), "\x7f\x00" + tildes(127)},
		{tildes(254), "\x7f\x7f" + tildes(254)},
		{tildes(255), "\x7f\x80\x01" + tildes(255)},
		{tildes(api.MaxStr), "\x7f\x81\x1f" + tildes(api.MaxStr)},
		{tildes(api.MaxStr + 1), "\x7f\x82\x1f" + tildes(api.MaxStr+1)},
		{strings.Repeat("0", 8*25), "\xfd" + strings.Repeat("\x00", 125)},
		{strings.Repeat("0", 203), "\xff\x00" + strings.Repeat("\x00", 126) + "\x01"},
	} {
		if b := Str(nil, x.s); string(b) != x.b {
			t.Errorf("Str(nil, %.40q): %.80x, not %.80x", x.s, b, x.b)
		}
		if b := Str([]byte("ahead"), x.s); string(b) != "ahead"+x.b {
			t.Errorf("Str(ahead, %.40q): %.80x, not %.80x", x.s, b, x.b)
		}
	}
}

func TestStrHandedIn(t *testing.T) { // P7.1, DOC's rule 3
	for _, s := range []string{"", "~~", "custom-key"} {
		room := []byte("ahead, and spare room enough")
		b := Str(room[:5], s)
		if string(room) != "ahead, and spare room enough" {
			t.Errorf("Str(%q) changed what was handed in: %q", s, room)
		}
		want := string(b)
		clear(room)
		if string(b) != want {
			t.Errorf("Str(%q) changed with what was handed in: %q", s, b)
		}
	}
}

func TestNew(t *testing.T) { // P7.1
	for n, want := range map[int]int{0: 0, 1: 1, 100: 100, 4095: 4095, 4096: 4096, 4097: 4096, math.MaxInt: 4096, -1: 0, math.MinInt: 0} {
		e := New(n)
		if c := e.Table().Cap(); c != want || e.Table().Len() != 0 || e.Table().Count() != 0 {
			t.Errorf("New(%d): %d, %d stand", n, c, e.Table().Len())
		}
		writes(t, "no update at the beginning", e, "\x82", pair(":method", "GET"))
	}
}

func TestUpdates(t *testing.T) { // P7.1
	const to0, to30, to31, to34, to100, to200, to4096 = "\x20", "\x3e", "\x3f\x00", "\x3f\x03", "\x3f\x45", "\x3f\xa9\x01", "\x3f\xe1\x1f"
	for _, x := range []struct {
		sizes []int
		begin string
	}{
		{nil, ""},
		{[]int{200}, to200}, // what it is already
		{[]int{100}, to100},
		{[]int{4096}, to4096},
		{[]int{4097}, to4096},
		{[]int{math.MaxInt}, to4096},
		{[]int{0}, to0},
		{[]int{-1}, to0},
		{[]int{math.MinInt}, to0},
		{[]int{30}, to30},
		{[]int{31}, to31},
		{[]int{200, 100}, to100},
		{[]int{100, 200}, to100 + to200},
		{[]int{100, 100}, to100},
		{[]int{100, 4096, 200}, to100 + to200},
		{[]int{100, 0, 34, 200}, to0 + to200},
		{[]int{200, 100, 31, 34}, to31 + to34},
		{[]int{100, 34, 200, 34}, to34},
		{[]int{4096, 100, 31}, to31},
		{[]int{-5, 9999}, to0 + to4096},
		{[]int{-5, -7}, to0},
		{[]int{9999, 5000}, to4096},
	} {
		at := "Resize" + strings.ReplaceAll(strconv.Quote(x.begin), "\"", " ")
		e := New(200)
		for _, n := range x.sizes {
			e.Resize(n)
			if want := min(max(n, 0), 4096); e.Table().Cap() != want {
				t.Errorf("Resize(%d): %d", n, e.Table().Cap())
			}
		}
		writes(t, at, e, x.begin+"\x82", pair(":method", "GET"))
		writes(t, at+"is told once", e, "\x82", pair(":method", "GET"))
		e.Resize(100)
		writes(t, at+"is forgotten", e, to100+"\x84", pair(":path", "/"))
		for _, n := range x.sizes {
			e.Resize(n)
		}
		writes(t, at+"a block without fields", e, x.begin)
		writes(t, at+"has told it", e, "")
	}
}

func TestResizeTakesEntries(t *testing.T) { // P7.1, P7.2
	a, b, c := pair("a", "1"), pair("b", "2"), pair("c", "3") // 34 each
	e := New(200)
	e.Encode(a, b, c)
	stands(t, "three", e, c, b, a)
	e.Resize(101)
	stands(t, "one goes at once", e, c, b)
	writes(t, "the rest stays", e, "\x3f\x46\xbf\xbe", b, c)
	e.Resize(34)
	e.Resize(200)
	stands(t, "another one goes", e, c)
	writes(t, "what went isn't there", e, "\x3f\x03\x3f\xa9\x01\xbe\x40\x01b\x012\xbe\xbf", c, b, b, c)
	e.Resize(33)
	stands(t, "none is left", e)
	e.Resize(68)
	writes(t, "half of it", e, "\x3f\x02\x3f\x25\x40\x01a\x011\x40\x01b\x012\xbf", a, b, a)
}

func TestIndexed(t *testing.T) { // P7.2
	e := New(4096)
	for _, x := range []struct {
		f api.Field
		b string
	}{
		{pair(":method", "GET"), "\x82"},
		{pair(":method", "POST"), "\x83"},
		{pair(":authority", ""), "\x81"},
		{pair(":status", "500"), "\x8e"},
		{pair("accept-encoding", "gzip, deflate"), "\x90"},
		{pair("www-authenticate", ""), "\xbd"},
		// Three names that are never indexed: what the static table has is.
		{pair("authorization", ""), "\x97"},
		{pair("cookie", ""), "\xa0"},
		{pair("set-cookie", ""), "\xb7"},
	} {
		writes(t, "static", e, x.b, x.f)
	}
	stands(t, "what the static table has isn't added", e)

	a, b := pair("a", "1"), pair("b", "2")
	writes(t, "the dynamic one's", e, "\x40\x01a\x011\x40\x01b\x012\xbf\xbe\xbf", a, b, a, b, a)
	writes(t, "the static one's ahead of them", e, "\x82\xbf\xbe", pair(":method", "GET"), a, b)
	stands(t, "once each", e, b, a)

	// What was put into the table itself is found there, too: the newest one, and ahead of what its name or size would ask for.
	cookie, much := pair("cookie", "x"), pair("much", strings.Repeat("v", 3000))
	e.Table().Add(a, cookie, much, a, pair(":method", "GET"), pair("z", "z"))
	writes(t, "the newest", e, "\xc0", a)
	writes(t, "a cookie that stands", e, "\xc2", cookie)
	writes(t, "a great one that stands", e, "\xc1", much)
	writes(t, "the static one first", e, "\x82", pair(":method", "GET"))
}

func TestIndexesInMoreBytes(t *testing.T) { // P7.2
	e := New(4096)
	var l []api.Field
	for i := range 110 {
		l = append(l, pair("n"+strconv.Itoa(i), ""))
	}
	for _, f := range l {
		e.Encode(f)
	}
	for i, want := range map[int]string{0: "\xbe", 1: "\xbf", 2: "\xc0", 64: "\xfe", 65: "\xff\x00", 66: "\xff\x01", 109: "\xff\x2c"} {
		f := l[len(l)-1-i]
		writes(t, "the "+strconv.Itoa(i)+"th newest", e, want, f)
	}
	big := strings.Repeat("~", 2500) // above half of the capacity: it isn't added
	for i, want := range map[int]string{0: "\x0f\x2f", 109: "\x0f\x9c\x01"} {
		writes(t, "the name of the "+strconv.Itoa(i)+"th newest", e, want+"\x7f\xc5\x12"+big, pair(l[len(l)-1-i].Name, big))
	}
	writes(t, "a name, and it is added", e, "\x7f\x6c\x01~", pair(l[0].Name, "~"))
}

func TestNames(t *testing.T) { // P7.2
	e := New(4096)
	for _, x := range []struct {
		at string
		f  api.Field
		b  string
	}{
		{"a static name", pair(":path", "/p"), "\x44\x02/p"},
		{"the least of it", pair(":status", "~"), "\x48\x01~"},
		{"the last static name", pair("www-authenticate", "~"), "\x7d\x01~"},
		{"its own ahead of the table's newer one", pair(":path", "/q"), "\x44\x02/q"},
		{"no such name", pair("n", "1"), "\x40\x01n\x011"},
		{"the table's", pair("n", "2"), "\x7e\x012"},
		{"the newest one's", pair("n", "3"), "\x7e\x013"},
		{"another one", pair("m", ""), "\x40\x01m\x00"},
		{"behind it", pair("n", "4"), "\x7f\x00\x014"},
		{"a name of nothing", pair("", ""), "\x40\x00\x00"},
		{"the same name of nothing", pair("", "x"), "\x7e\x01x"},
		{"other letters are another name", pair("N", "1"), "\x40\x01N\x011"},
		{"in fewer bits", pair("custom-key", "custom-value"), "\x40\x88\x25\xa8\x49\xe9\x5b\xa9\x7d\x7f\x89\x25\xa8\x49\xe9\x5b\xb8\xe8\xb4\xbf"},
		{"any bytes", pair("\x00\xff", "\r\n"), "\x40\x02\x00\xff\x02\r\n"},
	} {
		writes(t, x.at, e, x.b, x.f)
		if f, ok := e.Table().Newest(0); f != x.f || !ok {
			t.Errorf("%s: the newest is %q", x.at, f)
		}
	}
	if n := e.Table().Count(); n != 14 {
		t.Errorf("%d were added", n)
	}
}

func TestNeverIndexed(t *testing.T) { // P7.2
	big := strings.Repeat("~", 3000)
	e := New(4096)
	for _, x := range []struct {
		f api.Field
		b string
	}{
		{pair("authorization", "~"), "\x1f\x08\x01~"},
		{pair("cookie", "~"), "\x1f\x11\x01~"},
		{pair("set-cookie", "~"), "\x1f\x28\x01~"},
		{pair("cookie", big), "\x1f\x11\x7f\xb9\x16" + big}, // ahead of its size
	} {
		for range 2 {
			writes(t, "never", e, x.b, x.f)
			stands(t, "never", e)
		}
	}
	stands(t, "never", e)
	// Names like those are other names.
	for _, name := range []string{"Cookie", "cookie2", "set-cooki", "cooki", "authorization ", "proxy-authorization", ""} {
		e.Encode(pair(name, "~"))
		if f, ok := e.Table().Newest(0); !ok || f != pair(name, "~") {
			t.Errorf("%q isn't added", name)
		}
	}
	// The static name comes ahead of the table's.
	e.Table().Add(pair("cookie", "y"))
	writes(t, "its static name", e, "\x1f\x11\x01~", pair("cookie", "~"))
}

func TestHalfOfTheCapacity(t *testing.T) { // P7.2
	for _, x := range []struct {
		capacity, size int
		added          bool
	}{
		{4096, 2048, true}, {4096, 2049, false}, {4095, 2047, true}, {4095, 2048, false},
		{100, 50, true}, {100, 51, false}, {101, 50, true}, {101, 51, false}, {103, 52, false},
		{66, 33, true}, {65, 33, false}, {64, 33, false}, {0, 33, false}, {33, 33, false},
	} {
		f := pair("~", strings.Repeat("~", x.size-33))
		first := "\x00"
		if x.added {
			first = "\x40"
		}
		at := strconv.Itoa(x.size) + " of " + strconv.Itoa(x.capacity)
		for _, e := range []*Encoder{New(x.capacity), New(4096)} {
			begin := ""
			if e.Table().Cap() != x.capacity {
				e.Resize(x.capacity)
				begin = string(e.Encode())
				if begin == "" {
					t.Errorf("%s: no update", at)
				}
			}
			writes(t, at, e, first+string(Str(Str(nil, f.Name), f.Value)), f)
			if e.Table().Len() == 1 != x.added {
				t.Errorf("%s: %d stand", at, e.Table().Len())
			}
		}
	}
	writes(t, "the least field, half of 64", New(64), "\x40\x00\x00", api.Field{})
	writes(t, "the least field, above half of 63", New(63), "\x00\x00\x00", api.Field{})

	// One that isn't added takes none away, and is written each time anew.
	e := New(100)
	e.Encode(pair("a", "1"), pair("b", "2"))
	great := pair("b", "~~~~~~~~~~~~~~~~~~") // 51
	for range 2 {
		writes(t, "by the table's name", e, "\x0f\x2f\x12"+great.Value, great)
		writes(t, "by a static name", e, "\x04\x10/~~~~~~~~~~~~~~~", pair(":path", "/~~~~~~~~~~~~~~~"))
		stands(t, "they stay", e, pair("b", "2"), pair("a", "1"))
	}
	// What goes for it may be what named it.
	e = New(70)
	e.Encode(pair("a", "1"), pair("b", "2"))
	writes(t, "its own name goes for it", e, "\x7f\x00\x02~~", pair("a", "~~"))
	stands(t, "its own name goes for it", e, pair("a", "~~"), pair("b", "2"))
}

// The requests and answers of RFC 7541's appendices C.4 and C.6, the lists' blocks one behind the other. (Of C.6.2 the status isn't shorter in huff's code; of C.6.3 the cookie is never indexed: so that it takes no entries away.)
func TestOfTheRFC(t *testing.T) { // P7.2
	e := New(4096)
	host, cache, key := pair(":authority", "www.example.com"), pair("cache-control", "no-cache"), pair("custom-key", "custom-value")
	writes(t, "C.4.1", e, unhex(t, "8286 8441 8cf1 e3c2 e5f2 3a6b a0ab 90f4 ff"), pair(":method", "GET"), pair(":scheme", "http"), pair(":path", "/"), host)
	stands(t, "C.4.1", e, host)
	writes(t, "C.4.2", e, unhex(t, "8286 84be 5886 a8eb 1064 9cbf"), pair(":method", "GET"), pair(":scheme", "http"), pair(":path", "/"), host, cache)
	stands(t, "C.4.2", e, cache, host)
	writes(t, "C.4.3", e, unhex(t, "8287 85bf 4088 25a8 49e9 5ba9 7d7f 8925 a849 e95b b8e8 b4bf"), pair(":method", "GET"), pair(":scheme", "https"), pair(":path", "/index.html"), host, key)
	stands(t, "C.4.3", e, key, cache, host)

	e = New(256)
	s302, private, s307, s200 := pair(":status", "302"), pair("cache-control", "private"), pair(":status", "307"), pair(":status", "200")
	at21, at22 := pair("date", "Mon, 21 Oct 2013 20:13:21 GMT"), pair("date", "Mon, 21 Oct 2013 20:13:22 GMT")
	place, gzip := pair("location", "https://www.example.com"), pair("content-encoding", "gzip")
	cookie := pair("set-cookie", "foo=ASDJKHQKBZXOQWEOPIUAXQWEOIU; max-age=3600; version=1")
	writes(t, "C.6.1", e, unhex(t, "4882 6402 5885 aec3 771a 4b61 96d0 7abe 9410 54d4 44a8 2005 9504 0b81 66e0 82a6 2d1b ff6e 919d 29ad 1718 63c7 8f0b 97c8 e9ae 82ae 43d3"), s302, private, at21, place)
	stands(t, "C.6.1", e, place, at21, private, s302)
	writes(t, "C.6.2", e, unhex(t, "4803 3330 37c1 c0bf"), s307, private, at21, place)
	stands(t, "C.6.2", e, s307, place, at21, private)
	writes(t, "C.6.3", e, unhex(t, "88c1 6196 d07a be94 1054 d444 a820 0595 040b 8166 e084 a62d 1bff c05a 839b d9ab")+
		"\x1f\x28\xad"+unhex(t, "94e7 821d d7f2 e6c7 b335 dfdf cd5b 3960 d5af 2708 7f36 72c1 ab27 0fb5 291f 9587 3160 65c0 03ed 4ee5 b106 3d50 07"),
		s200, private, at22, place, gzip, cookie)
	stands(t, "C.6.3", e, gzip, at22, s307, place)
}

func TestBlocksOfNothing(t *testing.T) { // P7.2, DOC's rule 2
	e := New(4096)
	for _, l := range [][]api.Field{nil, {}} {
		if b := e.Encode(l...); len(b) != 0 {
			t.Errorf("Encode(%v): %x", l, b)
		}
	}
	writes(t, "a field of nothing", e, "\x40\x00\x00", api.Field{})
}

func TestTable(t *testing.T) { // DOC's rule 3: it is the thing itself
	e := New(200)
	table := e.Table()
	e.Encode(pair("a", "1"))
	if got := stand(table); table != e.Table() || !slices.Equal(got, []api.Field{pair("a", "1")}) {
		t.Errorf("the table that was answered ahead: %q", got)
	}
	table.Add(pair("b", "2"))
	writes(t, "what was added to it", e, "\xbe\xbf", pair("b", "2"), pair("a", "1"))
	e.Resize(34)
	if table.Cap() != 34 || table.Len() != 1 {
		t.Errorf("behind Resize: %d, %d stand", table.Cap(), table.Len())
	}
	// The encoder tells what it was told itself; the table's capacity is the one that stands.
	table.Resize(200)
	writes(t, "a capacity that the encoder wasn't told", e, "\x3f\x03\x40\x01c\x013\xbf", pair("c", "3"), pair("b", "2"))
	table.Resize(math.MaxInt)
	writes(t, "the greatest capacity", e, "\x82\xbe", pair(":method", "GET"), pair("c", "3"))
}

func TestHandedIn(t *testing.T) { // DOC's rule 3
	room := []api.Field{pair("a", "1"), pair(":method", "GET"), pair("spare", "room")}
	was := slices.Clone(room)
	e := New(4096)
	first := e.Encode(room[:2]...)
	if !slices.Equal(room, was) {
		t.Errorf("Encode changed what was handed in: %q", room)
	}
	clear(room)
	stands(t, "behind a change of the list", e, pair("a", "1"))
	text := bytes.Clone(first)
	e.Resize(100)
	second := e.Encode(pair("b", "2"))
	third := e.Encode(pair("b", "2"))
	clear(second)
	if !bytes.Equal(first, text) || string(third) != "\xbe" {
		t.Errorf("answers share memory: %x, %x", first, third)
	}
	writes(t, "behind a change of an answer", e, "\xbe\xbf", pair("b", "2"), pair("a", "1"))
}

func TestApart(t *testing.T) { // DOC's rule 8
	x, y := New(100), New(100)
	x.Encode(pair("a", "1"))
	x.Resize(50)
	writes(t, "the other one", y, "\x40\x01a\x011", pair("a", "1"))
	if y.Table().Cap() != 100 || y.Table().Len() != 1 {
		t.Error("one encoder knows of another")
	}
}
