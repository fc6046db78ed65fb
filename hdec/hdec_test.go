package hdec

import (
	"bytes"
	"encoding/hex"
	"math"
	"math/rand"
	"slices"
	"strconv"
	"strings"
	"testing"

	"bifold/api"
	"bifold/dyn"
	"bifold/huff"
	"bifold/num"
)

func pair(name, value string) api.Field { return api.Field{Name: name, Value: value} }

func unhex(t *testing.T, s string) []byte {
	t.Helper()
	b, err := hex.DecodeString(strings.ReplaceAll(s, " ", ""))
	if err != nil {
		t.Fatal(err)
	}
	return b
}

// The bytes of a block's parts, as RFC 7541's section 6 draws them.

func index(i uint64) string             { return string(num.Prefix(nil, 0x80, 7, i)) }
func update(n uint64) string            { return string(num.Prefix(nil, 0x20, 5, n)) }
func raw(s string) string               { return string(num.Prefix(nil, 0, 7, uint64(len(s)))) + s }
func added(n, v string) string          { return "\x40" + raw(n) + raw(v) }
func addedAt(i uint64, v string) string { return string(num.Prefix(nil, 0x40, 6, i)) + raw(v) }
func plainAt(i uint64, v string) string { return string(num.Prefix(nil, 0x00, 4, i)) + raw(v) }
func neverAt(i uint64, v string) string { return string(num.Prefix(nil, 0x10, 4, i)) + raw(v) }

func coded(s string) string {
	b := huff.Encode(nil, s)
	return string(num.Prefix(nil, 0x80, 7, uint64(len(b)))) + string(b)
}

// stand: what stands in t, from the newest on.
func stand(t *dyn.Table) []api.Field {
	var l []api.Field
	for i := range t.Len() {
		f, _ := t.Newest(uint64(i))
		l = append(l, f)
	}
	return l
}

// told: all that a table tells of itself.
type told struct {
	size, capacity int
	count          uint64
	list           string
}

func tell(t *dyn.Table) told {
	list := ""
	for _, f := range stand(t) {
		list += strconv.Quote(f.Name) + ": " + strconv.Quote(f.Value) + "\n"
	}
	return told{t.Size(), t.Cap(), t.Count(), list}
}

// good: d reads block as these fields.
func good(t *testing.T, at string, d *Decoder, block string, want ...api.Field) {
	t.Helper()
	l, e := d.Decode([]byte(block))
	if e != api.OK || !slices.Equal(l, want) {
		t.Errorf("%s: Decode(%x): %q, %v, not %q", at, block, l, e, want)
	}
}

// wrong: d refuses block, nothing else changes, and it refuses each one behind it.
func wrong(t *testing.T, at string, d *Decoder, block string) {
	t.Helper()
	was, table := tell(d.Table()), d.Table()
	if l, e := d.Decode([]byte(block)); l != nil || e != api.ErrBlock {
		t.Errorf("%s: Decode(%x): %q, %v", at, block, l, e)
	}
	for _, behind := range []string{"", "\x82", update(0), added("a", "b")} {
		if l, e := d.Decode([]byte(behind)); l != nil || e != api.ErrBlock {
			t.Errorf("%s: behind an error Decode(%x): %q, %v", at, behind, l, e)
		}
	}
	if now := tell(d.Table()); now != was || d.Table() != table {
		t.Errorf("%s: a wrong block has changed the table: %v, not %v", at, now, was)
	}
}

func TestStr(t *testing.T) { // P6.1
	full := strings.Repeat("x", api.MaxStr)
	for _, x := range []struct {
		b    string
		s    string
		took int
		e    api.Errno
	}{
		{"\x00", "", 1, api.OK},
		{"\x80", "", 1, api.OK},
		{"\x01a", "a", 2, api.OK},
		{"\x0acustom-key", "custom-key", 11, api.OK},
		{"\x0acustom-keyand more", "custom-key", 11, api.OK},
		{"\x88\x25\xa8\x49\xe9\x5b\xa9\x7d\x7f", "custom-key", 9, api.OK},
		{"\x88\x25\xa8\x49\xe9\x5b\xa9\x7d\x7f\xff\xff", "custom-key", 9, api.OK},
		{"\x81\x1f", "a", 2, api.OK},
		{"\x01\x1f", "\x1f", 2, api.OK},
		{"\x03\x00\r\xff", "\x00\r\xff", 4, api.OK},
		{raw(strings.Repeat("y", 126)), strings.Repeat("y", 126), 127, api.OK},
		{raw(strings.Repeat("y", 127)), strings.Repeat("y", 127), 129, api.OK},
		{"\x7f\x80\x00" + strings.Repeat("y", 127), strings.Repeat("y", 127), 130, api.OK}, // not in the fewest bytes
		{raw(full), full, 3 + api.MaxStr, api.OK},
		{coded(full) + "z", full, len(coded(full)), api.OK},

		// num's errors.
		{"", "", 0, api.ErrMore},
		{"\x7f", "", 0, api.ErrMore},
		{"\xff\x80", "", 0, api.ErrMore},
		{"\x7f\x80\x80\x80\x80\x80\x80\x80\x80\x80\x01", "", 0, api.ErrNum},
		{"\xff\x80\x80\x80\x80\x80\x80\x80\x80\x80\x80", "", 0, api.ErrNum},
		// It ends ahead.
		{"\x01", "", 0, api.ErrMore},
		{"\x02a", "", 0, api.ErrMore},
		{"\x81", "", 0, api.ErrMore},
		{"\x85\x1f\xff\xff\xff", "", 0, api.ErrMore}, // ahead of what is wrong in it
		{raw(full)[:2+api.MaxStr], "", 0, api.ErrMore},
		{string(num.Prefix(nil, 0, 7, api.MaxStr)), "", 0, api.ErrMore},
		// Too long as coded, whether all of it is there or not.
		{string(num.Prefix(nil, 0, 7, api.MaxStr+1)), "", 0, api.ErrLong},
		{string(num.Prefix(nil, 0x80, 7, api.MaxStr+1)), "", 0, api.ErrLong},
		{raw(full + "x"), "", 0, api.ErrLong},
		{string(num.Prefix(nil, 0, 7, 1<<31)), "", 0, api.ErrLong},
		{string(num.Prefix(nil, 0x80, 7, api.MaxVar)), "", 0, api.ErrLong},
		// Too long as decoded: ahead of what is wrong behind it.
		{coded(strings.Repeat("a", api.MaxStr+1)), "", 0, api.ErrLong},
		// huff's errors.
		{"\x81\x00", "", 0, api.ErrHuff},
		{"\x81\xff", "", 0, api.ErrHuff},
		{"\x82\x1f\xff", "", 0, api.ErrHuff},
		{"\x84\xff\xff\xff\xff", "", 0, api.ErrHuff},
	} {
		if s, took, e := Str([]byte(x.b)); s != x.s || took != x.took || e != x.e {
			t.Errorf("Str(%.40x ..): %.40q, %d, %v, not %.40q, %d, %v", x.b, s, took, e, x.s, x.took, x.e)
		}
	}
}

func TestStrReadsBack(t *testing.T) { // P6.1
	rnd := rand.New(rand.NewSource(61))
	for range 300 {
		b := make([]byte, rnd.Intn(400))
		rnd.Read(b)
		s := string(b)
		for _, on := range []string{raw(s), coded(s)} {
			if got, took, e := Str([]byte(on + "tail")); got != s || took != len(on) || e != api.OK {
				t.Fatalf("Str(%x): %q, %d, %v, not %q", on, got, took, e, s)
			}
			cut := rnd.Intn(len(on))
			if got, took, e := Str([]byte(on)[:cut]); got != "" || took != 0 || e != api.ErrMore {
				t.Fatalf("Str(%x): %q, %d, %v", on[:cut], got, took, e)
			}
		}
	}
}

func TestNew(t *testing.T) { // P6.2
	for n, want := range map[int]int{0: 0, 1: 1, 100: 100, 4095: 4095, 4096: 4096, 4097: 4096, math.MaxInt: 4096, -1: 0, math.MinInt: 0} {
		d := New(n)
		if d.Table().Cap() != want || d.Table().Len() != 0 || d.Table().Count() != 0 {
			t.Errorf("New(%d): %v", n, tell(d.Table()))
		}
		good(t, "up to the limit", d, update(uint64(want)))
		wrong(t, "above the limit", d, update(uint64(want)+1))
	}
}

func TestKinds(t *testing.T) { // P6.2
	for _, x := range []struct {
		b     string
		f     api.Field
		added bool
	}{
		{"\x82", pair(":method", "GET"), false},
		{"\x81", pair(":authority", ""), false},
		{"\xbd", pair("www-authenticate", ""), false},
		{added("a", "b"), pair("a", "b"), true},
		{added("", ""), pair("", ""), true},
		{addedAt(1, "x"), pair(":authority", "x"), true},
		{addedAt(61, "x"), pair("www-authenticate", "x"), true},
		{"\x44" + coded("/sample"), pair(":path", "/sample"), true},
		{"\x40" + coded("key") + coded("value"), pair("key", "value"), true},
		{"\x00" + raw("a") + raw("b"), pair("a", "b"), false},
		{plainAt(4, "/p"), pair(":path", "/p"), false},
		{plainAt(14, "x"), pair(":status", "x"), false},
		{plainAt(15, "x"), pair("accept-charset", "x"), false},
		{plainAt(61, "x"), pair("www-authenticate", "x"), false},
		{"\x0f\x80\x00" + raw("x"), pair("accept-charset", "x"), false}, // not in the fewest bytes
		{"\x10" + raw("a") + raw("b"), pair("a", "b"), false},
		{"\x10" + coded("a") + coded("b"), pair("a", "b"), false},
		{neverAt(23, "x"), pair("authorization", "x"), false},
		{neverAt(61, "x"), pair("www-authenticate", "x"), false},
	} {
		d := New(4096)
		good(t, "kind", d, x.b, x.f)
		var want []api.Field
		if x.added {
			want = []api.Field{x.f}
		}
		if got := stand(d.Table()); !slices.Equal(got, want) {
			t.Errorf("behind %x: %q", x.b, got)
		}
		for cut := 1; cut < len(x.b); cut++ {
			wrong(t, "unfinished", New(4096), x.b[:cut])
			wrong(t, "unfinished behind a field", New(4096), "\x82"+added("k", "v")+x.b[:cut])
		}
	}
	good(t, "an empty block", New(4096), "")
	good(t, "several", New(4096), "\x82\x86\x84"+added("a", "b")+"\xbe"+plainAt(62, "c")+neverAt(62, "d"),
		pair(":method", "GET"), pair(":scheme", "http"), pair(":path", "/"), pair("a", "b"), pair("a", "b"), pair("a", "c"), pair("a", "d"))
}

// The blocks of RFC 7541's appendix C, and the tables behind them, the newest entry first.
func TestOfTheRFC(t *testing.T) { // P6.2, P6.3
	type step struct {
		block  string
		fields []api.Field
		table  []api.Field
		size   int
	}
	get := []api.Field{pair(":method", "GET"), pair(":scheme", "http"), pair(":path", "/"), pair(":authority", "www.example.com")}
	custom := []api.Field{pair(":method", "GET"), pair(":scheme", "https"), pair(":path", "/index.html"), pair(":authority", "www.example.com"), pair("custom-key", "custom-value")}
	host, cache, key := pair(":authority", "www.example.com"), pair("cache-control", "no-cache"), pair("custom-key", "custom-value")
	s302, private, s307, s200 := pair(":status", "302"), pair("cache-control", "private"), pair(":status", "307"), pair(":status", "200")
	at21, at22 := pair("date", "Mon, 21 Oct 2013 20:13:21 GMT"), pair("date", "Mon, 21 Oct 2013 20:13:22 GMT")
	place, gzip := pair("location", "https://www.example.com"), pair("content-encoding", "gzip")
	cookie := pair("set-cookie", "foo=ASDJKHQKBZXOQWEOPIUAXQWEOIU; max-age=3600; version=1")
	requests := func(a, b, c string) []step {
		return []step{
			{a, get, []api.Field{host}, 57},
			{b, append(slices.Clone(get), cache), []api.Field{cache, host}, 110},
			{c, custom, []api.Field{key, cache, host}, 164},
		}
	}
	responses := func(a, b, c string) []step {
		return []step{
			{a, []api.Field{s302, private, at21, place}, []api.Field{place, at21, private, s302}, 222},
			{b, []api.Field{s307, private, at21, place}, []api.Field{s307, place, at21, private}, 222},
			{c, []api.Field{s200, private, at22, place, gzip, cookie}, []api.Field{cookie, gzip, at22}, 215},
		}
	}
	for _, x := range []struct {
		name     string
		capacity int
		steps    []step
	}{
		{"C.2.1", 4096, []step{{"400a 6375 7374 6f6d 2d6b 6579 0d63 7573 746f 6d2d 6865 6164 6572", []api.Field{pair("custom-key", "custom-header")}, []api.Field{pair("custom-key", "custom-header")}, 55}}},
		{"C.2.2", 4096, []step{{"040c 2f73 616d 706c 652f 7061 7468", []api.Field{pair(":path", "/sample/path")}, nil, 0}}},
		{"C.2.3", 4096, []step{{"1008 7061 7373 776f 7264 0673 6563 7265 74", []api.Field{pair("password", "secret")}, nil, 0}}},
		{"C.2.4", 4096, []step{{"82", []api.Field{pair(":method", "GET")}, nil, 0}}},
		{"C.3", 4096, requests(
			"8286 8441 0f77 7777 2e65 7861 6d70 6c65 2e63 6f6d",
			"8286 84be 5808 6e6f 2d63 6163 6865",
			"8287 85bf 400a 6375 7374 6f6d 2d6b 6579 0c63 7573 746f 6d2d 7661 6c75 65")},
		{"C.4", 4096, requests(
			"8286 8441 8cf1 e3c2 e5f2 3a6b a0ab 90f4 ff",
			"8286 84be 5886 a8eb 1064 9cbf",
			"8287 85bf 4088 25a8 49e9 5ba9 7d7f 8925 a849 e95b b8e8 b4bf")},
		{"C.5", 256, responses(
			"4803 3330 3258 0770 7269 7661 7465 611d 4d6f 6e2c 2032 3120 4f63 7420 3230 3133 2032 303a 3133 3a32 3120 474d 546e 1768 7474 7073 3a2f 2f77 7777 2e65 7861 6d70 6c65 2e63 6f6d",
			"4803 3330 37c1 c0bf",
			"88c1 611d 4d6f 6e2c 2032 3120 4f63 7420 3230 3133 2032 303a 3133 3a32 3220 474d 54c0 5a04 677a 6970 7738 666f 6f3d 4153 444a 4b48 514b 425a 584f 5157 454f 5049 5541 5851 5745 4f49 553b 206d 6178 2d61 6765 3d33 3630 303b 2076 6572 7369 6f6e 3d31")},
		{"C.6", 256, responses(
			"4882 6402 5885 aec3 771a 4b61 96d0 7abe 9410 54d4 44a8 2005 9504 0b81 66e0 82a6 2d1b ff6e 919d 29ad 1718 63c7 8f0b 97c8 e9ae 82ae 43d3",
			"4883 640e ffc1 c0bf",
			"88c1 6196 d07a be94 1054 d444 a820 0595 040b 8166 e084 a62d 1bff c05a 839b d9ab 77ad 94e7 821d d7f2 e6c7 b335 dfdf cd5b 3960 d5af 2708 7f36 72c1 ab27 0fb5 291f 9587 3160 65c0 03ed 4ee5 b106 3d50 07")},
	} {
		d := New(x.capacity)
		for i, s := range x.steps {
			at := x.name + "." + strconv.Itoa(i+1)
			good(t, at, d, string(unhex(t, s.block)), s.fields...)
			if got := stand(d.Table()); !slices.Equal(got, s.table) || d.Table().Size() != s.size {
				t.Errorf("%s: the table: %q, %d, not %q, %d", at, got, d.Table().Size(), s.table, s.size)
			}
		}
	}
}

func TestIndexes(t *testing.T) { // P6.2
	three := added("a", "1") + added("b", "2") + added("c", "3")
	made := func() *Decoder {
		d := New(4096)
		if _, e := d.Decode([]byte(three)); e != api.OK {
			t.Fatalf("%x: %v", three, e)
		}
		return d
	}
	for i, f := range []api.Field{pair("c", "3"), pair("b", "2"), pair("a", "1")} {
		at := uint64(62 + i)
		good(t, "indexed", made(), index(at), f)
		good(t, "a name", made(), addedAt(at, "x"), pair(f.Name, "x"))
		good(t, "a name", made(), plainAt(at, "x"), pair(f.Name, "x"))
		good(t, "a name", made(), neverAt(at, "x"), pair(f.Name, "x"))
	}
	for _, i := range []uint64{65, 66, 127, 128, 1 << 31, 1 << 32, 1<<32 + 62, api.MaxVar} {
		for _, b := range []string{index(i), addedAt(i, "x"), plainAt(i, "x"), neverAt(i, "x")} {
			wrong(t, "no entry", made(), b)
			wrong(t, "no entry", made(), "\x82"+added("d", "4")+index(62)+string(num.Prefix(nil, 0x80, 7, max(i, 66))))
		}
	}
	wrong(t, "index 0", made(), "\x80")
	wrong(t, "index 0 behind a field", New(0), "\x82\x80")
	wrong(t, "62 of an empty table", New(4096), index(62))
	good(t, "61", New(4096), index(61), pair("www-authenticate", ""))
	for i := uint64(1); i < 62; i++ {
		if _, e := New(0).Decode([]byte(index(i))); e != api.OK {
			t.Errorf("indexed %d: %v", i, e)
		}
	}
	// The number itself is wrong or unfinished.
	for _, b := range []string{"\xff", "\xff\x80", "\xff\xff\xff\xff\xff\xff\xff\xff\xff\xff\xff", "\x7f", "\x7f\x80", "\x0f", "\x1f\x80", "\x3f", "\x3f\x80"} {
		wrong(t, "a number", made(), b)
	}
	wrong(t, "a number above all", made(), "\xff\x80\x80\x80\x80\x80\x80\x80\x80\x80\x01"+"\x82")
}

func TestStringsOfABlock(t *testing.T) { // P6.2
	full := strings.Repeat("x", api.MaxStr)
	for _, kind := range []string{"\x40", "\x00", "\x10"} {
		good(t, "as long as may be", New(4096), kind+raw(full)+raw(full), pair(full, full))
		good(t, "as long as may be", New(4096), kind+coded(full)+coded(full), pair(full, full))
		wrong(t, "a long name", New(4096), kind+raw(full+"x")+raw("v"))
		wrong(t, "a long value", New(4096), kind+raw("n")+raw(full+"x"))
		wrong(t, "a long name, decoded", New(4096), kind+coded(strings.Repeat("a", api.MaxStr+1))+raw("v"))
		wrong(t, "a long value, decoded", New(4096), kind+raw("n")+coded(strings.Repeat("a", api.MaxStr+1)))
		wrong(t, "no code", New(4096), kind+"\x81\x00"+raw("v"))
		wrong(t, "no code", New(4096), kind+raw("n")+"\x84\xff\xff\xff\xff")
		wrong(t, "no length", New(4096), kind+"\x7f\x80\x80\x80\x80\x80\x80\x80\x80\x80\x01"+raw("v"))
		wrong(t, "no value", New(4096), kind+raw("n"))
		wrong(t, "a cut value", New(4096), kind+raw("n")+"\x05abcd")
	}
}

func TestSizeUpdates(t *testing.T) { // P6.2
	a, b, c := added("a", "1"), added("b", "2"), added("c", "3") // 34 each
	made := func() *Decoder {
		d := New(200)
		good(t, "three", d, a+b+c, pair("a", "1"), pair("b", "2"), pair("c", "3"))
		return d
	}
	d := made()
	good(t, "to 102", d, update(102)+"\xc0", pair("a", "1"))
	good(t, "to 101: one goes", d, update(101)+"\xbf", pair("b", "2"))
	if d.Table().Len() != 2 || d.Table().Cap() != 101 {
		t.Errorf("behind 101: %v", tell(d.Table()))
	}
	wrong(t, "what went", d, "\xc0")

	d = made()
	good(t, "an update alone", d, update(34))
	good(t, "it holds for blocks behind it", d, "\xbe", pair("c", "3"))
	good(t, "up again", d, update(200)+a+b, pair("a", "1"), pair("b", "2"))
	if got := stand(d.Table()); len(got) != 3 || d.Table().Count() != 5 {
		t.Errorf("behind it: %v", tell(d.Table()))
	}

	d = made()
	good(t, "two: to nothing and up", d, update(0)+update(200)+a+"\xbe", pair("a", "1"), pair("a", "1"))
	if got := stand(d.Table()); !slices.Equal(got, []api.Field{pair("a", "1")}) || d.Table().Cap() != 200 || d.Table().Count() != 4 {
		t.Errorf("behind it: %v", tell(d.Table()))
	}
	good(t, "two again in another block", d, update(200)+update(0)+"\x82", pair(":method", "GET"))
	if d.Table().Len() != 0 || d.Table().Cap() != 0 {
		t.Errorf("behind it: %v", tell(d.Table()))
	}

	wrong(t, "three", made(), update(1)+update(2)+update(3))
	wrong(t, "three alike", made(), update(0)+update(0)+update(0)+"\x82")
	wrong(t, "above the limit", made(), update(201))
	wrong(t, "above the limit, the first of two", made(), update(201)+update(200))
	wrong(t, "above the limit, the second of two", made(), update(0)+update(201))
	wrong(t, "far above the limit", made(), update(1<<32))
	wrong(t, "far above the limit", made(), update(api.MaxVar))
	wrong(t, "above all limits", New(4096), update(4097))
	wrong(t, "behind a field", made(), "\x82"+update(100))
	wrong(t, "behind a literal", made(), a+update(200))
	wrong(t, "between fields", made(), update(100)+"\x82"+update(100)+"\x82")
	wrong(t, "what its update took", made(), update(68)+"\xc0")
	wrong(t, "unfinished", made(), "\x3f")
	wrong(t, "unfinished", made(), "\x3f\x80")
	wrong(t, "no number", made(), "\x3f\x80\x80\x80\x80\x80\x80\x80\x80\x80\x01")
	good(t, "not in the fewest bytes", made(), "\x3f\x80\x00\x82", pair(":method", "GET"))
}

func TestLimit(t *testing.T) { // P6.2
	for n, want := range map[int]int{0: 0, 99: 99, 100: 100, 101: 100, 4096: 100, 4097: 100, math.MaxInt: 100, -1: 0, math.MinInt: 0} {
		d := New(100)
		d.Limit(n)
		if d.Table().Cap() != want {
			t.Errorf("Limit(%d): %d", n, d.Table().Cap())
		}
		limit := uint64(min(max(n, 0), 4096))
		wrong(t, "above the new limit", d, update(limit+1))
		d = New(100)
		d.Limit(n)
		good(t, "the new limit", d, update(limit))
		if d.Table().Cap() != int(limit) {
			t.Errorf("Limit(%d), and an update of as much: %d", n, d.Table().Cap())
		}
	}
	three := added("a", "1") + added("b", "2") + added("c", "3")
	made := func(limits ...int) *Decoder {
		d := New(200)
		good(t, "three", d, three, pair("a", "1"), pair("b", "2"), pair("c", "3"))
		for _, n := range limits {
			d.Limit(n)
		}
		return d
	}
	d := made(68)
	if got := stand(d.Table()); !slices.Equal(got, []api.Field{pair("c", "3"), pair("b", "2")}) {
		t.Errorf("what is above goes at once: %q", got)
	}
	good(t, "with its update", d, update(68)+"\xbf", pair("b", "2"))
	good(t, "the next one needs none", d, "\xbf", pair("b", "2"))
	d.Limit(68)
	good(t, "the same limit: none needed", d, "\xbf", pair("b", "2"))
	d.Limit(34)
	wrong(t, "a second limit: needed again", d, "\xbe")

	for _, b := range []string{"", "\x82", "\xbe", three, plainAt(4, "/")} {
		wrong(t, "one that must be isn't there", made(199), b)
		wrong(t, "though the limit went up again", made(199, 4096), b)
		wrong(t, "though the table was empty by then", made(0, 200), b)
	}
	wrong(t, "not at the beginning", made(199), "\x82"+update(199))
	good(t, "less than the limit will do", made(199), update(7)+"\x82", pair(":method", "GET"))
	good(t, "two will do", made(199), update(7)+update(199)+"\x82", pair(":method", "GET"))
	good(t, "an update alone will do", made(199), update(199))
	good(t, "the limit of now counts", made(34, 4096), update(4096)+"\xbe", pair("c", "3"))
	wrong(t, "the limit of now counts", made(4096, 150), update(151))
	good(t, "a limit above asks for nothing", made(201), "\xbe", pair("c", "3"))
	good(t, "nor one as high", made(200), "\xbe", pair("c", "3"))

	d = made()
	good(t, "the peer's own", d, update(100)+"\x82", pair(":method", "GET"))
	d.Limit(150)
	good(t, "a table of less needs none", d, "\x82", pair(":method", "GET"))
	wrong(t, "above it", d, update(151))
}

func TestLimitBehindAnError(t *testing.T) { // P6.2
	d := New(200)
	good(t, "two", d, added("a", "1")+added("b", "2"), pair("a", "1"), pair("b", "2"))
	wrong(t, "an error", d, "\x80")
	d.Limit(34)
	if got := stand(d.Table()); !slices.Equal(got, []api.Field{pair("b", "2")}) || d.Table().Cap() != 34 {
		t.Errorf("Limit behind an error: %v", tell(d.Table()))
	}
	wrong(t, "each one behind it", d, update(34)+"\x82")
}

func TestFields(t *testing.T) { // P6.2
	for _, one := range []string{"\x82", added("n", "v"), plainAt(2, "x"), neverAt(2, "x")} {
		most := strings.Repeat(one, api.MaxFields)
		l, e := New(4096).Decode([]byte(most))
		if e != api.OK || len(l) != api.MaxFields {
			t.Errorf("64 times %x: %d, %v", one, len(l), e)
		}
		l, e = New(4096).Decode([]byte(update(0) + update(4096) + most))
		if e != api.OK || len(l) != api.MaxFields {
			t.Errorf("two updates and 64 times %x: %d, %v", one, len(l), e)
		}
		wrong(t, "65", New(4096), most+one)
		wrong(t, "65", New(4096), most+"\x84")
	}
	d := New(4096)
	for range 3 { // they are counted block by block
		if l, e := d.Decode(bytes.Repeat([]byte{0x82}, api.MaxFields)); e != api.OK || len(l) != api.MaxFields {
			t.Errorf("64 again: %d, %v", len(l), e)
		}
	}
}

func TestAddedEntries(t *testing.T) { // P6.2, P6.3
	d := New(100)
	long := strings.Repeat("v", 68)
	good(t, "one goes for another", d, added("a", "1")+added("b", "2")+added("c", "3")+"\xbe\xbf",
		pair("a", "1"), pair("b", "2"), pair("c", "3"), pair("c", "3"), pair("b", "2"))
	good(t, "its own name goes for it", d, addedAt(63, "44444")+"\xbf\xbe", pair("b", "44444"), pair("c", "3"), pair("b", "44444"))
	good(t, "above the capacity: the table is empty", d, added("x", long), pair("x", long))
	if got := tell(d.Table()); got != (told{0, 100, 4, ""}) {
		t.Errorf("behind it: %v", got)
	}
	good(t, "it fits to the last byte", d, added("", long)+"\xbe", pair("", long), pair("", long))
	good(t, "the name of one that goes whole", d, addedAt(62, long+"?"), pair("", long+"?"))
	wrong(t, "none is left", d, "\xbe")

	d = New(0)
	good(t, "a table of nothing", d, added("a", "1")+added("", ""), pair("a", "1"), pair("", ""))
	wrong(t, "nothing stands in it", d, added("a", "1")+"\xbe")
}

func TestNothingChangesByAWrongBlock(t *testing.T) { // DOC's rule 4
	for _, block := range []string{
		added("d", "4") + "\x80",
		added("d", "4") + added("e", "5") + index(200),
		update(0) + "\x80",
		update(0) + update(200) + added("d", "4") + "\xff",
		update(34) + added("much", strings.Repeat("v", 300)) + "\x40\x01",
		strings.Repeat(added("n", "v"), 65),
	} {
		d := New(200)
		good(t, "three", d, added("a", "1")+added("b", "2")+added("c", "3"), pair("a", "1"), pair("b", "2"), pair("c", "3"))
		wrong(t, "behind them", d, block)
		if got := tell(d.Table()); got != (told{102, 200, 3, "\"c\": \"3\"\n\"b\": \"2\"\n\"a\": \"1\"\n"}) {
			t.Errorf("behind %x: %v", block, got)
		}
	}
}

func TestTable(t *testing.T) { // DOC's rule 3: it is the thing itself
	d := New(200)
	table := d.Table()
	good(t, "one", d, added("a", "1"), pair("a", "1"))
	if got := stand(table); table != d.Table() || !slices.Equal(got, []api.Field{pair("a", "1")}) {
		t.Errorf("the table that was answered ahead: %q", got)
	}
	if f, ok := table.At(0); !ok || f != pair("a", "1") {
		t.Errorf("At(0): %v, %v", f, ok)
	}
	good(t, "an update", d, update(34)+added("b", "2"), pair("b", "2"))
	if f, ok := table.At(1); !ok || f != pair("b", "2") || table.Cap() != 34 || table.Count() != 2 {
		t.Errorf("At(1): %v, %v", f, ok)
	}
	table.Add(pair("c", "3"))
	good(t, "what was added to it", d, "\xbe", pair("c", "3"))
	d.Limit(0)
	if table.Cap() != 0 || table.Len() != 0 {
		t.Errorf("behind Limit(0): %v", tell(table))
	}
}

func TestHandedIn(t *testing.T) { // DOC's rule 3
	room := []byte(added("name", "value") + plainAt(4, "/p") + "spare room")
	b := room[:len(room)-len("spare room")]
	was := bytes.Clone(room)
	d := New(4096)
	l, e := d.Decode(b)
	if !bytes.Equal(room, was) || e != api.OK {
		t.Fatalf("Decode changed what was handed in: %x", room)
	}
	clear(room)
	want := []api.Field{pair("name", "value"), pair(":path", "/p")}
	if !slices.Equal(l, want) || !slices.Equal(stand(d.Table()), want[:1]) {
		t.Errorf("behind a change of the block: %q, %q", l, stand(d.Table()))
	}
	l[0] = pair("x", "x")
	if !slices.Equal(stand(d.Table()), want[:1]) {
		t.Errorf("behind a change of the answer: %q", stand(d.Table()))
	}
	text := []byte("\x03abc")
	s, _, _ := Str(text)
	clear(text)
	if s != "abc" {
		t.Errorf("Str behind a change of its bytes: %q", s)
	}
	// What stands in the spare room isn't the block's.
	cut := []byte(added("a", "b"))
	if l, e := New(4096).Decode(cut[:len(cut)-1]); l != nil || e != api.ErrBlock {
		t.Errorf("Decode of spare room: %q, %v", l, e)
	}
	if s, n, e := Str([]byte("\x03abc")[:2]); s != "" || n != 0 || e != api.ErrMore {
		t.Errorf("Str of spare room: %q, %d, %v", s, n, e)
	}
}

func TestApart(t *testing.T) { // DOC's rule 8
	x, y := New(100), New(100)
	good(t, "one", x, added("a", "1"), pair("a", "1"))
	wrong(t, "it", x, "\x80")
	good(t, "the other one", y, "\x82", pair(":method", "GET"))
	if y.Table().Len() != 0 {
		t.Error("one decoder knows of another")
	}
}
