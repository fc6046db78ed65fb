package field

import (
	"math/rand"
	"slices"
	"strings"
	"testing"

	"bifold/api"
)

// token: the bytes of a name, spelt out one by one.
const token = "abcdefghijklmnopqrstuvwxyz0123456789!#$%&'*+-.^_`|~"

func one(c int) string { return string([]byte{byte(c)}) }

func TestNameByBytes(t *testing.T) { // P3.1
	good := 0
	for c := range 256 {
		want := strings.Contains(token, one(c))
		if want {
			good++
		}
		for _, s := range []string{one(c), one(c) + "ab", "a" + one(c) + "b", "ab" + one(c), one(c) + one(c)} {
			if got := Name(s); got != want {
				t.Errorf("Name(%q): %v", s, got)
			}
		}
	}
	if good != 26+10+15 {
		t.Errorf("%d bytes are of a name", good)
	}
}

func TestName(t *testing.T) { // P3.1
	for s, want := range map[string]bool{
		"":                              false,
		"accept":                        true,
		"Accept":                        false,
		"accepT":                        false,
		"content-length":                true,
		"x":                             true,
		"0":                             true,
		"-":                             true,
		token:                           true,
		strings.Repeat("a", 9000):       true, // no most is named
		strings.Repeat("a", 9000) + "A": false,
		":path":                         false,
		":":                             false,
		"a:":                            false,
		"a b":                           false,
		" a":                            false,
		"a ":                            false,
		"a\t":                           false,
		"a\n":                           false,
		"a\x00":                         false,
		"a\x7f":                         false,
		"é":                             false,
		"a\xff":                         false,
		"\ufffd":                        false,
		"\u212a":                        false, // the sign of Kelvin, that folds to k
		"a\u0131":                       false,
		"a,b":                           false,
		"a/b":                           false,
		"a(b)":                          false,
		"a=b":                           false,
		"a@b":                           false,
		"a[b]":                          false,
		"a\\b":                          false,
		"a{b}":                          false,
		"a\"b":                          false,
		"a;b":                           false,
		"a<b>":                          false,
		"a?b":                           false,
		"x_~|`^.+*":                     true,
	} {
		if got := Name(s); got != want {
			t.Errorf("Name(%.40q): %v", s, got)
		}
	}
}

func TestValueByBytes(t *testing.T) { // P3.1
	for c := range 256 {
		inside := c != 0 && c != 10 && c != 13
		atEnds := inside && c != ' ' && c != '\t'
		// Of eight bytes and of many, too: the length makes no difference.
		for _, s := range []string{"a" + one(c) + "b", "é" + one(c) + "é", "\xff" + one(c) + "\xff", "abcdefgh" + one(c) + "ijklmnop"} {
			if got := Value(s); got != inside {
				t.Errorf("Value(%q): %v", s, got)
			}
		}
		for _, s := range []string{one(c), one(c) + "ab", "ab" + one(c), one(c) + one(c), one(c) + "abcdefghijklmnop", "abcdefghijklmnop" + one(c)} {
			if got := Value(s); got != atEnds {
				t.Errorf("Value(%q): %v", s, got)
			}
		}
	}
}

func TestValue(t *testing.T) { // P3.1
	for s, want := range map[string]bool{
		"":                               true,
		"a":                              true,
		"A b\tc":                         true,
		"a  b":                           true,
		" ":                              false,
		"\t":                             false,
		"  ":                             false,
		" a":                             false,
		"a ":                             false,
		"\ta":                            false,
		"a\t":                            false,
		" a ":                            false,
		"\x00":                           false,
		"\n":                             false,
		"\r":                             false,
		"a\r\nb: c":                      false,
		"\x01\x7f\x0b\x0c":               true,
		"\u00a0a\u00a0":                  true, // neither a space nor a tab
		"\u0085\u2028":                   true,
		"\u0120\u010a\u010d":             true, // whose lowest bytes are a space and breaks
		"\xff\xfe":                       true,
		"\ufffd":                         true,
		strings.Repeat("a", 9000):        true, // no most is named
		strings.Repeat("a", 9000) + "\r": false,
		strings.Repeat("a", 9000) + " ":  false,
	} {
		if got := Value(s); got != want {
			t.Errorf("Value(%.40q): %v", s, got)
		}
	}
}

func TestPseudo(t *testing.T) { // P3.1
	for s, want := range map[string]bool{
		"": false, ":": true, ":path": true, ":PATH": true, "::": true, ":\x00": true, "path": false, "path:": false, "a:b": false, " :path": false, "\uff1a": false, "\u013a": false,
	} {
		if got := Pseudo(s); got != want {
			t.Errorf("Pseudo(%q): %v", s, got)
		}
	}
	for c := range 256 {
		if got := Pseudo(one(c) + "a"); got != (c == ':') {
			t.Errorf("Pseudo(%q): %v", one(c)+"a", got)
		}
	}
}

func TestSize(t *testing.T) { // P3.2
	for i, x := range []struct {
		l    []api.Field
		want int
	}{
		{nil, 0},
		{[]api.Field{}, 0},
		{[]api.Field{{}}, 32},
		{[]api.Field{{}, {}}, 64},
		{[]api.Field{{Name: "abc"}}, 35},
		{[]api.Field{{Value: "abcd"}}, 36},
		{[]api.Field{{Name: "custom-key", Value: "custom-value"}}, 54},
		{[]api.Field{{Name: "custom-key", Value: "custom-value"}, {Name: "a", Value: "b"}, {Name: "a", Value: "b"}}, 54 + 34 + 34},
		{[]api.Field{{Name: "é", Value: "\u2028"}}, 32 + 2 + 3}, // bytes, not runes
		{[]api.Field{{Name: "A B", Value: "\r\n"}}, 32 + 3 + 2}, // of neither a name nor a value, too
		{[]api.Field{{Name: strings.Repeat("a", 5000), Value: strings.Repeat("b", 7000)}}, 12032},
	} {
		if got := Size(x.l...); got != x.want {
			t.Errorf("%d: Size: %d, not %d", i, got, x.want)
		}
	}
	if got := Size(); got != 0 {
		t.Errorf("Size of nothing: %d", got)
	}
	if got := Size(api.Field{Name: "a", Value: "b"}, api.Field{Name: "cd"}); got != 34+34 {
		t.Errorf("Size of two: %d", got)
	}
	if got := Size(make([]api.Field, 100000)...); got != 3200000 {
		t.Errorf("Size of many: %d", got)
	}
}

func TestFind(t *testing.T) { // P3.2
	l := []api.Field{{Name: "b", Value: "1"}, {Name: "a", Value: "2"}, {Name: "b", Value: ""}, {Name: "B", Value: "3"}, {Name: "", Value: "4"}, {Name: "b", Value: "1"}, {Name: ":b", Value: "5"}, {Name: "bb", Value: "6"}, {Name: "b", Value: "0"}}
	for name, want := range map[string][]string{
		"b": {"1", "", "1", "0"}, "a": {"2"}, "B": {"3"}, "": {"4"}, ":b": {"5"}, "bb": {"6"}, "A": nil, "c": nil, "b ": nil,
	} {
		if got := Find(l, name); !slices.Equal(got, want) {
			t.Errorf("Find(.., %q): %q, not %q", name, got, want)
		}
	}
	for _, none := range [][]api.Field{nil, {}, l[:1:1]} {
		if got := Find(none, "a"); len(got) != 0 {
			t.Errorf("Find(%v, a): %q", none, got)
		}
	}
	if got := Find(l[:3], "b"); !slices.Equal(got, []string{"1", ""}) {
		t.Errorf("Find ahead of spare room: %q", got)
	}
}

func TestSame(t *testing.T) { // P3.2
	ab := []api.Field{{Name: "a", Value: "1"}, {Name: "b", Value: "2"}}
	for i, x := range []struct {
		a, b []api.Field
		want bool
	}{
		{nil, nil, true},
		{nil, []api.Field{}, true},
		{ab, slices.Clone(ab), true},
		{ab, ab, true},
		{ab, nil, false},
		{ab, ab[:1], false},
		{ab, append(slices.Clone(ab), api.Field{}), false},
		{[]api.Field{{}}, nil, false},
		{ab, []api.Field{ab[1], ab[0]}, false},
		{ab, []api.Field{{Name: "A", Value: "1"}, ab[1]}, false},
		{ab, []api.Field{{Name: "a", Value: "2"}, ab[1]}, false},
		{ab, []api.Field{ab[0], {Name: "b", Value: "2 "}}, false},
		{ab, []api.Field{ab[0], {Name: "c", Value: "2"}}, false},
		{[]api.Field{{Name: "ab", Value: "c"}}, []api.Field{{Name: "a", Value: "bc"}}, false},
		{[]api.Field{{Name: "a", Value: "b"}}, []api.Field{{Name: "b", Value: "a"}}, false},
	} {
		if got, back := Same(x.a, x.b), Same(x.b, x.a); got != x.want || back != x.want {
			t.Errorf("%d: Same: %v, and the other way %v", i, got, back)
		}
	}
}

// broken: whether s can't stand as a field's name in HTTP/2 (RFC 9113, 8.2.1), in HTTP/3 (RFC 9114, 4.2), or isn't a token in small letters (RFC 9110, 5.6.2).
func broken(s string) bool {
	for _, c := range []byte(s) {
		if c <= ' ' || 'A' <= c && c <= 'Z' || c >= 0x7f || strings.IndexByte("\"(),/:;<=>?@[\\]{}", c) >= 0 {
			return true
		}
	}
	return s == ""
}

// split: whether s can't stand as a field's value in HTTP/2 (RFC 9113, 8.2.1).
func split(s string) bool {
	for i, c := range []byte(s) {
		end := i == 0 || i == len(s)-1
		if c == 0 || c == 10 || c == 13 || end && (c == ' ' || c == '\t') {
			return true
		}
	}
	return false
}

func TestNothingElseIsOnAWire(t *testing.T) { // P3.3
	r := rand.New(rand.NewSource(3))
	const some = "ab-AZ:09 \t\r\n\x00\x7f\xc3\xa9\xff~!"
	names, values := map[bool]int{}, map[bool]int{}
	for range 50000 {
		b := make([]byte, r.Intn(5))
		for i := range b {
			b[i] = some[r.Intn(len(some))]
			if r.Intn(3) > 0 {
				b[i] = byte('a' + r.Intn(26))
			}
		}
		s := string(b)
		if got := Name(s); got == broken(s) {
			t.Fatalf("Name(%q): %v", s, got)
		}
		if got := Value(s); got == split(s) {
			t.Fatalf("Value(%q): %v", s, got)
		}
		if Pseudo(s) && Name(s) {
			t.Fatalf("%q: a pseudo name, and a name", s)
		}
		names[Name(s)]++
		values[Value(s)]++
	}
	if len(names) != 2 || len(values) != 2 {
		t.Errorf("not all answers seen: %v, %v", names, values)
	}
}

func TestWhatIsHandedInStays(t *testing.T) { // DOC.md, what holds everywhere, 3
	whole := []api.Field{{Name: "a", Value: "1"}, {Name: "b", Value: "2"}, {Name: "a", Value: "3"}, {Name: "x", Value: "y"}}
	was := slices.Clone(whole)
	l := whole[:3]
	found := Find(l, "a")
	Size(l...)
	Same(l, l)
	found[0] = "changed"
	if again := Find(l, "a"); !slices.Equal(again, []string{"1", "3"}) || !slices.Equal(whole, was) {
		t.Errorf("what was handed in has changed: %v; Find: %q", whole, again)
	}
	l[0].Value = "4" // nothing of it was kept
	if found[1] != "3" || !slices.Equal(Find(l, "a"), []string{"4", "3"}) {
		t.Errorf("an answer hangs on an earlier one")
	}
}
