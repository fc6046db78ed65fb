package static

import (
	"math"
	"math/rand"
	"sync"
	"testing"

	"bifold/api"
)

// side: a table's two calls, and what the document tells of it.
type side struct {
	name string
	at   func(uint64) (api.Field, bool)
	find func(api.Field) (uint64, bool, bool)
	from uint64 // the first entry's number
	rows []api.Field
}

func sides() []side {
	return []side{
		{"H2", H2, FindH2, 1, chapter(chapter2)},
		{"H3", H3, FindH3, 0, chapter(chapter3)},
	}
}

// slowFind: what the document asks of a search, row by row.
func (s side) slowFind(f api.Field) (uint64, bool, bool) {
	for i, r := range s.rows {
		if r == f {
			return s.from + uint64(i), true, true
		}
	}
	for i, r := range s.rows {
		if r.Name == f.Name {
			return s.from + uint64(i), true, false
		}
	}
	return 0, false, false
}

func (s side) check(t *testing.T, f api.Field) {
	t.Helper()
	i, named, whole := s.find(f)
	wantI, wantNamed, wantWhole := s.slowFind(f)
	if i != wantI || named != wantNamed || whole != wantWhole {
		t.Errorf("Find%s(%.60q): %d, %v, %v, not %d, %v, %v", s.name, f, i, named, whole, wantI, wantNamed, wantWhole)
	}
}

func TestEveryEntry(t *testing.T) { // P4.1
	for _, s := range sides() {
		for i, want := range s.rows {
			if f, ok := s.at(s.from + uint64(i)); f != want || !ok {
				t.Errorf("%s(%d): %q, %v, not %q", s.name, s.from+uint64(i), f, ok, want)
			}
		}
	}
}

func TestEntriesOfTheRFCs(t *testing.T) { // P4.1
	if n2, n3 := len(chapter(chapter2)), len(chapter(chapter3)); n2 != 61 || n3 != 99 {
		t.Errorf("the tables have %d and %d rows", n2, n3)
	}
	for i, want := range map[uint64]api.Field{
		1: {Name: ":authority"}, 2: {Name: ":method", Value: "GET"}, 7: {Name: ":scheme", Value: "https"}, 14: {Name: ":status", Value: "500"},
		16: {Name: "accept-encoding", Value: "gzip, deflate"}, 32: {Name: "cookie"}, 58: {Name: "user-agent"}, 61: {Name: "www-authenticate"},
	} {
		if f, ok := H2(i); f != want || !ok {
			t.Errorf("H2(%d): %q, %v, not %q", i, f, ok, want)
		}
	}
	for i, want := range map[uint64]api.Field{
		0: {Name: ":authority"}, 1: {Name: ":path", Value: "/"}, 17: {Name: ":method", Value: "GET"}, 25: {Name: ":status", Value: "200"},
		52: {Name: "content-type", Value: "text/html; charset=utf-8"}, 63: {Name: ":status", Value: "100"}, 73: {Name: "access-control-allow-credentials", Value: "FALSE"},
		85: {Name: "content-security-policy", Value: "script-src 'none'; object-src 'none'; base-uri 'none'"}, 98: {Name: "x-frame-options", Value: "sameorigin"},
	} {
		if f, ok := H3(i); f != want || !ok {
			t.Errorf("H3(%d): %q, %v, not %q", i, f, ok, want)
		}
	}
}

func TestNoEntry(t *testing.T) { // P4.1
	for _, s := range sides() {
		least := s.from + uint64(len(s.rows))
		l := []uint64{least, least + 1, 100, 127, 128, math.MaxInt64, 1 << 63, math.MaxUint64 - 1, math.MaxUint64}
		for i := uint64(8); i < 64; i++ { // whose lowest bits are an entry's number
			l = append(l, 1<<i, 1<<i+1, 1<<i+62)
		}
		if s.from > 0 {
			l = append(l, 0)
		}
		for _, i := range l {
			if f, ok := s.at(i); f != (api.Field{}) || ok {
				t.Errorf("%s(%d): %q, %v", s.name, i, f, ok)
			}
		}
	}
}

func TestFind(t *testing.T) { // P4.1
	for _, x := range []struct {
		f             api.Field
		i2            uint64
		named2, same2 bool
		i3            uint64
		named3, same3 bool
	}{
		{api.Field{Name: ":authority"}, 1, true, true, 0, true, true},
		{api.Field{Name: ":authority", Value: "a"}, 1, true, false, 0, true, false},
		{api.Field{Name: ":method", Value: "GET"}, 2, true, true, 17, true, true},
		{api.Field{Name: ":method", Value: "POST"}, 3, true, true, 20, true, true},
		{api.Field{Name: ":method", Value: "PUT"}, 2, true, false, 21, true, true},
		{api.Field{Name: ":method", Value: "get"}, 2, true, false, 15, true, false},
		{api.Field{Name: ":method"}, 2, true, false, 15, true, false},
		{api.Field{Name: ":path", Value: "/"}, 4, true, true, 1, true, true},
		{api.Field{Name: ":path", Value: "/index.html"}, 5, true, true, 1, true, false},
		{api.Field{Name: ":path", Value: "/index"}, 4, true, false, 1, true, false},
		{api.Field{Name: ":scheme", Value: "https"}, 7, true, true, 23, true, true},
		{api.Field{Name: ":status", Value: "100"}, 8, true, false, 63, true, true},
		{api.Field{Name: ":status", Value: "200"}, 8, true, true, 25, true, true},
		{api.Field{Name: ":status", Value: "500"}, 14, true, true, 71, true, true},
		{api.Field{Name: ":status", Value: "999"}, 8, true, false, 24, true, false},
		{api.Field{Name: ":status", Value: "0200"}, 8, true, false, 24, true, false},
		{api.Field{Name: "accept-encoding", Value: "gzip, deflate"}, 16, true, true, 31, true, false},
		{api.Field{Name: "accept-encoding", Value: "gzip, deflate, br"}, 16, true, false, 31, true, true},
		{api.Field{Name: "accept"}, 19, true, true, 29, true, false},
		{api.Field{Name: "accept-language"}, 17, true, true, 72, true, true},
		{api.Field{Name: "access-control-allow-headers", Value: "*"}, 0, false, false, 75, true, true},
		{api.Field{Name: "access-control-allow-headers"}, 0, false, false, 33, true, false},
		{api.Field{Name: "age", Value: "0"}, 21, true, false, 2, true, true},
		{api.Field{Name: "host"}, 38, true, true, 0, false, false},
		{api.Field{Name: "www-authenticate", Value: "x"}, 61, true, false, 0, false, false},
		{api.Field{Name: "x-frame-options", Value: "sameorigin"}, 0, false, false, 98, true, true},
		{api.Field{Name: "x-frame-options", Value: "allow"}, 0, false, false, 97, true, false},
		{api.Field{Name: "custom", Value: "GET"}, 0, false, false, 0, false, false},
	} {
		if i, named, same := FindH2(x.f); i != x.i2 || named != x.named2 || same != x.same2 {
			t.Errorf("FindH2(%q): %d, %v, %v", x.f, i, named, same)
		}
		if i, named, same := FindH3(x.f); i != x.i3 || named != x.named3 || same != x.same3 {
			t.Errorf("FindH3(%q): %d, %v, %v", x.f, i, named, same)
		}
	}
}

func TestFindEachNameWithEachValue(t *testing.T) { // P4.1
	names, values := map[string]bool{}, map[string]bool{"x": true}
	for _, s := range sides() {
		for _, f := range s.rows {
			names[f.Name], values[f.Value] = true, true
		}
	}
	for _, s := range sides() {
		for name := range names {
			for value := range values {
				s.check(t, api.Field{Name: name, Value: value})
			}
		}
	}
}

func TestFindNoName(t *testing.T) { // P4.1
	for _, s := range sides() {
		l := []api.Field{
			{}, {Value: "GET"}, {Name: ":"}, {Name: "GET"}, {Name: "GET", Value: ":method"}, {Name: "method", Value: "GET"},
			{Name: ":Method", Value: "GET"}, {Name: ":method ", Value: "GET"}, {Name: " :method", Value: "GET"}, {Name: ":method\x00", Value: "GET"},
			{Name: ":method GET"}, {Name: ":methodGET"}, {Name: ":metho", Value: "dGET"}, {Name: ":methodG", Value: "ET"},
			{Name: "ag"}, {Name: "ages"}, {Name: "Age", Value: "0"}, {Name: "\xff\xfe", Value: "\xff"}, {Name: "\u212aookie"},
		}
		for _, f := range l {
			if i, named, same := s.find(f); i != 0 || named || same {
				t.Errorf("Find%s(%q): %d, %v, %v", s.name, f, i, named, same)
			}
		}
	}
}

// bent: s with one byte changed, lost or added.
func bent(r *rand.Rand, s string) string {
	i := r.Intn(len(s) + 1)
	switch c := string([]byte{byte(r.Intn(256))}); {
	case i == len(s) || r.Intn(3) == 0:
		return s[:i] + c + s[i:]
	case r.Intn(2) == 0:
		return s[:i] + s[i+1:]
	default:
		return s[:i] + c + s[i+1:]
	}
}

func TestFindBent(t *testing.T) { // P4.1
	r := rand.New(rand.NewSource(4))
	for _, s := range sides() {
		for _, f := range s.rows {
			for range 10 {
				s.check(t, api.Field{Name: f.Name, Value: bent(r, f.Value)})
				s.check(t, api.Field{Name: bent(r, f.Name), Value: f.Value})
			}
		}
	}
}

func TestWhatIsWrittenIsRead(t *testing.T) { // P4.2
	for _, s := range sides() {
		for i := s.from; i < s.from+uint64(len(s.rows)); i++ {
			f, ok := s.at(i)
			if j, named, same := s.find(f); j != i || !ok || !named || !same {
				t.Errorf("%s(%d) is %q, %v; Find: %d, %v, %v", s.name, i, f, ok, j, named, same)
			}
			j, named, same := s.find(api.Field{Name: f.Name, Value: "\n"})
			if g, ok := s.at(j); g.Name != f.Name || !ok || !named || same || j > i {
				t.Errorf("the name of %s(%d), %q, is found at %d, %v, %v", s.name, i, f.Name, j, named, same)
			}
		}
	}
}

func TestEachSideTellsTheSame(t *testing.T) { // P4.2
	for _, s := range sides() {
		var both sync.WaitGroup
		for range 2 { // a writer and a reader, at one time
			both.Go(func() {
				for i, want := range s.rows {
					f, _ := s.at(s.from + uint64(i))
					if f != want {
						t.Errorf("%s(%d): %q, not %q", s.name, s.from+uint64(i), f, want)
					}
					f.Name, f.Value = "changed", "changed" // the answer's, not the table's
					if j, named, same := s.find(want); j != s.from+uint64(i) || !named || !same {
						t.Errorf("Find%s(%q): %d, %v, %v", s.name, want, j, named, same)
					}
				}
			})
		}
		both.Wait()
		if _, named, _ := s.find(api.Field{Name: "changed"}); named {
			t.Errorf("%s: an answer that was changed is in the table", s.name)
		}
	}
}
