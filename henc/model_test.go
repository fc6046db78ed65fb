package henc

import (
	"math/rand"
	"slices"
	"strings"
	"testing"

	"bifold/api"
	"bifold/hdec"
	"bifold/huff"
	"bifold/static"
)

// slow: writes blocks as the document tells it, going through lists.
type slow struct {
	static   []api.Field
	l        []api.Field // what stands, from the newest on
	capacity int
	resizes  []int // since the last block
}

func newSlow(capacity int) *slow {
	s := &slow{capacity: capacity}
	for i := uint64(1); i <= 61; i++ {
		f, _ := static.H2(i)
		s.static = append(s.static, f)
	}
	return s
}

func slowSize(l ...api.Field) int {
	n := 0
	for _, f := range l {
		n += len(f.Name) + len(f.Value) + 32
	}
	return n
}

func (s *slow) resize(n int) {
	n = min(max(n, 0), 4096)
	s.capacity, s.resizes = n, append(s.resizes, n)
	for slowSize(s.l...) > n {
		s.l = s.l[:len(s.l)-1]
	}
}

// slowNumber: n behind the bits of first, in what they leave of a byte and, if it must be, more bytes.
func slowNumber(first string, n int) string {
	bits, b := 8-len(first), 0
	for _, c := range first {
		b = b*2 + int(c-'0')
	}
	full := 1
	for range bits {
		b, full = b*2, full*2
	}
	if n < full-1 {
		return string([]byte{byte(b + n)})
	}
	out := []byte{byte(b + full - 1)}
	for n -= full - 1; n >= 128; n /= 128 {
		out = append(out, byte(n%128+128))
	}
	return string(append(out, byte(n)))
}

func slowText(s string) string {
	if h := huff.Encode(nil, s); len(h) < len(s) {
		return slowNumber("1", len(h)) + string(h)
	}
	return slowNumber("0", len(s)) + s
}

func (s *slow) block(l []api.Field) string {
	b := ""
	if n := len(s.resizes); n > 0 {
		least, last := slices.Min(s.resizes), s.resizes[n-1]
		if least < last {
			b += slowNumber("001", least)
		}
		b += slowNumber("001", last)
		s.resizes = nil
	}
	for _, f := range l {
		b += s.field(f)
	}
	return b
}

func (s *slow) field(f api.Field) string {
	all := slices.Concat(s.static, s.l)
	if i := slices.Index(all, f); i >= 0 {
		return slowNumber("1", i+1)
	}
	i := 1 + slices.IndexFunc(all, func(g api.Field) bool { return g.Name == f.Name })
	first := "01"
	switch {
	case slices.Contains([]string{"authorization", "cookie", "set-cookie"}, f.Name):
		first = "0001"
	case 2*slowSize(f) > s.capacity:
		first = "0000"
	default:
		for slowSize(s.l...)+slowSize(f) > s.capacity {
			s.l = s.l[:len(s.l)-1]
		}
		s.l = append([]api.Field{f}, s.l...)
	}
	b := slowNumber(first, i)
	if i == 0 {
		b += slowText(f.Name)
	}
	return b + slowText(f.Value)
}

func someFields(rnd *rand.Rand, most int) []api.Field {
	names := []string{":method", ":path", ":status", "cookie", "set-cookie", "authorization", "age", "www-authenticate", "a", "b", "custom-key", "", "\x00\xff"}
	values := []string{"GET", "/", "/index.html", "200", "", "1", "2", "3", "gzip, deflate", "\r\n\x80", strings.Repeat("v", 100), strings.Repeat("~", 140)}
	l := make([]api.Field, rnd.Intn(most+1))
	for i := range l {
		l[i] = pair(names[rnd.Intn(len(names))], values[rnd.Intn(len(values))])
		for rnd.Intn(3) == 0 {
			l[i].Value += string([]byte{byte(rnd.Intn(256))})
		}
		if rnd.Intn(20) == 0 {
			l[i].Name += strings.Repeat("n", rnd.Intn(300))
		}
	}
	return l
}

// someCapacity: a small one, most often, so that entries go.
func someCapacity(rnd *rand.Rand) int {
	switch rnd.Intn(6) {
	case 0:
		return api.MaxTable - rnd.Intn(3)
	case 1:
		return rnd.Intn(70)
	}
	return rnd.Intn(900)
}

func TestAsTheDocumentTellsIt(t *testing.T) { // P7.1, P7.2
	rnd := rand.New(rand.NewSource(72))
	for range 120 {
		capacity := someCapacity(rnd)
		e, s := New(capacity), newSlow(capacity)
		for range 30 {
			for rnd.Intn(4) == 0 {
				n := someCapacity(rnd) + rnd.Intn(3) - 1
				e.Resize(n)
				s.resize(n)
				stands(t, "Resize", e, s.l...)
			}
			l := someFields(rnd, 12)
			if b, want := string(e.Encode(l...)), s.block(l); b != want {
				t.Fatalf("Encode(%q): %x, not %x", l, b, want)
			}
			if got := stand(e.Table()); !slices.Equal(got, s.l) || e.Table().Cap() != s.capacity {
				t.Fatalf("Encode(%q): the table: %q of %d, not %q of %d", l, got, e.Table().Cap(), s.l, s.capacity)
			}
		}
	}
}

// reads: d reads b as l, and has e's table behind it.
func reads(t *testing.T, d *hdec.Decoder, e *Encoder, b []byte, l []api.Field) {
	t.Helper()
	got, err := d.Decode(b)
	if err != api.OK || !slices.Equal(got, l) {
		t.Fatalf("Decode(%.80x): %.80q, %v, not %.80q", b, got, err, l)
	}
	x, y := e.Table(), d.Table()
	if !slices.Equal(stand(x), stand(y)) || x.Cap() != y.Cap() || x.Size() != y.Size() || x.Count() != y.Count() {
		t.Fatalf("behind %.80x: written: %q of %d, %d ever; read: %q of %d, %d ever", b, stand(x), x.Cap(), x.Count(), stand(y), y.Cap(), y.Count())
	}
}

func TestReadBack(t *testing.T) { // P7.3
	rnd := rand.New(rand.NewSource(73))
	for range 80 {
		limit := someCapacity(rnd)
		e, d := New(limit), hdec.New(limit)
		for range 30 {
			for rnd.Intn(5) == 0 { // the peer's limit goes down or up, or the writer makes do with less
				n := someCapacity(rnd)
				if rnd.Intn(2) == 0 {
					limit = n
					d.Limit(n)
					e.Resize(n)
				}
				e.Resize(min(n, limit))
			}
			l := someFields(rnd, api.MaxFields)
			reads(t, d, e, e.Encode(l...), l)
		}
	}
}

func TestGreatOnesAreReadBack(t *testing.T) { // P7.1, P7.3
	e, d := New(api.MaxTable), hdec.New(api.MaxTable)
	for _, c := range []string{"a", "~", "\x00", "0"} {
		full := strings.Repeat(c, api.MaxStr)
		for _, l := range [][]api.Field{
			{pair(full, full), pair("n", full), pair(full, "v"), pair(":path", full), pair("cookie", full)},
			{pair(full[:1000], full[:1016]), pair(full[:1000], full[:1016]), pair(full[:1000], full[:1017])},
			slices.Repeat([]api.Field{pair("n", full[:60])}, api.MaxFields),
		} {
			reads(t, d, e, e.Encode(l...), l)
		}
	}
}

func TestStrIsReadBack(t *testing.T) { // P7.1, P7.3
	rnd := rand.New(rand.NewSource(71))
	for i := range 600 {
		b := make([]byte, rnd.Intn(400))
		rnd.Read(b)
		if i%2 == 0 { // of signs with short codes
			for j := range b {
				b[j] = "aceiost012 %~"[b[j]%13]
			}
		}
		s := string(b)
		on := Str(nil, s)
		if got, n, e := hdec.Str(append(on, "behind"...)); got != s || n != len(on) || e != api.OK {
			t.Fatalf("Str(nil, %q): %x: read as %q, %d, %v", s, on, got, n, e)
		}
		if shorter := huff.Len(s) < len(s); on[0] >= 128 != shorter || string(on) != slowText(s) {
			t.Fatalf("Str(nil, %q): %x, not %x", s, on, slowText(s))
		}
	}
}
