package qenc

import (
	"math/rand"
	"slices"
	"strings"
	"testing"

	"bifold/api"
	"bifold/huff"
	"bifold/num"
	"bifold/static"
)

// slow: writes sections as the document tells it, going through lists.
type slow struct {
	static   []api.Field
	inserted []api.Field // all that ever were
	gone     int         // of these, from the first on
	capacity int
	blocked  int
	begun    bool
	known    int
	open     []slowSection // that are neither acknowledged nor forgotten, in order
	rest     []byte
	wrong    api.Errno
}

type slowSection struct {
	stream uint64
	places []int
	count  int
}

func newSlow(capacity, blocked int) *slow {
	s := &slow{capacity: capacity, blocked: blocked}
	for i := uint64(0); i <= 98; i++ {
		f, _ := static.H3(i)
		s.static = append(s.static, f)
	}
	return s
}

func slowSize(l ...api.Field) int {
	n := 0
	for _, f := range l {
		n += len(f.Name) + len(f.Value) + 32
	}
	return n
}

// slowNumber: n behind the bits of first, in what they leave of a byte and, if it must be, more bytes.
func slowNumber(first string, n int) string {
	bits, b := 8-len(first), 0
	for _, c := range first {
		b = b*2 + int(c-'0')
	}
	full := 1
	for range bits {
		b, full = b*2, full*2
	}
	if n < full-1 {
		return string([]byte{byte(b + n)})
	}
	out := []byte{byte(b + full - 1)}
	for n -= full - 1; n >= 128; n /= 128 {
		out = append(out, byte(n%128+128))
	}
	return string(append(out, byte(n)))
}

// slowText: s behind the bits of first.
func slowText(first, s string) string {
	if coded := huff.Encode(nil, s); len(coded) < len(s) {
		return slowNumber(first+"1", len(coded)) + string(coded)
	}
	return slowNumber(first+"0", len(s)) + s
}

// streamsBlocked: the streams with a section in l that uses a place the peer isn't known to have.
func (s *slow) streamsBlocked(l []slowSection) []uint64 {
	var out []uint64
	for _, x := range l {
		for _, place := range x.places {
			if place >= s.known && !slices.Contains(out, x.stream) {
				out = append(out, x.stream)
			}
		}
	}
	return out
}

// mayGo: whether the entries may that must go to make room for f.
func (s *slow) mayGo(f api.Field, this []int) bool {
	for i := s.gone; i < len(s.inserted); i++ {
		if slowSize(s.inserted[i:]...)+slowSize(f) <= s.capacity {
			return true
		}
		used := i >= s.known || slices.Contains(this, i)
		for _, x := range s.open {
			used = used || slices.Contains(x.places, i)
		}
		if used {
			return false
		}
	}
	return true
}

func (s *slow) mayUse(stream uint64, place int) bool {
	blocked := s.streamsBlocked(s.open)
	return place < s.known || slices.Contains(blocked, stream) || len(blocked) < s.blocked
}

func (s *slow) find(f api.Field) int {
	for i := len(s.inserted) - 1; i >= s.gone; i-- {
		if s.inserted[i] == f {
			return i
		}
	}
	return -1
}

func slowSecret(name string) bool {
	return slices.Contains([]string{"authorization", "cookie", "set-cookie"}, name)
}

func (s *slow) insert(f api.Field, named int) string {
	for slowSize(s.inserted[s.gone:]...)+slowSize(f) > s.capacity {
		s.gone++
	}
	s.inserted = append(s.inserted, f)
	if named >= 0 {
		return slowNumber("11", named) + slowText("", f.Value)
	}
	return slowText("01", f.Name) + slowText("", f.Value)
}

func slowLiteral(f api.Field, named int) string {
	never := "0"
	if slowSecret(f.Name) {
		never = "1"
	}
	if named >= 0 {
		return slowNumber("01"+never+"1", named) + slowText("", f.Value)
	}
	return slowText("001"+never, f.Name) + slowText("", f.Value)
}

// encode: the instructions, and the section, whose dynamic places are put in at the end.
func (s *slow) encode(stream uint64, l []api.Field) (string, string) {
	orders := ""
	if !s.begun && s.capacity > 0 {
		orders = slowNumber("001", s.capacity)
	}
	s.begun = true
	var lines []any // texts and places
	this := slowSection{stream: stream}
	for _, f := range l {
		if i := slices.Index(s.static, f); i >= 0 {
			lines = append(lines, slowNumber("11", i))
			continue
		}
		named := slices.IndexFunc(s.static, func(g api.Field) bool { return g.Name == f.Name })
		place := s.find(f)
		if place < 0 && !slowSecret(f.Name) && 4*slowSize(f) <= s.capacity && s.mayGo(f, this.places) {
			orders += s.insert(f, named)
			place = len(s.inserted) - 1
		}
		if place >= 0 && s.mayUse(stream, place) {
			lines = append(lines, place)
			this.places = append(this.places, place)
			this.count = max(this.count, place+1)
			continue
		}
		lines = append(lines, slowLiteral(f, named))
	}
	enc := 0
	if this.count > 0 {
		enc = this.count%(2*(s.capacity/32)) + 1
		s.open = append(s.open, this)
	}
	section := slowNumber("", enc) + "\x00"
	for _, x := range lines {
		if place, ok := x.(int); ok {
			x = slowNumber("10", this.count-place-1)
		}
		section += x.(string)
	}
	return orders, section
}

func (s *slow) feed(b []byte) api.Errno {
	for _, c := range b {
		if s.wrong != api.OK {
			break
		}
		s.rest = append(s.rest, c)
		bits := 6
		if s.rest[0] >= 128 {
			bits = 7
		}
		v, _, e := num.ReadPrefix(s.rest, bits)
		if e == api.ErrMore {
			continue
		}
		if s.wrong = e; e == api.OK {
			s.wrong = s.instruction(s.rest[0], v)
		}
		s.rest = nil
	}
	return s.wrong
}

func (s *slow) instruction(first byte, v uint64) api.Errno {
	ofStream := func(x slowSection) bool { return x.stream == v }
	switch {
	case first >= 128:
		i := slices.IndexFunc(s.open, ofStream)
		if i < 0 {
			return api.ErrBlock
		}
		s.known = max(s.known, s.open[i].count)
		s.open = slices.Delete(s.open, i, i+1)
	case first >= 64:
		s.open = slices.DeleteFunc(s.open, ofStream)
	case v == 0 || v > uint64(len(s.inserted)-s.known):
		return api.ErrBlock
	default:
		s.known += int(v)
	}
	return api.OK
}

// someFields: names and values of which some are in the static table, some come again and again.
func someFields(rnd *rand.Rand) []api.Field {
	names := []string{":method", ":path", ":status", "cookie", "set-cookie", "authorization", "age", "x-frame-options", "a", "b", "custom-key", "", "\x00\xff"}
	values := []string{"GET", "/", "200", "", "0", "1", "2", "3", "custom-value", "\r\n\x80", strings.Repeat("v", 30), strings.Repeat("~", 60), strings.Repeat("~", 300)}
	var l []api.Field
	for range rnd.Intn(6) {
		l = append(l, pair(names[rnd.Intn(len(names))], values[rnd.Intn(len(values))]))
	}
	return l
}

// someInstruction: most often of what there is to tell.
func (s *slow) someInstruction(rnd *rand.Rand) []byte {
	stream := uint64(rnd.Intn(6) * 100)
	if len(s.open) > 0 && rnd.Intn(80) > 0 {
		stream = s.open[rnd.Intn(len(s.open))].stream
	}
	switch more := len(s.inserted) - s.known; {
	case rnd.Intn(2) == 0 && len(s.open) > 0:
		return num.Prefix(nil, 0x80, 7, stream)
	case rnd.Intn(3) == 0:
		return num.Prefix(nil, 0x40, 6, stream)
	case more > 0:
		return num.Prefix(nil, 0, 6, uint64(rnd.Intn(more)+1))
	case rnd.Intn(30) == 0:
		b := make([]byte, rnd.Intn(12))
		rnd.Read(b)
		return b
	case rnd.Intn(30) == 0: // a number that is too great
		return slices.Concat([]byte{byte(rnd.Intn(4))<<6 | 63, 255}, slices.Repeat([]byte{255}, 9))
	}
	return nil
}

// hold: e tells what s does.
func (s *slow) hold(t *testing.T, at string, e *Encoder) {
	t.Helper()
	want := slices.Clone(s.inserted[s.gone:])
	slices.Reverse(want)
	if got := stand(e.Table()); !slices.Equal(got, want) || e.Table().Count() != uint64(len(s.inserted)) || e.Known() != uint64(s.known) {
		t.Fatalf("%s: %q of %d, %d known; not %q of %d, %d known", at, got, e.Table().Count(), e.Known(), want, len(s.inserted), s.known)
	}
}

func TestOfAny(t *testing.T) { // P9.1, P9.2, P9.3
	rnd := rand.New(rand.NewSource(92))
	seen := map[api.Errno]int{}
	went, blocks, waits := 0, 0, 0
	for range 600 {
		capacity, blocked := []int{0, 100, 128, 136, 160, 200, 300, 400, 1300, 4096}[rnd.Intn(10)], rnd.Intn(4)
		e, s := New(capacity, blocked), newSlow(capacity, blocked)
		talks := rnd.Intn(3) // how readily the peer answers
		for range 60 {
			l, stream := someFields(rnd), uint64(rnd.Intn(6)*100)
			wantOrders, wantSection := s.encode(stream, l)
			orders, section := e.Encode(stream, l...)
			if string(orders) != wantOrders || string(section) != wantSection {
				t.Fatalf("Encode(%d, %q): %x and %x, not %x and %x", stream, l, orders, section, wantOrders, wantSection)
			}
			s.hold(t, "Encode", e)
			for range rnd.Intn(talks*2 + 1) {
				b := s.someInstruction(rnd)
				from := rnd.Intn(len(b) + 1)
				for _, piece := range [][]byte{b[:from], b[from:]} {
					if got, want := e.Feed(piece), s.feed(piece); got != want {
						t.Fatalf("Feed(%x) of %x: %v, not %v", piece, b, got, want)
					}
					s.hold(t, "Feed", e)
				}
			}
			blocks += len(s.streamsBlocked(s.open))
		}
		seen[s.wrong]++
		went += s.gone
		waits += len(s.open)
	}
	if seen[api.OK] < 250 || seen[api.ErrBlock] < 50 || seen[api.ErrNum] < 20 || went < 2000 || blocks < 2000 || waits < 1000 {
		t.Errorf("seen: %v, %d went, %d blocked, %d unacknowledged", seen, went, blocks, waits)
	}
}
