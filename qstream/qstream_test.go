package qstream

import (
	"bytes"
	"fmt"
	"math"
	"math/rand"
	"testing"
)

const top = 1<<62 - 1 // MaxVar, as the chapter has it

// of: a half that has written b, with fin or without, and may send all of it.
func of(b string, fin bool) *Send {
	s := NewSend(math.MaxUint64)
	s.Write([]byte(b), fin)
	return s
}

func writes(t *testing.T, s *Send, b string, fin, want bool) {
	t.Helper()
	if ok := s.Write([]byte(b), fin); ok != want {
		t.Errorf("Write(%q, %v): %v", b, fin, ok)
	}
}

// sends: a Next that has something.
func sends(t *testing.T, s *Send, n int, off uint64, b string, fin bool) {
	t.Helper()
	if o, c, f, ok := s.Next(n); o != off || string(c) != b || f != fin || !ok {
		t.Errorf("Next(%d): %d, %q, %v, %v, not %d, %q, %v", n, o, c, f, ok, off, b, fin)
	}
}

// silent: whatever Next is asked for, it has nothing.
func silent(t *testing.T, s *Send) {
	t.Helper()
	for _, n := range []int{math.MaxInt, 1, 0, -1, math.MinInt} {
		if o, c, f, ok := s.Next(n); o != 0 || len(c) != 0 || f || ok {
			t.Errorf("Next(%d): %d, %q, %v, %v", n, o, c, f, ok)
		}
	}
}

func state(t *testing.T, s *Send, want string) {
	t.Helper()
	if got := s.State(); got != want {
		t.Errorf("State: %q, not %q", got, want)
	}
}

func TestExample(t *testing.T) { // P25.1
	s := of("ab", true)
	sends(t, s, 9, 0, "ab", true)
	silent(t, s)
}

func TestNewSend(t *testing.T) { // P25.1
	s := NewSend(0)
	state(t, s, "ready")
	silent(t, s)
	writes(t, s, "abc", false, true)
	silent(t, s)
	s = NewSend(2)
	writes(t, s, "abc", true, true)
	sends(t, s, 9, 0, "ab", false)
	silent(t, s)
}

func TestWrite(t *testing.T) { // P25.1
	s := NewSend(100)
	writes(t, s, "ab", false, true)
	writes(t, s, "", false, true)
	writes(t, s, "cd", false, true)
	sends(t, s, 3, 0, "abc", false)
	writes(t, s, "ef", true, true)
	for _, fin := range []bool{false, true} { // behind fin
		writes(t, s, "", fin, false)
		writes(t, s, "gh", fin, false)
	}
	sends(t, s, 9, 3, "def", true)
	writes(t, s, "gh", false, false)
	s.Acked(0, 6, true)
	writes(t, s, "gh", false, false)
	silent(t, s)
	s = of("", true)
	writes(t, s, "", false, false)
	writes(t, s, "x", true, false)
	sends(t, s, 9, 0, "", true)
}

func TestNext(t *testing.T) { // P25.1: what was never sent
	s := of("abcdefgh", false)
	for _, n := range []int{0, -1, math.MinInt} {
		if o, b, fin, ok := s.Next(n); o != 0 || len(b) != 0 || fin || ok {
			t.Errorf("Next(%d): %d, %q, %v, %v", n, o, b, fin, ok)
		}
	}
	state(t, s, "ready")
	sends(t, s, 1, 0, "a", false)
	sends(t, s, 3, 1, "bcd", false)
	sends(t, s, math.MaxInt, 4, "efgh", false)
	silent(t, s)
	writes(t, s, "ij", false, true)
	sends(t, s, 2, 8, "ij", false)
	silent(t, s)
}

func TestNextOfLost(t *testing.T) { // P25.1
	s := of("abcdefgh", false)
	sends(t, s, 6, 0, "abcdef", false)
	s.Lost(4, 1, false)
	s.Lost(1, 2, false)
	sends(t, s, 9, 1, "bc", false) // the least place, and what is lost beside it
	sends(t, s, 9, 4, "e", false)
	sends(t, s, 1, 6, "g", false) // else what was never sent
	s.Lost(0, 7, false)
	sends(t, s, 2, 0, "ab", false)
	sends(t, s, 0x7fffffffffffffff, 2, "cdefg", false)
	sends(t, s, 9, 7, "h", false)
	silent(t, s)
	s.Lost(0, 2, false)
	s.Lost(2, 2, false) // neighbours are together
	s.Lost(6, 1, false)
	s.Lost(5, 1, false)
	if _, _, _, ok := s.Next(0); ok {
		t.Error("Next(0) has something")
	}
	sends(t, s, 9, 0, "abcd", false)
	s.Lost(2, 1, false) // ahead of the others again
	sends(t, s, 9, 2, "c", false)
	sends(t, s, 9, 5, "fg", false)
	silent(t, s)
}

func TestNextBelowMax(t *testing.T) { // P25.1
	s := NewSend(3)
	writes(t, s, "abcde", true, true)
	sends(t, s, 9, 0, "abc", false)
	silent(t, s) // not fin alone, either: not all ahead of it was sent
	s.Grow(2)
	s.Grow(3)
	s.Grow(0)
	silent(t, s)
	s.Lost(0, 1, false)
	sends(t, s, 9, 0, "a", false)
	s.Grow(4)
	sends(t, s, 9, 3, "d", false)
	s.Grow(math.MaxUint64)
	sends(t, s, 9, 4, "e", true)
	s = NewSend(3)
	writes(t, s, "abc", true, true)
	sends(t, s, 9, 0, "abc", true) // fin takes no room
	s = NewSend(0)
	writes(t, s, "", true, true)
	sends(t, s, 0, 0, "", true)
}

func TestFin(t *testing.T) { // P25.1
	s := of("abc", false)
	sends(t, s, 9, 0, "abc", false)
	writes(t, s, "", true, true)
	sends(t, s, 0, 3, "", true) // alone
	silent(t, s)
	s.Lost(3, 0, true)
	sends(t, s, -5, 3, "", true)
	silent(t, s)
	s.Lost(0, 3, true)
	if _, _, _, ok := s.Next(0); ok { // the lost ones come ahead of it
		t.Error("Next(0) has something")
	}
	sends(t, s, 2, 0, "ab", false)
	sends(t, s, 9, 2, "c", true)
	silent(t, s)
	s.Lost(0, 2, true)
	sends(t, s, 9, 0, "ab", false) // it doesn't end all
	sends(t, s, 9, 3, "", true)
	silent(t, s)
	s.Lost(2, 1, false)
	sends(t, s, 9, 2, "c", false) // fin isn't lost
	s.Acked(3, 0, true)
	s.Lost(0, 3, true) // fin is acknowledged
	sends(t, s, 9, 0, "abc", false)
	silent(t, s)
}

func TestFinWithWhatIsLost(t *testing.T) { // P25.1: it was never sent, and what is lost ends all
	s := of("abc", false)
	sends(t, s, 9, 0, "abc", false)
	s.Lost(1, 2, true) // fin wasn't sent: nothing
	writes(t, s, "", true, true)
	sends(t, s, 9, 1, "bc", true)
	silent(t, s)
	s = of("abc", true)
	sends(t, s, 2, 0, "ab", false)
	s.Lost(0, 2, true)
	s.Acked(0, 0, true) // likewise
	sends(t, s, 9, 0, "ab", false)
	sends(t, s, 9, 2, "c", true)
}

func TestLost(t *testing.T) { // P25.1
	for _, x := range []struct {
		off  uint64
		n    int
		want []string // of abcdef, of which b and e are acknowledged, and f was never sent
	}{
		{0, 5, []string{"a", "cd"}}, {0, 6, []string{"a", "cd"}}, {0, 100, []string{"a", "cd"}}, {0, math.MaxInt, []string{"a", "cd"}},
		{0, 1, []string{"a"}}, {0, 2, []string{"a"}}, {0, 3, []string{"a", "c"}}, {1, 1, nil}, {1, 2, []string{"c"}}, {2, 1, []string{"c"}},
		{3, 1, []string{"d"}}, {3, 9, []string{"d"}}, {2, 3, []string{"cd"}}, {4, 1, nil}, {4, 5, nil}, {5, 1, nil}, {6, 3, nil},
		{0, 0, nil}, {0, -1, nil}, {3, math.MinInt, nil}, {math.MaxUint64, 1, nil}, {math.MaxUint64, math.MaxInt, nil},
		{math.MaxUint64 - 2, 9, nil}, {1 << 63, math.MaxInt, nil}, {1, math.MaxInt, []string{"cd"}},
	} {
		s := of("abcdef", false)
		s.Next(5)
		s.Acked(1, 1, false)
		s.Acked(4, 1, false)
		for range 2 {
			s.Lost(x.off, x.n, false)
			for _, want := range x.want {
				o, b, fin, ok := s.Next(9)
				if string(b) != want || o != uint64(want[0]-'a') || fin || !ok {
					t.Errorf("%v: Next: %d, %q, %v, %v, not %q", x, o, b, fin, ok, want)
				}
			}
		}
		sends(t, s, 9, 5, "f", false)
		silent(t, s)
	}
}

func TestAcked(t *testing.T) { // P25.1, P25.3
	for _, x := range []struct {
		off  uint64
		n    int
		want []string // of abcdef, of which all but f was sent, and a, b, d are lost
	}{
		{0, 0, []string{"ab", "d"}}, {0, -1, []string{"ab", "d"}}, {1, math.MinInt, []string{"ab", "d"}}, {2, 1, []string{"ab", "d"}},
		{0, 1, []string{"b", "d"}}, {1, 1, []string{"a", "d"}}, {0, 2, []string{"d"}}, {1, 2, []string{"a", "d"}}, {1, 3, []string{"a"}}, {3, 1, []string{"ab"}},
		{0, 5, nil}, {0, 6, nil}, {0, math.MaxInt, nil}, {3, math.MaxInt, []string{"ab"}}, {4, 9, []string{"ab", "d"}}, {5, 1, []string{"ab", "d"}},
		{math.MaxUint64, 1, []string{"ab", "d"}}, {math.MaxUint64 - 1, math.MaxInt, []string{"ab", "d"}}, {1 << 63, math.MaxInt, []string{"ab", "d"}},
	} {
		s := of("abcdef", true)
		s.Next(5)
		s.Lost(0, 2, false)
		s.Lost(3, 1, false)
		s.Acked(x.off, x.n, false)
		for _, want := range x.want {
			o, b, fin, ok := s.Next(9)
			if string(b) != want || o != uint64(want[0]-'a') || fin || !ok {
				t.Errorf("%v: Next: %d, %q, %v, %v, not %q", x, o, b, fin, ok, want)
			}
		}
		sends(t, s, 9, 5, "f", true) // what was never sent says nothing
		silent(t, s)
		state(t, s, "data sent")
		s.Acked(0, 6, true)
		state(t, s, "data recvd")
	}
}

func TestState(t *testing.T) { // P25.2
	s := NewSend(10)
	state(t, s, "ready")
	writes(t, s, "abc", false, true)
	state(t, s, "ready")
	s.Acked(0, 3, true)
	s.Lost(0, 3, true)
	state(t, s, "ready")
	s.Next(0)
	state(t, s, "ready")
	s.Next(1)
	state(t, s, "send")
	s.Acked(0, 1, false)
	state(t, s, "send")
	s.Next(9)
	s.Acked(0, 3, false)
	state(t, s, "send")
	writes(t, s, "de", true, true)
	state(t, s, "send")
	s.Next(1)
	state(t, s, "send")
	s.Next(9)
	state(t, s, "data sent")
	s.Lost(3, 2, true)
	state(t, s, "data sent") // it was sent
	s.Acked(4, 1, true)
	state(t, s, "data sent")
	s.Acked(3, 1, false)
	state(t, s, "data recvd")
	s.Lost(0, 5, true)
	state(t, s, "data recvd")
	silent(t, s)
	s = of("ab", true)
	s.Next(9)
	s.Acked(0, 2, false)
	state(t, s, "data sent") // all but fin
	s.Acked(0, 0, true)
	state(t, s, "data recvd")
	s = of("", true)
	state(t, s, "ready")
	s.Next(9)
	state(t, s, "data sent") // fin is something
	s.Acked(0, 0, true)
	state(t, s, "data recvd")
}

func TestReset(t *testing.T) { // P25.2
	for _, x := range []struct {
		at   string
		do   func(*Send)
		sent uint64
	}{
		{"ready", func(s *Send) {}, 0},
		{"send", func(s *Send) { s.Next(2) }, 2},
		{"send, lost", func(s *Send) { s.Next(3); s.Lost(0, 3, false); s.Next(1) }, 3},
		{"send, acknowledged", func(s *Send) { s.Next(3); s.Acked(0, 3, false) }, 3},
		{"data sent", func(s *Send) { s.Next(9) }, 4},
		{"data sent, all but fin", func(s *Send) { s.Next(9); s.Acked(0, 4, false) }, 4},
		{"data sent, fin alone", func(s *Send) { s.Next(9); s.Acked(2, 0, true) }, 4},
	} {
		s := of("abcd", true)
		x.do(s)
		if sent, ok := s.Reset(7); sent != x.sent || !ok {
			t.Errorf("%s: Reset: %d, %v, not %d", x.at, sent, ok, x.sent)
		}
		for range 2 {
			state(t, s, "reset sent")
			silent(t, s)
			writes(t, s, "x", false, false)
			writes(t, s, "", true, false)
			if sent, ok := s.Reset(8); sent != 0 || ok {
				t.Errorf("%s: Reset again: %d, %v", x.at, sent, ok)
			}
			s.Lost(0, 4, true)
			silent(t, s)
			s.Acked(0, 4, true)
			s.Grow(math.MaxUint64)
		}
	}
	s := of("abcd", true)
	s.Next(9)
	s.Acked(0, 4, true)
	if sent, ok := s.Reset(7); sent != 0 || ok {
		t.Errorf("data recvd: %d, %v", sent, ok)
	}
	state(t, s, "data recvd")
	s = of("abcd", false)
	if sent, ok := s.Reset(math.MaxUint64); sent != 0 || !ok {
		t.Errorf("without fin: %d, %v", sent, ok)
	}
	writes(t, s, "x", false, false)
	writes(t, s, "", false, false)
	state(t, s, "reset sent")
}

func TestKind(t *testing.T) { // P25.2
	for id, want := range map[uint64][2]bool{
		0: {false, false}, 1: {true, false}, 2: {false, true}, 3: {true, true}, 4: {false, false}, 5: {true, false}, 102: {false, true},
		top: {true, true}, top - 1: {false, true}, 1 << 62: {false, false}, math.MaxUint64: {true, true}, math.MaxUint64 - 2: {true, false},
	} {
		if server, uni := Kind(id); server != want[0] || uni != want[1] {
			t.Errorf("Kind(%d): %v, %v", id, server, uni)
		}
	}
}

func TestNth(t *testing.T) { // P25.2
	for _, x := range []struct {
		n           uint64
		server, uni bool
		want        uint64
	}{
		{0, false, false, 0}, {0, true, false, 1}, {0, false, true, 2}, {0, true, true, 3}, {1, false, false, 4}, {7, true, false, 29}, {7, false, true, 30},
		{1<<60 - 1, false, false, top - 3}, {1<<60 - 1, true, true, top}, {1<<60 - 2, true, true, top - 4},
		{1 << 60, true, true, top}, {1 << 60, false, false, top - 3}, {1<<62 + 5, false, true, top - 1}, {math.MaxUint64, true, false, top - 2},
	} {
		id := Nth(x.n, x.server, x.uni)
		if id != x.want {
			t.Errorf("Nth(%d, %v, %v): %d, not %d", x.n, x.server, x.uni, id, x.want)
		}
		if server, uni := Kind(id); server != x.server || uni != x.uni {
			t.Errorf("Kind(%d): %v, %v", id, server, uni)
		}
	}
}

// place: of the plain half: what became of it.
const (
	never = iota
	flying
	gone
	there
)

// plain: a half as the chapter tells it, place by place.
type plain struct {
	most   uint64
	b      []byte
	places []int
	end    int // what became of fin
	fin    bool
	reset  bool
}

func (p *plain) write(b []byte, fin bool) bool {
	if p.fin || p.reset {
		return false
	}
	p.b = append(p.b, b...)
	p.places = append(p.places, make([]int, len(b))...)
	p.fin = fin
	return true
}

// least: the least place of that kind; where there is none, that behind all.
func (p *plain) least(kind int) int {
	for i, x := range p.places {
		if x == kind {
			return i
		}
	}
	return len(p.places)
}

func (p *plain) next(n int) (uint64, []byte, bool, bool) {
	if p.reset {
		return 0, nil, false, false
	}
	kind := gone
	if p.least(gone) == len(p.places) {
		kind = never
	}
	off := p.least(kind)
	to := off
	for to < len(p.places) && p.places[to] == kind && to-off < n && uint64(to) < p.most {
		to++
	}
	fin := to == len(p.places) && p.fin && (p.end == never || p.end == gone)
	if to == off && !fin {
		return 0, nil, false, false
	}
	for i := off; i < to; i++ {
		p.places[i] = flying
	}
	if fin {
		p.end = flying
	}
	return uint64(off), p.b[off:to], fin, true
}

func (p *plain) mark(off uint64, n int, fin bool, kind int) {
	for i := range n {
		if at := off + uint64(i); at < uint64(len(p.places)) && p.places[at] != never && p.places[at] != there {
			p.places[at] = kind
		}
	}
	if fin && p.end != never && p.end != there {
		p.end = kind
	}
}

func (p *plain) state() string {
	sent, all := p.end != never, true
	for _, x := range p.places {
		sent = sent || x != never
		all = all && x == there
	}
	switch {
	case p.reset:
		return "reset sent"
	case !sent:
		return "ready"
	case all && p.end == there:
		return "data recvd"
	case p.end != never:
		return "data sent"
	}
	return "send"
}

func (p *plain) resets() (uint64, bool) {
	if p.reset || p.state() == "data recvd" {
		return 0, false
	}
	p.reset = true
	return uint64(p.least(never)), true
}

func TestStepByStep(t *testing.T) { // P25.1, P25.2
	rnd := rand.New(rand.NewSource(25))
	states := map[string]int{}
	for i := range 2000 {
		most := uint64(rnd.Intn(60))
		s, p := NewSend(most), &plain{most: most}
		for range 150 {
			off, n, fin := uint64(rnd.Intn(80)), rnd.Intn(40)>>rnd.Intn(6), rnd.Intn(8) == 0
			switch k := rnd.Intn(100); {
			case k < 15:
				b := make([]byte, n)
				rnd.Read(b)
				if got, want := s.Write(b, fin), p.write(b, fin); got != want {
					t.Fatalf("Write: %v", got)
				}
			case k < 55:
				o, b, f, ok := s.Next(n - 1)
				wo, wb, wf, wok := p.next(n - 1)
				if o != wo || !bytes.Equal(b, wb) || f != wf || ok != wok {
					t.Fatalf("Next(%d): %d, %x, %v, %v, not %d, %x, %v, %v", n-1, o, b, f, ok, wo, wb, wf, wok)
				}
			case k < 75:
				s.Lost(off, n, fin)
				p.mark(off, n, fin, gone)
			case k < 95:
				s.Acked(off, n, fin)
				p.mark(off, n, fin, there)
			case k < 99 || i%5 > 0:
				s.Grow(off)
				p.most = max(p.most, off)
			default:
				n, ok := s.Reset(5)
				if wn, wok := p.resets(); n != wn || ok != wok {
					t.Fatalf("Reset: %d, %v, not %d, %v", n, ok, wn, wok)
				}
			}
			if got, want := s.State(), p.state(); got != want {
				t.Fatalf("State: %s, not %s", got, want)
			}
			states[s.State()]++
		}
	}
	for _, x := range []string{"ready", "send", "data sent", "data recvd", "reset sent"} {
		if states[x] < 1000 {
			t.Errorf("%s: %d times", x, states[x])
		}
	}
}

func TestTillItIsAcknowledged(t *testing.T) { // P25.3: half of what is sent is lost, in any order
	rnd := rand.New(rand.NewSource(53))
	for range 200 {
		stream := make([]byte, rnd.Intn(3000))
		rnd.Read(stream)
		s := of(string(stream), true)
		type piece struct {
			off uint64
			n   int
			fin bool
		}
		var flying []piece
		got, came, end := make([]byte, len(stream)), make([]int, len(stream)), 0
		for range 100000 {
			if s.State() == "data recvd" {
				break
			}
			if off, b, fin, ok := s.Next(1 + rnd.Intn(100)); ok {
				flying = append(flying, piece{off, len(b), fin})
				copy(got[off:], b)
				continue
			}
			if len(flying) == 0 {
				t.Fatal("nothing is under way, and not all came")
			}
			i := rnd.Intn(len(flying))
			x := flying[i]
			flying[i] = flying[len(flying)-1]
			flying = flying[:len(flying)-1]
			if rnd.Intn(2) == 0 {
				s.Lost(x.off, x.n, x.fin)
				continue
			}
			s.Acked(x.off, x.n, x.fin)
			for j := range x.n {
				came[x.off+uint64(j)]++
			}
			if x.fin {
				end++
			}
		}
		for i, n := range came {
			if n == 0 {
				t.Fatalf("the byte %d never came", i)
			}
		}
		if s.State() != "data recvd" || end == 0 || !bytes.Equal(got, stream) {
			t.Fatalf("%s", s.State())
		}
		silent(t, s)
	}
}

func TestManyPieces(t *testing.T) { // P25.3: every other one is lost, and sent again
	const many = 20000
	s := of(string(make([]byte, many)), true)
	for range many {
		s.Next(1)
	}
	for i := range uint64(many / 2) {
		s.Lost(2*i, 1, false)
	}
	for i := range uint64(many / 2) {
		sends(t, s, 9, 2*i, "\x00", false)
	}
	silent(t, s)
	for i := range uint64(many / 2) {
		s.Acked(2*i+1, 1, false)
	}
	s.Acked(0, 0, true)
	state(t, s, "data sent")
	s.Acked(0, many, false)
	state(t, s, "data recvd")
}

func TestNothingIsKept(t *testing.T) { // DOC's P40.6: of what was acknowledged nothing is held
	s := NewSend(top)
	most := 0
	for i := range uint64(2000) {
		s.Write(make([]byte, 100), false)
		if off, b, _, _ := s.Next(200); off != 100*i || len(b) != 100 {
			t.Fatalf("Next: %d, %d bytes", off, len(b))
		}
		if i%10 > 0 {
			s.Acked(100*(i-1), 100, false)
		}
		if i%10 == 9 {
			s.Acked(100*(i-9), 1000, false)
		}
		most = max(most, cap(s.b))
	}
	if most > 10000 || len(s.b) > 0 || len(s.left) > 0 {
		t.Errorf("%d bytes were kept, %d are", most, len(s.b))
	}
	s = of(string(make([]byte, 1000)), true)
	s.Next(100)
	s.Reset(1)
	if len(s.b) > 0 || len(s.left) > 0 {
		t.Errorf("%d bytes are kept behind Reset", len(s.b))
	}
}

func TestHandedIn(t *testing.T) { // DOC's rule 3
	room := []byte("abc and spare room")
	s := NewSend(100)
	s.Write(room[:3], false)
	if string(room) != "abc and spare room" {
		t.Errorf("what was handed in changed: %q", room)
	}
	clear(room)
	_, b, _, _ := s.Next(2)
	if string(b) != "ab" {
		t.Errorf("Next: %q", b)
	}
	_ = append(b, "zz"...)
	clear(b)
	s.Lost(0, 1, false)
	sends(t, s, 9, 0, "a", false)
	sends(t, s, 9, 2, "c", false)
}

func TestApart(t *testing.T) { // DOC's rule 8
	a, b := NewSend(10), NewSend(10)
	writes(t, a, "abc", true, true)
	silent(t, b)
	state(t, b, "ready")
	writes(t, b, "x", false, true)
	sends(t, b, 9, 0, "x", false)
	sends(t, a, 9, 0, "abc", true)
	if fmt.Sprint(a.State(), b.State()) != "data sentsend" {
		t.Errorf("%s, %s", a.State(), b.State())
	}
}
