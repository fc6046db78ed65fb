package reasm

import (
	"bytes"
	"fmt"
	"math"
	"math/rand"
	"testing"

	"bifold/api"
)

const top = 1<<62 - 1 // MaxVar, as the chapter has it

// adds: an Add, and what it answers.
func adds(t *testing.T, r *Buffer, off uint64, b string, fin bool, want api.Errno) {
	t.Helper()
	if e := r.Add(off, []byte(b), fin); e != want {
		t.Errorf("Add(%d, %q, %v): %v, not %v", off, b, fin, e, want)
	}
}

func reads(t *testing.T, r *Buffer, n int, want string) {
	t.Helper()
	if b := r.Read(n); string(b) != want {
		t.Errorf("Read(%d): %q, not %q", n, b, want)
	}
}

func resets(t *testing.T, r *Buffer, final uint64, want api.Errno) {
	t.Helper()
	if e := r.Reset(final); e != want {
		t.Errorf("Reset(%d): %v, not %v", final, e, want)
	}
}

func shows(t *testing.T, at string, r *Buffer, held int, end uint64, done bool) {
	t.Helper()
	if r.Held() != held || r.Top() != end || r.Done() != done {
		t.Errorf("%s: Held %d, Top %d, Done %v, not %d, %d, %v", at, r.Held(), r.Top(), r.Done(), held, end, done)
	}
}

func TestNew(t *testing.T) { // P24.1, P24.2
	r := New(10)
	shows(t, "new", r, 0, 0, false)
	reads(t, r, 5, "")
}

func TestExample(t *testing.T) { // P24.1
	r := New(10)
	adds(t, r, 2, "c", false, api.OK)
	reads(t, r, 9, "")
	shows(t, "a piece ahead of its time", r, 1, 3, false)
	adds(t, r, 0, "ab", false, api.OK)
	shows(t, "both", r, 3, 3, false)
	reads(t, r, 9, "abc")
	shows(t, "both were read", r, 0, 3, false)
}

func TestWindow(t *testing.T) { // P24.1
	for _, x := range []struct {
		window, off uint64
		n           int
		e           api.Errno
	}{
		{0, 0, 0, api.OK}, {0, 0, 1, api.ErrFlow}, {0, 1, 0, api.ErrFlow},
		{10, 0, 10, api.OK}, {10, 0, 11, api.ErrFlow}, {10, 9, 1, api.OK}, {10, 9, 2, api.ErrFlow},
		{10, 10, 0, api.OK}, {10, 10, 1, api.ErrFlow}, {10, 11, 0, api.ErrFlow}, {10, math.MaxUint64, 0, api.ErrFlow},
		{10, math.MaxUint64, 1, api.ErrFlow}, {10, math.MaxUint64 - 4, 8, api.ErrFlow}, // together they would wrap
		{top, top, 0, api.OK}, {top, top - 1, 1, api.OK}, {top, top, 1, api.ErrFlow}, {top, top - 5, 6, api.ErrFlow},
		{top + 1, top, 1, api.ErrFlow}, {top + 1, top + 1, 0, api.ErrFlow}, {top + 1, top, 0, api.OK}, // at most MaxVar
		{math.MaxUint64, top, 1, api.ErrFlow}, {math.MaxUint64, math.MaxUint64, 0, api.ErrFlow}, {math.MaxUint64, top - 1, 1, api.OK},
	} {
		for _, fin := range []bool{false, true} {
			r := New(x.window)
			adds(t, r, x.off, string(make([]byte, x.n)), fin, x.e)
			held, end := 0, uint64(0)
			if x.e == api.OK {
				held = x.n
			}
			if x.e == api.OK && (fin || x.n > 0) {
				end = x.off + uint64(x.n)
			}
			shows(t, fmt.Sprint(x, fin), r, held, end, fin && x.e == api.OK && end == 0)
		}
	}
}

func TestGrow(t *testing.T) { // P24.1
	r := New(3)
	adds(t, r, 0, "abcd", false, api.ErrFlow)
	shows(t, "nothing came", r, 0, 0, false)
	r.Grow(2) // less than it is
	r.Grow(0)
	r.Grow(3)
	adds(t, r, 0, "abc", false, api.OK)
	adds(t, r, 3, "d", false, api.ErrFlow)
	r.Grow(4)
	adds(t, r, 3, "de", false, api.ErrFlow)
	adds(t, r, 3, "d", false, api.OK)
	reads(t, r, 4, "abcd")
	adds(t, r, 4, "e", false, api.ErrFlow) // what was read makes no room
	resets(t, r, 5, api.ErrFlow)
	r.Grow(math.MaxUint64)
	adds(t, r, top, "x", false, api.ErrFlow) // at most MaxVar
	adds(t, r, top+1, "", true, api.ErrFlow)
	adds(t, r, top-1, "x", true, api.OK)
	shows(t, "the greatest place", r, 1, top, false)
}

func TestFinal(t *testing.T) { // P24.1
	for _, x := range []struct {
		off uint64
		b   string
		fin bool
		e   api.Errno
	}{
		{0, "", false, api.OK}, {0, "abcde", false, api.OK}, {4, "e", false, api.OK}, {5, "", false, api.OK}, // up to it
		{5, "f", false, api.ErrFinal}, {0, "abcdef", false, api.ErrFinal}, {6, "", false, api.ErrFinal}, {6, "g", false, api.ErrFinal}, // above it
		{5, "", true, api.OK}, {4, "e", true, api.OK}, {0, "abcde", true, api.OK}, // the same one
		{4, "", true, api.ErrFinal}, {0, "abcd", true, api.ErrFinal}, {0, "", true, api.ErrFinal}, // a lesser one
		{6, "", true, api.ErrFinal}, {5, "f", true, api.ErrFinal}, {10, "", true, api.ErrFinal}, // a greater one
		{10, "x", true, api.ErrFlow}, {11, "", false, api.ErrFlow}, // the window is asked ahead of it
	} {
		r := New(10)
		adds(t, r, 3, "de", true, api.OK)
		shows(t, "the final size is known", r, 2, 5, false)
		adds(t, r, x.off, x.b, x.fin, x.e)
		adds(t, r, 0, "abc", false, api.OK)
		shows(t, fmt.Sprint(x), r, 5, 5, false)
		reads(t, r, 9, "abcde")
		shows(t, fmt.Sprint(x), r, 0, 5, true)
	}
}

func TestFinalBelowWhatCame(t *testing.T) { // P24.1
	r := New(10)
	adds(t, r, 4, "ef", false, api.OK)
	adds(t, r, 0, "abcde", true, api.ErrFinal)
	adds(t, r, 0, "", true, api.ErrFinal)
	adds(t, r, 5, "", true, api.ErrFinal)
	shows(t, "nothing of it came", r, 2, 6, false)
	adds(t, r, 7, "", false, api.OK) // no bytes say nothing: the stream may end ahead of them
	shows(t, "no bytes", r, 2, 6, false)
	adds(t, r, 6, "", true, api.OK)
	shows(t, "the end", r, 2, 6, false)
	adds(t, r, 6, "g", false, api.ErrFinal)
	r = New(10)
	adds(t, r, 0, "abc", false, api.OK)
	reads(t, r, 3, "abc")
	adds(t, r, 0, "ab", true, api.ErrFinal) // what was read came, too
	adds(t, r, 2, "c", true, api.OK)
	shows(t, "all was read", r, 0, 3, true)
}

func TestEmptyStream(t *testing.T) { // P24.1, P24.2
	r := New(0)
	adds(t, r, 0, "", true, api.OK)
	shows(t, "an end alone", r, 0, 0, true)
	reads(t, r, 5, "")
	adds(t, r, 0, "", true, api.OK)
	r = New(5)
	adds(t, r, 0, "", true, api.OK)
	adds(t, r, 0, "a", false, api.ErrFinal)
	adds(t, r, 1, "", true, api.ErrFinal)
	shows(t, "an end alone", r, 0, 0, true)
}

func TestWhatIsThereStays(t *testing.T) { // P24.1
	for _, x := range []struct {
		off  uint64
		b    string
		want string
		held int
	}{
		{0, "ABCDEFGHIJ", "ABcdEFghIJ", 10}, {2, "CD", "", 4}, {1, "BC", "", 5}, {0, "ABC", "ABcd", 6}, {3, "DE", "", 5}, {3, "DEFG", "", 6},
		{4, "EF", "", 6}, {0, "AB", "ABcd", 6}, {0, "ABCDEF", "ABcdEFgh", 8}, {0, "ABCDEFG", "ABcdEFgh", 8}, {7, "HIJ", "", 6}, {6, "G", "", 4},
	} {
		r := New(10)
		adds(t, r, 2, "cd", false, api.OK)
		adds(t, r, 6, "gh", false, api.OK)
		adds(t, r, x.off, x.b, false, api.OK)
		shows(t, fmt.Sprint(x), r, x.held, max(8, x.off+uint64(len(x.b))), false)
		reads(t, r, 99, x.want)
		shows(t, fmt.Sprint(x), r, x.held-len(x.want), max(8, x.off+uint64(len(x.b))), false)
	}
}

func TestWhatWasRead(t *testing.T) { // P24.1: it doesn't come again
	r := New(200)
	adds(t, r, 0, "abcdef", false, api.OK)
	reads(t, r, 4, "abcd")
	adds(t, r, 0, "ABCD", false, api.OK)
	adds(t, r, 1, "BC", false, api.OK)
	shows(t, "what was read", r, 2, 6, false)
	adds(t, r, 0, "ABCDEFG", false, api.OK)
	shows(t, "one more", r, 3, 7, false)
	reads(t, r, 9, "efG")
	adds(t, r, 0, "ABCDEFG", false, api.OK) // where nothing is held
	shows(t, "nothing is held", r, 0, 7, false)
	adds(t, r, 5, "FGH", false, api.OK)
	reads(t, r, 9, "H")
	adds(t, r, 8, string(make([]byte, 150)), false, api.OK)
	r.Read(150)
	adds(t, r, 0, string(make([]byte, 158))+"x", false, api.OK)
	shows(t, "far behind", r, 1, 159, false)
	reads(t, r, 9, "x")
}

func TestRead(t *testing.T) { // P24.1
	r := New(10)
	adds(t, r, 0, "abcde", false, api.OK)
	adds(t, r, 6, "gh", true, api.OK)
	for _, x := range []struct {
		n    int
		want string
	}{{0, ""}, {-1, ""}, {math.MinInt, ""}, {1, "a"}, {2, "bc"}, {0, ""}, {9, "de"}, {9, ""}, {math.MaxInt, ""}} {
		reads(t, r, x.n, x.want)
	}
	shows(t, "a gap", r, 2, 8, false)
	adds(t, r, 5, "f", false, api.OK)
	reads(t, r, 2, "fg")
	shows(t, "one is left", r, 1, 8, false)
	reads(t, r, math.MaxInt, "h")
	shows(t, "the end", r, 0, 8, true)
	reads(t, r, 1, "")
}

func TestBehindDone(t *testing.T) { // P24.1: the same errors, nothing else
	r := New(10)
	adds(t, r, 0, "abc", true, api.OK)
	reads(t, r, 3, "abc")
	for range 2 {
		adds(t, r, 0, "abc", true, api.OK)
		adds(t, r, 1, "BC", false, api.OK)
		adds(t, r, 3, "", false, api.OK)
		adds(t, r, 3, "d", false, api.ErrFinal)
		adds(t, r, 4, "", false, api.ErrFinal)
		adds(t, r, 2, "", true, api.ErrFinal)
		adds(t, r, 9, "xy", true, api.ErrFlow)
		shows(t, "behind Done", r, 0, 3, true)
		reads(t, r, 9, "")
		resets(t, r, 4, api.ErrFinal)
		resets(t, r, 2, api.ErrFinal)
		resets(t, r, 11, api.ErrFlow)
		resets(t, r, 3, api.OK)
		shows(t, "Reset behind Done", r, 0, 3, true)
	}
}

func TestReset(t *testing.T) { // P24.2
	for _, x := range []struct {
		final uint64
		known bool
		e     api.Errno
	}{
		{0, false, api.ErrFinal}, {7, false, api.ErrFinal}, {8, false, api.OK}, {9, false, api.OK}, {10, false, api.OK}, {11, false, api.ErrFlow},
		{math.MaxUint64, false, api.ErrFlow}, {0, true, api.ErrFinal}, {7, true, api.ErrFinal}, {8, true, api.OK}, {9, true, api.ErrFinal},
		{10, true, api.ErrFinal}, {11, true, api.ErrFlow},
	} {
		r := New(10)
		adds(t, r, 0, "abc", false, api.OK)
		adds(t, r, 6, "gh", x.known, api.OK)
		reads(t, r, 1, "a")
		resets(t, r, x.final, x.e)
		if x.e != api.OK {
			shows(t, fmt.Sprint(x), r, 4, 8, false)
			reads(t, r, 9, "bc")
			continue
		}
		for range 2 {
			shows(t, fmt.Sprint(x), r, 0, x.final, true)
			reads(t, r, 9, "")
			adds(t, r, 1, "bcdefg", false, api.OK)
			adds(t, r, x.final, "", true, api.OK)
			adds(t, r, x.final-1, "z", true, api.OK)
			adds(t, r, x.final, "", false, api.OK)
			adds(t, r, x.final-1, "", true, api.ErrFinal)
			if x.final < 10 {
				adds(t, r, x.final, "z", false, api.ErrFinal)
				resets(t, r, x.final+1, api.ErrFinal)
			}
			adds(t, r, 9, "zz", false, api.ErrFlow)
			resets(t, r, x.final-1, api.ErrFinal)
			resets(t, r, 11, api.ErrFlow)
			resets(t, r, x.final, api.OK)
		}
	}
	r := New(0)
	resets(t, r, 0, api.OK)
	shows(t, "of nothing", r, 0, 0, true)
	r = New(math.MaxUint64)
	resets(t, r, top+1, api.ErrFlow)
	resets(t, r, top, api.OK)
	shows(t, "of the most", r, 0, top, true)
	r.Grow(math.MaxUint64)
	adds(t, r, top, "a", false, api.ErrFlow)
}

func TestHighPlaces(t *testing.T) { // P24.1
	r := New(top)
	adds(t, r, top-70, string(make([]byte, 70)), true, api.OK)
	adds(t, r, top-200, string(make([]byte, 190)), false, api.OK)
	shows(t, "high up", r, 200, top, false)
	reads(t, r, 9, "")
	adds(t, r, 1<<32, "x", false, api.OK)
	adds(t, r, 0, "a", false, api.OK)
	shows(t, "high up", r, 202, top, false)
	reads(t, r, 9, "a")
}

// plain: a buffer as the chapter tells it, byte by byte.
type plain struct {
	window, read, top, final uint64
	there                    map[uint64]byte // of all that came, read or not
	known, reset             bool
}

func (p *plain) add(off uint64, b []byte, fin bool) api.Errno {
	end := off + uint64(len(b))
	if end > p.window {
		return api.ErrFlow
	}
	if p.known && (end > p.final || fin && end != p.final) || fin && end < p.top {
		return api.ErrFinal
	}
	for i, c := range b {
		at := off + uint64(i)
		if _, ok := p.there[at]; !ok {
			p.there[at] = c
		}
		p.top = max(p.top, at+1)
	}
	if fin {
		p.known, p.final = true, end
	}
	return api.OK
}

func (p *plain) resets(final uint64) api.Errno {
	e := p.add(final, nil, true)
	p.reset = p.reset || e == api.OK
	return e
}

func (p *plain) reads(n int) []byte {
	var out []byte
	for !p.reset && len(out) < n {
		c, ok := p.there[p.read]
		if !ok {
			break
		}
		out = append(out, c)
		p.read++
	}
	return out
}

func (p *plain) held() int {
	if p.reset {
		return 0
	}
	return len(p.there) - int(p.read)
}

func (p *plain) end() uint64 {
	if p.known {
		return p.final
	}
	return p.top
}

func TestStepByStep(t *testing.T) { // P24.1, P24.2
	rnd := rand.New(rand.NewSource(24))
	done, reset, wrong := 0, 0, 0
	for i := range 1500 {
		long := []int{20, 100, 400}[i%3]
		r, p := New(uint64(long/2)), &plain{window: uint64(long / 2), there: map[uint64]byte{}}
		for range 120 {
			var e, want api.Errno
			switch k := rnd.Intn(100); {
			case k < 60:
				off := uint64(rnd.Intn(long))
				b := make([]byte, rnd.Intn(long)>>rnd.Intn(5))
				rnd.Read(b) // pieces don't agree
				fin := rnd.Intn(40) == 0
				if p.known && rnd.Intn(4) > 0 {
					off = min(off, p.final)
					b = b[:min(uint64(len(b)), p.final-off)]
				}
				e, want = r.Add(off, b, fin), p.add(off, b, fin)
			case k < 90:
				n := rnd.Intn(long) >> rnd.Intn(6)
				if got, want := r.Read(n), p.reads(n); !bytes.Equal(got, want) {
					t.Fatalf("Read(%d): %x, not %x", n, got, want)
				}
			case k < 99:
				n := uint64(rnd.Intn(2 * long))
				r.Grow(n)
				p.window = max(p.window, n)
			case rnd.Intn(2) == 0:
				n := uint64(rnd.Intn(long))
				e, want = r.Reset(n), p.resets(n)
			}
			if e != want {
				t.Fatalf("%v, not %v", e, want)
			}
			if e != api.OK {
				wrong++
			}
			shows(t, "step by step", r, p.held(), p.end(), p.reset || p.known && p.read == p.final)
			if t.Failed() {
				return
			}
		}
		if p.reset {
			reset++
		} else if r.Done() {
			done++
		}
	}
	if done < 50 || reset < 50 || wrong < 1000 {
		t.Errorf("%d done, %d reset, %d wrong", done, reset, wrong)
	}
}

func TestAnyOrder(t *testing.T) { // P24.3
	rnd := rand.New(rand.NewSource(3))
	for range 300 {
		stream := make([]byte, rnd.Intn(3000))
		rnd.Read(stream)
		type piece struct{ from, to int }
		var l []piece
		for at := 0; at < len(stream); {
			to := min(at+1+rnd.Intn(200), len(stream))
			l = append(l, piece{max(at-rnd.Intn(50), 0), to})
			if rnd.Intn(3) == 0 { // twice
				l = append(l, piece{at, to})
			}
			at = to
		}
		l = append(l, piece{len(stream), len(stream)})
		rnd.Shuffle(len(l), func(i, j int) { l[i], l[j] = l[j], l[i] })
		r := New(uint64(len(stream)))
		var got []byte
		for _, x := range l {
			if e := r.Add(uint64(x.from), stream[x.from:x.to], x.to == len(stream)); e != api.OK {
				t.Fatalf("Add: %v", e)
			}
			if r.Done() {
				t.Fatal("Done ahead of its time")
			}
			got = append(got, r.Read(rnd.Intn(400))...)
			if !bytes.HasPrefix(stream, got) {
				t.Fatal("what was read isn't the stream")
			}
			if len(got) == len(stream) {
				break
			}
		}
		got = append(got, r.Read(len(stream))...)
		if !bytes.Equal(got, stream) || r.Held() != 0 || r.Top() != uint64(len(stream)) {
			t.Fatalf("%d bytes of %d, %d held", len(got), len(stream), r.Held())
		}
	}
}

func TestSmallPieces(t *testing.T) { // P24.3: byte by byte, from the end on, every other one first
	const long = 300000
	r := New(long)
	for i := long - 1; i >= 0; i -= 2 {
		r.Add(uint64(i), []byte{byte(i)}, false)
	}
	shows(t, "every other one", r, long/2, long, false)
	if b := r.Read(long); len(b) != 0 {
		t.Errorf("%d bytes", len(b))
	}
	for i := long - 2; i >= 0; i -= 2 {
		r.Add(uint64(i), []byte{byte(i)}, false)
	}
	b := r.Read(math.MaxInt)
	if len(b) != long {
		t.Fatalf("%d bytes", len(b))
	}
	for i, c := range b {
		if c != byte(i) {
			t.Fatalf("%d: %d", i, c)
		}
	}
	shows(t, "all", r, 0, long, false)
}

func TestNothingIsKept(t *testing.T) { // DOC's P40.6: of what was read nothing is held
	r := New(top)
	for i := range 1000 {
		adds(t, r, uint64(33*i), string(make([]byte, 33)), false, api.OK)
		r.Read(33)
		if len(r.blocks) != 0 {
			t.Fatalf("%d blocks", len(r.blocks))
		}
	}
	adds(t, r, 50000, "far", false, api.OK)
	for i := range 100 {
		adds(t, r, uint64(33000+100*i), string(make([]byte, 100)), false, api.OK)
		r.Read(99)
		r.Read(1)
		if len(r.blocks) > 2 {
			t.Fatalf("%d blocks", len(r.blocks))
		}
	}
	resets(t, r, 60000, api.OK)
	if len(r.blocks) != 0 {
		t.Fatalf("%d blocks behind Reset", len(r.blocks))
	}
}

func TestHandedIn(t *testing.T) { // DOC's rule 3
	room := []byte("abc and spare room")
	r := New(100)
	r.Add(0, room[:3], false)
	if string(room) != "abc and spare room" {
		t.Errorf("what was handed in changed: %q", room)
	}
	clear(room)
	b := r.Read(2)
	_ = append(b, "zz"...)
	clear(b)
	reads(t, r, 9, "c")
}

func TestApart(t *testing.T) { // DOC's rule 8
	a, b := New(10), New(10)
	adds(t, a, 0, "abc", true, api.OK)
	shows(t, "another one", b, 0, 0, false)
	adds(t, b, 0, "x", false, api.OK)
	reads(t, b, 9, "x")
	reads(t, a, 9, "abc")
}
