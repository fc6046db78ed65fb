package block

import (
	"bytes"
	"math"
	"math/rand"
	"slices"
	"strings"
	"testing"

	"bifold/api"
)

const (
	end, last, padFlag, priority = api.FlagEnd, api.FlagEndHeaders, api.FlagPadded, api.FlagPriority
)

func frame(kind, flags uint8, stream uint32, b string) api.Frame {
	return api.Frame{Type: kind, Flags: flags, Stream: stream, B: []byte(b)}
}

func headers(flags uint8, stream uint32, b string) api.Frame {
	return frame(api.F2Headers, flags, stream, b)
}

func goesOn(flags uint8, stream uint32, b string) api.Frame {
	return frame(api.F2Continuation, flags, stream, b)
}

// adds: Add of f answers that, and then a block is open, or not.
func adds(t *testing.T, a *Block, f api.Frame, whole bool, rule int, open bool) {
	t.Helper()
	if w, r := a.Add(f); w != whole || r != rule || a.Open() != open {
		t.Errorf("Add(%.60v): %v, rule %d, open %v, not %v, %d, %v", f, w, r, a.Open(), whole, rule, open)
	}
}

func takes(t *testing.T, a *Block, stream uint32, b string, ends bool) {
	t.Helper()
	if s, got, e := a.Take(); s != stream || string(got) != b || e != ends {
		t.Errorf("Take: %d, %.60q, %v, not %d, %.60q, %v", s, got, e, stream, b, ends)
	}
}

// hasNone: nothing is to be taken.
func hasNone(t *testing.T, a *Block) {
	t.Helper()
	takes(t, a, 0, "", false)
}

func TestWhole(t *testing.T) { // P16.1
	for _, x := range []struct {
		f    api.Frame
		b    string
		ends bool
	}{
		{headers(last, 1, "abc"), "abc", false},
		{headers(last|end, 3, "abc"), "abc", true},
		{headers(0xff&^(padFlag|priority), 5, ""), "", true},
		{headers(last|padFlag, 7, "\x02abc\x00\x00"), "abc", false},
		{headers(last|priority, 9, "\x80\x00\x00\x01\x10abc"), "abc", false},
		{headers(0xff, 1<<31-1, "\x03\x00\x00\x00\x01\x10abc\xff\xff\xff"), "abc", true},
	} {
		a := New(api.MaxBlock)
		hasNone(t, a)
		adds(t, a, x.f, true, api.RuleNone, false)
		takes(t, a, x.f.Stream, x.b, x.ends)
		hasNone(t, a)
	}
}

func TestInPieces(t *testing.T) { // P16.1
	for _, flags := range []uint8{0, end} {
		a := New(api.MaxBlock)
		adds(t, a, headers(flags|padFlag, 5, "\x01abc\x00"), false, api.RuleNone, true)
		hasNone(t, a)
		adds(t, a, goesOn(0, 5, "de"), false, api.RuleNone, true)
		adds(t, a, goesOn(0xff&^last, 5, "\x01fg"), false, api.RuleNone, true) // CONTINUATION has no other flag
		adds(t, a, goesOn(0, 5, ""), false, api.RuleNone, true)
		hasNone(t, a)
		adds(t, a, goesOn(last|end&^flags, 5, "h"), true, api.RuleNone, false) // nor does it end a stream
		takes(t, a, 5, "abcde\x01fgh", flags == end)
		hasNone(t, a)
	}
	a := New(api.MaxBlock)
	adds(t, a, headers(0, 1, ""), false, api.RuleNone, true)
	adds(t, a, goesOn(last, 1, ""), true, api.RuleNone, false)
	takes(t, a, 1, "", false)
}

// allTypes: of frames, those that RFC 9113 knows and others.
func allTypes() []uint8 {
	return []uint8{0, 1, 2, 3, 4, 5, 6, 7, 8, 9, 10, 11, 100, 255}
}

func TestWhileOpen(t *testing.T) { // P16.1
	for _, kind := range allTypes() {
		for _, stream := range []uint32{0, 1, 3, 5, 7, 1<<31 - 1} {
			if kind == api.F2Continuation && stream == 5 {
				continue
			}
			for _, b := range []string{"", "abc", "\x00\x00\x00\x00", strings.Repeat("a", 101)} { // whatever else is wrong with it
				for _, flags := range []uint8{0, last | end, padFlag, 0xff} {
					a := New(100)
					a.Add(headers(0, 5, "ab"))
					adds(t, a, frame(kind, flags, stream, b), false, api.RuleOrder, true)
					hasNone(t, a)
					adds(t, a, goesOn(last, 5, "cd"), true, api.RuleNone, false)
					takes(t, a, 5, "abcd", false)
				}
			}
		}
	}
}

func TestWhileNoneIsOpen(t *testing.T) { // P16.1
	begins := map[string]func() *Block{
		"nothing came": func() *Block { return New(100) },
		"one is whole": func() *Block {
			a := New(100)
			a.Add(headers(end, 5, "ab"))
			a.Add(goesOn(last, 5, "cd"))
			return a
		},
		"one was taken": func() *Block {
			a := New(100)
			a.Add(headers(last, 5, "ab"))
			a.Take()
			return a
		},
	}
	for at, begin := range begins {
		for _, kind := range allTypes() {
			if kind == api.F2Headers {
				continue
			}
			for _, stream := range []uint32{0, 1, 5} {
				for _, b := range []string{"", "abc", "\x00\x00\x00\x00", strings.Repeat("a", 101)} {
					a, rule := begin(), api.RuleNone
					if kind == api.F2Continuation {
						rule = api.RuleOrder
					}
					adds(t, a, frame(kind, 0xff, stream, b), false, rule, false)
					if at == "one is whole" {
						takes(t, a, 5, "abcd", true)
					}
					hasNone(t, a)
				}
			}
		}
	}
}

func TestRulesOfPayloads(t *testing.T) { // P16.1
	for _, x := range []struct {
		f    api.Frame
		rule int
	}{
		{headers(last, 0, "abc"), api.RuleStreamZero},
		{headers(last|padFlag, 0, ""), api.RuleStreamZero},
		{headers(last|padFlag, 5, ""), api.RuleFrameSize},
		{headers(last|priority, 5, "1234"), api.RuleFrameSize},
		{headers(last|priority|padFlag, 5, "\x0012345"[:5]), api.RuleFrameSize},
		{headers(last|padFlag, 5, "\x04abc"), api.RuleOrder},
		{headers(last|padFlag, 5, "\xff"+strings.Repeat("a", 254)), api.RuleOrder}, // ahead of RuleFlow
		{headers(last, 5, strings.Repeat("a", 101)), api.RuleFlow},
		{headers(0, 5, strings.Repeat("a", 101)), api.RuleFlow},
	} {
		a := New(100)
		adds(t, a, x.f, false, x.rule, false)
		hasNone(t, a)
		adds(t, a, goesOn(last, x.f.Stream, ""), false, api.RuleOrder, false)

		a.Add(headers(last|end, 3, "whole")) // beside a rule nothing changes
		adds(t, a, x.f, false, x.rule, false)
		takes(t, a, 3, "whole", true)
		hasNone(t, a)
	}
}

func TestMost(t *testing.T) { // P16.1
	for most, bytes := range map[int]int{math.MinInt: 0, -1: 0, 0: 0, 1: 1, 5: 5, 100: 100, api.MaxBlock: api.MaxBlock, 40000: 40000} {
		full := strings.Repeat("a", bytes)
		a := New(most)
		adds(t, a, headers(last, 1, full), true, api.RuleNone, false)
		takes(t, a, 1, full, false)
		adds(t, a, headers(last, 1, full+"b"), false, api.RuleFlow, false)
		hasNone(t, a)

		if bytes > 0 { // one below it, and more
			adds(t, a, headers(0, 1, full[1:]), false, api.RuleNone, true)
			adds(t, a, goesOn(last, 1, "bc"), false, api.RuleFlow, true)
			adds(t, a, goesOn(0, 1, "b"), false, api.RuleNone, true)
			adds(t, a, goesOn(0, 1, "c"), false, api.RuleFlow, true)
			adds(t, a, goesOn(last, 1, ""), true, api.RuleNone, false)
			takes(t, a, 1, full[1:]+"b", false)
		}
		adds(t, a, headers(0, 1, ""), false, api.RuleNone, true)
		adds(t, a, goesOn(0, 1, full+"b"), false, api.RuleFlow, true)
		adds(t, a, goesOn(last, 1, full), true, api.RuleNone, false) // all of the room again
		takes(t, a, 1, full, false)
	}
	a := New(math.MaxInt)
	adds(t, a, headers(0, 1, "ab"), false, api.RuleNone, true)
	adds(t, a, goesOn(last, 1, "c"), true, api.RuleNone, false)
	takes(t, a, 1, "abc", false)
}

func TestMostIsOfData(t *testing.T) { // P16.1: neither padding nor a priority counts
	a := New(3)
	adds(t, a, headers(padFlag|priority, 1, "\x0512345ab\x00\x00\x00\x00\x00"), false, api.RuleNone, true)
	adds(t, a, goesOn(last, 1, "c"), true, api.RuleNone, false)
	takes(t, a, 1, "abc", false)
}

func TestNotTaken(t *testing.T) { // P16.1
	a := New(5)
	a.Add(headers(last|end, 1, "first"))
	adds(t, a, headers(last, 3, "again"), true, api.RuleNone, false)
	takes(t, a, 3, "again", false)
	hasNone(t, a)

	a.Add(headers(last|end, 1, "first"))
	adds(t, a, headers(0, 5, "ab"), false, api.RuleNone, true) // nothing is left of the first one
	hasNone(t, a)
	adds(t, a, goesOn(last, 5, "cde"), true, api.RuleNone, false)
	takes(t, a, 5, "abcde", false)
	hasNone(t, a)
}

func TestTakeWhileOpen(t *testing.T) { // P16.1
	a := New(10)
	a.Add(headers(end, 1, "ab"))
	for range 3 {
		hasNone(t, a)
		adds(t, a, goesOn(0, 1, "c"), false, api.RuleNone, true)
	}
	adds(t, a, goesOn(last, 1, ""), true, api.RuleNone, false)
	takes(t, a, 1, "abccc", true)
}

// sameFrames: these, in order.
func sameFrames(a, b []api.Frame) bool {
	return slices.EqualFunc(a, b, func(x, y api.Frame) bool {
		return x.Type == y.Type && x.Flags == y.Flags && x.Stream == y.Stream && bytes.Equal(x.B, y.B)
	})
}

func TestSplit(t *testing.T) { // P16.2
	for _, x := range []struct {
		b     string
		piece int
		want  []api.Frame // of stream 7, which doesn't end
	}{
		{"", 1, []api.Frame{headers(last, 7, "")}},
		{"", 0, []api.Frame{headers(last, 7, "")}},
		{"a", 1, []api.Frame{headers(last, 7, "a")}},
		{"abc", 2, []api.Frame{headers(0, 7, "ab"), goesOn(last, 7, "c")}},
		{"abc", 3, []api.Frame{headers(last, 7, "abc")}},
		{"abc", 4, []api.Frame{headers(last, 7, "abc")}},
		{"abcd", 2, []api.Frame{headers(0, 7, "ab"), goesOn(last, 7, "cd")}},
		{"abc", 1, []api.Frame{headers(0, 7, "a"), goesOn(0, 7, "b"), goesOn(last, 7, "c")}},
		{"abcde", 2, []api.Frame{headers(0, 7, "ab"), goesOn(0, 7, "cd"), goesOn(last, 7, "e")}},
	} {
		if l := Split(7, false, []byte(x.b), x.piece); !sameFrames(l, x.want) {
			t.Errorf("Split(7, false, %q, %d): %v, not %v", x.b, x.piece, l, x.want)
		}
		x.want[0].Flags |= end
		if l := Split(7, true, []byte(x.b), x.piece); !sameFrames(l, x.want) {
			t.Errorf("Split(7, true, %q, %d): %v, not %v", x.b, x.piece, l, x.want)
		}
	}
	for _, s := range []uint32{1, 2, 1<<31 - 1} {
		if l := Split(s, false, []byte("ab"), 1); !sameFrames(l, []api.Frame{headers(0, s, "a"), goesOn(last, s, "b")}) {
			t.Errorf("Split(%d): %v", s, l)
		}
	}
}

func TestSplitNearest(t *testing.T) { // P16.2
	b := strings.Repeat("0123456789", 4000)
	for piece, want := range map[int]int{
		math.MinInt: 16384, -1: 16384, 0: 16384, 16383: 16383, 16384: 16384, 16385: 16384, 40000: 16384, math.MaxInt: 16384,
	} {
		l := Split(1, true, []byte(b), piece)
		if !sameFrames(l, []api.Frame{headers(end, 1, b[:want]), goesOn(0, 1, b[want:2*want]), goesOn(last, 1, b[2*want:])}) {
			t.Errorf("by %d: %d frames, the first of %d bytes, not %d", piece, len(l), len(l[0].B), want)
		}
		if l := Split(1, true, []byte(b[:want]), piece); !sameFrames(l, []api.Frame{headers(last|end, 1, b[:want])}) {
			t.Errorf("%d by %d: %d frames", want, piece, len(l))
		}
	}
}

func TestMadeAgain(t *testing.T) { // P16.3
	r := rand.New(rand.NewSource(16))
	a := New(api.MaxBlock)
	for i := range 2000 {
		b := make([]byte, r.Intn(60))
		if i%100 == 0 {
			b = make([]byte, api.MaxBlock-r.Intn(2))
		}
		r.Read(b)
		stream, ends, piece := r.Uint32()>>1|1, r.Intn(2) == 0, r.Intn(70)-2
		if piece > 0 && len(b) > 100 {
			piece *= 100
		}
		l := Split(stream, ends, b, piece)
		for k, f := range l {
			adds(t, a, f, k == len(l)-1, api.RuleNone, k < len(l)-1)
		}
		if r.Intn(4) > 0 { // or it isn't taken
			takes(t, a, stream, string(b), ends)
			hasNone(t, a)
		}
	}
}

func TestHandedIn(t *testing.T) { // DOC's rule 3
	a := New(100)
	first, second := []byte("abc, and spare room"), []byte("def, and spare room")
	a.Add(api.Frame{Type: api.F2Headers, Stream: 1, B: first[:3]})
	a.Add(api.Frame{Type: api.F2Continuation, Flags: last, Stream: 1, B: second[:3]})
	if string(first) != "abc, and spare room" || string(second) != "def, and spare room" {
		t.Errorf("Add changed what was handed in: %q, %q", first, second)
	}
	clear(first)
	clear(second)
	_, b, _ := a.Take()
	if string(b) != "abcdef" {
		t.Errorf("what was put together changed with what was handed in: %q", b)
	}
	a.Add(headers(last, 3, "xyz"))
	a.Add(headers(0, 5, "12345678"))
	if string(b) != "abcdef" {
		t.Errorf("what was taken changed: %q", b)
	}
	clear(b)
	a.Add(goesOn(last, 5, ""))
	takes(t, a, 5, "12345678", false)

	room := []byte("abcdef, and spare room")
	l := Split(1, true, room[:6], 2)
	for _, f := range l {
		_ = append(f.B, "over"...)
	}
	if string(room) != "abcdef, and spare room" {
		t.Errorf("Split's answer shares with what was handed in: %q", room)
	}
	clear(room)
	if !sameFrames(l, []api.Frame{headers(end, 1, "ab"), goesOn(0, 1, "cd"), goesOn(last, 1, "ef")}) {
		t.Errorf("Split's answer changed with what was handed in: %v", l)
	}
}

func TestApart(t *testing.T) { // DOC's rule 8
	a, b := New(10), New(10)
	a.Add(headers(last, 1, "abc"))
	b.Add(headers(0, 3, "x"))
	hasNone(t, b)
	takes(t, a, 1, "abc", false)
	b.Add(goesOn(last, 3, "y"))
	takes(t, b, 3, "xy", false)
}
