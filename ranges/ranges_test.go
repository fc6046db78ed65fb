package ranges

import (
	"fmt"
	"math"
	"math/rand"
	"slices"
	"testing"

	"bifold/api"
)

const top = 1<<62 - 1 // MaxVar, as the chapter has it

func r(first, last uint64) api.Range { return api.Range{First: first, Last: last} }

// shows: s tells these ranges, from the greatest down, and what hangs on them.
func shows(t *testing.T, at string, s *Set, want ...api.Range) {
	t.Helper()
	if l := s.Ranges(math.MaxInt); !slices.Equal(l, want) {
		t.Errorf("%s: %v, not %v", at, l, want)
	}
	var count uint64
	for i, x := range want {
		count += x.Last - x.First + 1
		for _, n := range []uint64{x.First, x.First + (x.Last-x.First)/2, x.Last} {
			if !s.Has(n) {
				t.Errorf("%s: %d isn't there", at, n)
			}
		}
		if s.Has(x.Last+1) || x.First > 0 && s.Has(x.First-1) {
			t.Errorf("%s: what is beside %v is there", at, x)
		}
		if l := s.Ranges(i + 1); !slices.Equal(l, want[:i+1]) {
			t.Errorf("%s: Ranges(%d): %v", at, i+1, l)
		}
	}
	if s.Count() != count {
		t.Errorf("%s: Count: %d, not %d", at, s.Count(), count)
	}
}

func TestNew(t *testing.T) { // P21.1
	s := New()
	shows(t, "new", s)
	for _, n := range []uint64{0, 1, top, top + 1, math.MaxUint64} {
		if s.Has(n) {
			t.Errorf("%d is there", n)
		}
	}
}

func TestAdd(t *testing.T) { // P21.1
	s := New()
	for _, x := range []struct {
		n     []uint64
		fresh int
		want  []api.Range
	}{
		{nil, 0, nil},
		{[]uint64{1, 3, 2}, 3, []api.Range{r(1, 3)}}, // the chapter's
		{[]uint64{1, 2, 3}, 0, []api.Range{r(1, 3)}},
		{[]uint64{5}, 1, []api.Range{r(5, 5), r(1, 3)}},
		{[]uint64{5, 7, 7, 7}, 1, []api.Range{r(7, 7), r(5, 5), r(1, 3)}}, // one by one: the first 7 alone is new
		{[]uint64{6}, 1, []api.Range{r(5, 7), r(1, 3)}},
		{[]uint64{4, 0}, 2, []api.Range{r(0, 7)}},
		{[]uint64{top, 9, top - 1}, 3, []api.Range{r(top-1, top), r(9, 9), r(0, 7)}},
		{[]uint64{top + 1, 1 << 63, math.MaxUint64}, 0, []api.Range{r(top-1, top), r(9, 9), r(0, 7)}}, // above MaxVar
		{[]uint64{top + 1, 8, math.MaxUint64, 8}, 1, []api.Range{r(top-1, top), r(0, 9)}},
	} {
		if fresh := s.Add(x.n...); fresh != x.fresh {
			t.Errorf("Add(%d): %d, not %d", x.n, fresh, x.fresh)
		}
		shows(t, fmt.Sprint("behind ", x.n), s, x.want...)
	}
}

func TestSpan(t *testing.T) { // P21.1
	for i, x := range []struct{ spans, want []api.Range }{
		{[]api.Range{r(0, 0)}, []api.Range{r(0, 0)}},
		{[]api.Range{r(5, 9)}, []api.Range{r(5, 9)}},
		{[]api.Range{r(5, 9), r(11, 12)}, []api.Range{r(11, 12), r(5, 9)}},
		{[]api.Range{r(5, 9), r(10, 12)}, []api.Range{r(5, 12)}}, // neighbours are one
		{[]api.Range{r(5, 9), r(2, 3)}, []api.Range{r(5, 9), r(2, 3)}},
		{[]api.Range{r(5, 9), r(2, 4)}, []api.Range{r(2, 9)}},
		{[]api.Range{r(5, 9), r(0, 4)}, []api.Range{r(0, 9)}},
		{[]api.Range{r(5, 9), r(6, 8)}, []api.Range{r(5, 9)}},
		{[]api.Range{r(5, 9), r(5, 9)}, []api.Range{r(5, 9)}},
		{[]api.Range{r(5, 9), r(4, 10)}, []api.Range{r(4, 10)}},
		{[]api.Range{r(5, 9), r(7, 20)}, []api.Range{r(5, 20)}},
		{[]api.Range{r(5, 9), r(1, 7)}, []api.Range{r(1, 9)}},
		{[]api.Range{r(1, 1), r(3, 3), r(5, 5), r(7, 7), r(3, 5)}, []api.Range{r(7, 7), r(3, 5), r(1, 1)}},
		{[]api.Range{r(1, 1), r(3, 3), r(5, 5), r(7, 7), r(2, 6)}, []api.Range{r(1, 7)}},
		{[]api.Range{r(1, 1), r(3, 3), r(5, 5), r(7, 7), r(4, 4)}, []api.Range{r(7, 7), r(3, 5), r(1, 1)}},
		{[]api.Range{r(1, 1), r(3, 3), r(5, 5), r(7, 7), r(0, 100)}, []api.Range{r(0, 100)}},
		{[]api.Range{r(9, 8)}, nil}, // First above Last
		{[]api.Range{r(math.MaxUint64, 0)}, nil},
		{[]api.Range{r(5, 9), r(4, 3)}, []api.Range{r(5, 9)}},
		{[]api.Range{r(top, top)}, []api.Range{r(top, top)}},
		{[]api.Range{r(top-1, top+1)}, []api.Range{r(top-1, top)}}, // Last counts as MaxVar
		{[]api.Range{r(3, math.MaxUint64)}, []api.Range{r(3, top)}},
		{[]api.Range{r(0, math.MaxUint64)}, []api.Range{r(0, top)}},
		{[]api.Range{r(0, top-1), r(top, top)}, []api.Range{r(0, top)}},
		{[]api.Range{r(top+1, top+1)}, nil},
		{[]api.Range{r(top+1, math.MaxUint64)}, nil},
		{[]api.Range{r(math.MaxUint64, math.MaxUint64)}, nil},
		{[]api.Range{r(top+9, top+3)}, nil}, // above both
		{[]api.Range{r(top-3, top-3), r(top+1, top+5)}, []api.Range{r(top-3, top-3)}},
	} {
		s := New()
		for _, y := range x.spans {
			s.Span(y)
		}
		shows(t, fmt.Sprint(i, x.spans), s, x.want...)
	}
}

func TestRanges(t *testing.T) { // P21.1
	s := New()
	s.Add(1, 3, 5, 7, 8)
	for most, want := range map[int][]api.Range{
		math.MinInt: nil, -1: nil, 0: nil, 1: {r(7, 8)}, 2: {r(7, 8), r(5, 5)}, 3: {r(7, 8), r(5, 5), r(3, 3)},
		4: {r(7, 8), r(5, 5), r(3, 3), r(1, 1)}, 5: {r(7, 8), r(5, 5), r(3, 3), r(1, 1)}, math.MaxInt: {r(7, 8), r(5, 5), r(3, 3), r(1, 1)},
	} {
		if l := s.Ranges(most); !slices.Equal(l, want) {
			t.Errorf("Ranges(%d): %v, not %v", most, l, want)
		}
	}
	l := s.Ranges(9)
	clear(l)
	_ = append(l[:1], r(50, 60))
	shows(t, "behind what is done with an answer", s, r(7, 8), r(5, 5), r(3, 3), r(1, 1))
}

func TestForget(t *testing.T) { // P21.1
	for _, x := range []struct {
		below uint64
		want  []api.Range
	}{
		{0, []api.Range{r(20, 20), r(10, 15), r(3, 4)}},
		{1, []api.Range{r(20, 20), r(10, 15), r(3, 4)}},
		{3, []api.Range{r(20, 20), r(10, 15), r(3, 4)}},
		{4, []api.Range{r(20, 20), r(10, 15), r(4, 4)}},
		{5, []api.Range{r(20, 20), r(10, 15)}},
		{10, []api.Range{r(20, 20), r(10, 15)}},
		{12, []api.Range{r(20, 20), r(12, 15)}},
		{15, []api.Range{r(20, 20), r(15, 15)}},
		{16, []api.Range{r(20, 20)}},
		{20, []api.Range{r(20, 20)}},
		{21, nil},
		{top, nil},
		{top + 1, nil},
		{math.MaxUint64, nil},
	} {
		s := New()
		for _, y := range []api.Range{r(3, 4), r(10, 15), r(20, 20)} {
			s.Span(y)
		}
		s.Forget(x.below)
		at := fmt.Sprintf("Forget(%d)", x.below)
		shows(t, at, s, x.want...)
		s.Forget(x.below / 2) // nothing comes back
		shows(t, at+", of half", s, x.want...)
		for n := range uint64(25) {
			want := 1
			if n < x.below || s.Has(n) {
				want = 0
			}
			if fresh := s.Add(n); fresh != want || s.Has(n) != (n >= x.below) {
				t.Errorf("%s, Add(%d): %d, Has %v", at, n, fresh, s.Has(n))
			}
		}
	}
}

func TestForgottenStaysOut(t *testing.T) { // P21.1
	s := New()
	s.Forget(10) // of a set without numbers, too
	if n := s.Add(3, 9, 10, 11); n != 2 {
		t.Errorf("Add: %d", n)
	}
	shows(t, "Add", s, r(10, 11))
	s.Span(r(0, 9))
	shows(t, "a Span below", s, r(10, 11))
	s.Span(r(5, 14))
	shows(t, "a Span across", s, r(10, 14))
	s.Forget(13)
	s.Span(r(0, 20))
	shows(t, "another Forget", s, r(13, 20))
	s.Forget(4)
	s.Add(4, 5, 12)
	shows(t, "one that is less", s, r(13, 20))
	s.Forget(top)
	shows(t, "all but MaxVar", s)
	if n := s.Add(13, top-1, top); n != 1 {
		t.Errorf("Add: %d", n)
	}
	shows(t, "MaxVar", s, r(top, top))
	s.Forget(top + 1)
	s.Span(r(0, math.MaxUint64))
	if n := s.Add(top, 0); n != 0 {
		t.Errorf("Add: %d", n)
	}
	shows(t, "all", s)
}

func TestCount(t *testing.T) { // P21.1
	s := New()
	s.Span(r(0, math.MaxUint64))
	if s.Count() != 1<<62 {
		t.Errorf("of all there are: %d", s.Count())
	}
	s.Forget(1 << 61)
	if s.Count() != 1<<61 {
		t.Errorf("of half of them: %d", s.Count())
	}
}

// plain: a set as the chapter tells it, number by number, from base on.
type plain struct {
	base  uint64
	there [300]bool
	least uint64
}

func (p *plain) add(n uint64) int {
	if n > top || n < p.least || p.there[n-p.base] {
		return 0
	}
	p.there[n-p.base] = true
	return 1
}

func (p *plain) span(x api.Range) {
	for n := x.First; n >= p.base && n <= min(x.Last, top); n++ {
		p.add(n)
	}
}

func (p *plain) forget(below uint64) {
	p.least = max(p.least, below)
	for i := range p.there {
		p.there[i] = p.there[i] && p.base+uint64(i) >= below
	}
}

func (p *plain) ranges() []api.Range {
	var l []api.Range
	for i := len(p.there) - 1; i >= 0; i-- {
		n := p.base + uint64(i)
		switch {
		case !p.there[i]:
		case len(l) > 0 && l[len(l)-1].First == n+1:
			l[len(l)-1].First = n
		default:
			l = append(l, r(n, n))
		}
	}
	return l
}

func TestStepByStep(t *testing.T) { // P21.1
	rnd := rand.New(rand.NewSource(21))
	for i := range 500 {
		base := []uint64{0, 1000, 1<<32 - 150, top - 299, top - 200}[i%5]
		s, p := New(), plain{base: base}
		for range 60 {
			n, m := base+uint64(rnd.Intn(300)), base+uint64(rnd.Intn(300))
			switch k := rnd.Intn(20); {
			case k < 12:
				if got, want := s.Add(n, m, n), p.add(n)+p.add(m); got != want {
					t.Fatalf("Add(%d, %d, %d): %d, not %d", n, m, n, got, want)
				}
			case k < 19:
				x := r(n, m)
				if k < 17 {
					x = r(n, n+uint64(rnd.Intn(20)))
				}
				if x.Last-base < 300 || x.First > x.Last {
					s.Span(x)
					p.span(x)
				}
			default:
				below := base + uint64(rnd.Intn(30))
				s.Forget(below)
				p.forget(below)
			}
			for j, there := range p.there {
				if s.Has(base+uint64(j)) != there {
					t.Fatalf("Has(%d): %v", base+uint64(j), !there)
				}
			}
			shows(t, "step by step", s, p.ranges()...)
			if t.Failed() {
				return
			}
		}
	}
}

// A set and a map are told the same, so many ranges that they don't stand in one chunk.
func TestMany(t *testing.T) { // P21.1
	rnd := rand.New(rand.NewSource(5))
	const wide = 6000
	for _, way := range []string{"up", "down", "mixed"} {
		s, there := New(), map[uint64]bool{}
		order := rnd.Perm(wide)
		if way != "mixed" {
			slices.Sort(order)
		}
		if way == "down" {
			slices.Reverse(order)
		}
		for _, i := range order {
			if n := s.Add(uint64(2*i), uint64(2*i)); n != 1 {
				t.Fatalf("%s: Add(%d): %d", way, 2*i, n)
			}
			there[uint64(2*i)] = true
		}
		for range 30 {
			first := uint64(rnd.Intn(2 * wide))
			x := r(first, first+uint64(rnd.Intn(1200)>>rnd.Intn(11)))
			s.Span(x)
			for n := x.First; n <= x.Last; n++ {
				there[n] = true
			}
			held(t, way, s, there)
		}
		for _, below := range []uint64{1, 2, 127, 1000, 5555, 9000, 2*wide - 1, 3 * wide} {
			s.Forget(below)
			for n := range there {
				if n < below {
					delete(there, n)
				}
			}
			held(t, way, s, there)
		}
	}
}

// held: s tells what is there.
func held(t *testing.T, at string, s *Set, there map[uint64]bool) {
	t.Helper()
	if s.Count() != uint64(len(there)) {
		t.Fatalf("%s: Count: %d, not %d", at, s.Count(), len(there))
	}
	told, above := uint64(0), uint64(math.MaxUint64)
	for _, x := range s.Ranges(math.MaxInt) {
		if x.First > x.Last || x.Last >= above-1 {
			t.Fatalf("%s: %v below %d", at, x, above)
		}
		for n := x.First; n <= x.Last; n++ {
			if !there[n] {
				t.Fatalf("%s: %d is told", at, n)
			}
		}
		told += x.Last - x.First + 1
		above = x.First
	}
	if told != uint64(len(there)) {
		t.Fatalf("%s: %d are told, not %d", at, told, len(there))
	}
	for n := range uint64(20000) {
		if s.Has(n) != there[n] {
			t.Fatalf("%s: Has(%d): %v", at, n, s.Has(n))
		}
	}
}

// turns: all orders of l.
func turns(l []api.Range) [][]api.Range {
	if len(l) == 0 {
		return [][]api.Range{nil}
	}
	var all [][]api.Range
	for i, x := range l {
		for _, rest := range turns(slices.Delete(slices.Clone(l), i, i+1)) {
			all = append(all, append([]api.Range{x}, rest...))
		}
	}
	return all
}

func TestHoweverTheyCome(t *testing.T) { // P21.2
	for _, l := range turns([]api.Range{r(0, 0), r(1, 1), r(3, 6), r(5, 9), r(11, 12), r(13, 13), r(15, 15)}) {
		s := New()
		for _, x := range l {
			if x.First == x.Last {
				s.Add(x.First)
			} else {
				s.Span(x)
			}
		}
		shows(t, fmt.Sprint(l), s, r(15, 15), r(11, 13), r(3, 9), r(0, 1))
	}
}

func TestShuffled(t *testing.T) { // P21.2
	rnd := rand.New(rand.NewSource(9))
	var n []uint64
	for i := range uint64(5000) {
		if rnd.Intn(4) > 0 {
			n = append(n, i)
		}
	}
	once := New()
	once.Add(n...)
	want := once.Ranges(math.MaxInt)
	for range 5 {
		rnd.Shuffle(len(n), func(i, j int) { n[i], n[j] = n[j], n[i] })
		s := New()
		if fresh := s.Add(append(n, n...)...); fresh != len(n) {
			t.Errorf("Add: %d, not %d", fresh, len(n))
		}
		if !slices.Equal(s.Ranges(math.MaxInt), want) {
			t.Error("other ranges")
		}
	}
}

func TestHandedIn(t *testing.T) { // DOC's rule 3
	n := []uint64{3, 1, 2, 77}
	s := New()
	s.Add(n[:3]...)
	if !slices.Equal(n, []uint64{3, 1, 2, 77}) {
		t.Errorf("what was handed in changed: %d", n)
	}
	clear(n)
	shows(t, "behind clear", s, r(1, 3))
}

func TestApart(t *testing.T) { // DOC's rule 8
	a, b := New(), New()
	a.Add(1, 5, 9)
	a.Forget(4)
	shows(t, "another one", b)
	b.Add(1)
	shows(t, "another one", b, r(1, 1))
	shows(t, "this one", a, r(9, 9), r(5, 5))
}
