package window

import (
	"fmt"
	"math"
	"math/big"
	"math/rand"
	"testing"
)

const most = 2147483647 // MaxWindow, as the chapter has it

// edges: numbers about which a window's answers change, or sums wrap.
func edges() []int64 {
	var l []int64
	for _, n := range []int64{math.MinInt64, math.MinInt32, -2 * most, -most, -100, 0, 100, 65535, most, 2 * most, math.MaxUint32, math.MaxInt64} {
		for d := int64(-2); d <= 2; d++ {
			if s := n + d; (s > n) == (d > 0) && (s < n) == (d < 0) {
				l = append(l, s)
			}
		}
	}
	return l
}

// shows: w's window is want, as far as May and Shift tell it.
func shows(t *testing.T, at string, w *Out, want int64) {
	t.Helper()
	if may := w.May(); may != max(want, 0) {
		t.Errorf("%s: May: %d, not %d", at, may, max(want, 0))
	}
	up, down := most-want, -most-want
	if w.Shift(up+1) || w.Shift(down-1) {
		t.Errorf("%s: the window isn't %d", at, want)
		return
	}
	if !w.Shift(up) || w.May() != most || !w.Shift(-2*most) || w.May() != 0 || !w.Shift(-down) {
		t.Errorf("%s: the window isn't %d", at, want)
	}
}

func TestNewOut(t *testing.T) { // P14.1
	for n, want := range map[int64]int64{
		0: 0, 1: 1, -1: -1, 65535: 65535, -65535: -65535,
		most - 1: most - 1, most: most, most + 1: most, 1 << 32: most, 1<<32 + 5: most, math.MaxInt64: most,
		1 - most: 1 - most, -most: -most, -most - 1: -most, -most - 2: -most, -1 << 32: -most, 5 - 1<<32: -most, math.MinInt64: -most,
	} {
		shows(t, fmt.Sprintf("NewOut(%d)", n), NewOut(n), want)
	}
}

// away: a window behind a call, and what the call answers, as numbers that don't wrap have it.
func away(call string, window, n int64) (int64, bool) {
	sum := new(big.Int).Add(big.NewInt(window), big.NewInt(n))
	switch call {
	case "Use":
		if n < 0 || n > max(window, 0) {
			return window, false
		}
		return window - n, true
	case "Grow":
		if n < 1 || sum.Cmp(big.NewInt(most)) > 0 {
			return window, false
		}
	case "Shift":
		if sum.CmpAbs(big.NewInt(most)) > 0 {
			return window, false
		}
	}
	return sum.Int64(), true
}

func TestOut(t *testing.T) { // P14.1
	calls := map[string]func(*Out, int64) bool{"Use": (*Out).Use, "Grow": (*Out).Grow, "Shift": (*Out).Shift}
	for _, from := range edges() {
		from = min(max(from, -most), most)
		for _, n := range append(edges(), from, -from, from+1, from-1, most-from, most-from+1, -most-from, -most-from-1) {
			for name, call := range calls {
				w := NewOut(from)
				want, may := away(name, from, n)
				if ok := call(w, n); ok != may {
					t.Errorf("%s(%d) of %d: %v", name, n, from, ok)
				}
				shows(t, fmt.Sprintf("behind %s(%d) of %d", name, n, from), w, want)
			}
		}
	}
}

func TestOutBelowZero(t *testing.T) { // P14.1: a window that a setting took back
	w := NewOut(100)
	if !w.Use(80) || w.May() != 20 || !w.Shift(-90) || w.May() != 0 || !w.Use(0) || w.Use(1) || w.May() != 0 {
		t.Errorf("May: %d", w.May())
	}
	if !w.Grow(70) || w.May() != 0 || w.Use(1) {
		t.Errorf("at 0: May: %d", w.May())
	}
	if !w.Grow(1) || w.May() != 1 || w.Use(2) || !w.Use(1) || w.May() != 0 {
		t.Errorf("at 1: May: %d", w.May())
	}
}

func TestOutStepByStep(t *testing.T) { // P14.1
	r := rand.New(rand.NewSource(14))
	all := edges()
	for range 200 {
		window := min(max(all[r.Intn(len(all))], -most), most)
		w := NewOut(window)
		for range 100 {
			n := r.Int63n(2*most) - most
			if r.Intn(3) == 0 {
				n = all[r.Intn(len(all))]
			}
			var ok, may bool
			switch r.Intn(3) {
			case 0:
				window, may = away("Use", window, n)
				ok = w.Use(n)
			case 1:
				window, may = away("Grow", window, n)
				ok = w.Grow(n)
			case 2:
				window, may = away("Shift", window, n)
				ok = w.Shift(n)
			}
			if ok != may || w.May() != max(window, 0) {
				t.Fatalf("with %d: %v, May %d, not %v, %d", n, ok, w.May(), may, window)
			}
		}
		shows(t, "at last", w, window)
	}
}

func TestNewIn(t *testing.T) { // P14.2
	for size, want := range map[int64]int64{
		math.MinInt64: 1, -1 << 32: 1, -1: 1, 0: 1, 1: 1, 2: 2, 16384: 16384,
		most - 1: most - 1, most: most, most + 1: most, 1<<32 + 5: most, math.MaxInt64: most,
	} {
		w := NewIn(size)
		if w.Left() != want || w.Take(want+1) || w.Left() != want || !w.Take(want) || w.Left() != 0 {
			t.Errorf("NewIn(%d): %d, not %d", size, w.Left(), want)
		}
		if back := w.Done(math.MaxInt64); back != want || w.Left() != want {
			t.Errorf("NewIn(%d), Take, Done of all: %d, Left %d", size, back, w.Left())
		}
	}
}

func TestExample(t *testing.T) { // P14.2
	w := NewIn(4)
	if ok, back := w.Take(3), w.Done(2); !ok || back != 2 || w.Left() != 3 {
		t.Errorf("%v, %d, Left %d", ok, back, w.Left())
	}
}

func TestTake(t *testing.T) { // P14.2
	for _, n := range []int64{math.MinInt64, -1 << 32, -1, 11, 1 << 32, 1<<32 + 1, math.MaxInt64} {
		w := NewIn(10)
		if w.Take(n) || w.Left() != 10 || w.Done(10) != 0 {
			t.Errorf("Take(%d): Left %d", n, w.Left())
		}
	}
	w := NewIn(10)
	for i, x := range []struct {
		n    int64
		ok   bool
		left int64
	}{{0, true, 10}, {4, true, 6}, {7, false, 6}, {5, true, 1}, {0, true, 1}, {2, false, 1}, {1, true, 0}, {1, false, 0}, {0, true, 0}} {
		if ok := w.Take(x.n); ok != x.ok || w.Left() != x.left {
			t.Errorf("%d: Take(%d): %v, Left %d", i, x.n, ok, w.Left())
		}
	}
}

func TestHalf(t *testing.T) { // P14.2
	for size, half := range map[int64]int64{1: 1, 2: 1, 3: 1, 4: 2, 5: 2, 6: 3, 7: 3, 10: 5, 16384: 8192, 65535: 32767, most - 1: 1<<30 - 1, most: 1<<30 - 1} {
		w := NewIn(size)
		w.Take(size)
		if back := w.Done(half - 1); back != 0 || w.Left() != 0 {
			t.Errorf("%d: one below half: %d, Left %d", size, back, w.Left())
		}
		if back := w.Done(0); back != 0 || w.Left() != 0 {
			t.Errorf("%d: nothing more: %d, Left %d", size, back, w.Left())
		}
		if back := w.Done(1); back != half || w.Left() != half {
			t.Errorf("%d: half: %d, Left %d, not %d", size, back, w.Left(), half)
		}
		if back := w.Done(0); back != 0 {
			t.Errorf("%d: given back again: %d", size, back)
		}
		if back := w.Done(size); back != size-half && size > 1 || w.Left() != size {
			t.Errorf("%d: the rest: %d, Left %d", size, back, w.Left())
		}
	}
}

func TestDoneOfMore(t *testing.T) { // P14.2: at most what came, and wasn't used
	w := NewIn(100)
	w.Take(60)
	for _, n := range []int64{0, -1, math.MinInt64, -1<<32 + 60} {
		if back := w.Done(n); back != 0 || w.Left() != 40 {
			t.Errorf("Done(%d): %d, Left %d", n, back, w.Left())
		}
	}
	if back := w.Done(20); back != 0 || w.Left() != 40 {
		t.Errorf("some of it: %d, Left %d", back, w.Left())
	}
	if back := w.Done(1<<32 + 1); back != 60 || w.Left() != 100 {
		t.Errorf("more: %d, Left %d", back, w.Left())
	}
	if back := w.Done(100); back != 0 || w.Left() != 100 {
		t.Errorf("nothing came: %d, Left %d", back, w.Left())
	}
	w.Take(30)
	if back := w.Done(math.MaxInt64); back != 0 || w.Left() != 70 {
		t.Errorf("less than half: %d, Left %d", back, w.Left())
	}
	w.Take(20)
	if back := w.Done(math.MaxInt64); back != 50 || w.Left() != 100 {
		t.Errorf("half in all: %d, Left %d", back, w.Left())
	}
}

func TestInStepByStep(t *testing.T) { // P14.2, P14.3
	r := rand.New(rand.NewSource(14))
	for i := range 500 {
		size := []int64{1, 2, 3, 5, 8, 100, 16384, most}[i%8]
		w := NewIn(size)
		var taken, done, given int64 // ever
		for range 200 {
			n := r.Int63n(size + 2)
			if r.Intn(2) == 0 {
				n = r.Int63n(size/4+3) - 1
			}
			if r.Intn(2) == 0 {
				may := n >= 0 && n <= size-taken+given
				if ok := w.Take(n); ok != may {
					t.Fatalf("size %d: Take(%d): %v", size, n, ok)
				}
				if may {
					taken += n
				}
			} else {
				done += min(max(n, 0), taken-done)
				want := int64(0)
				if kept := done - given; kept >= 1 && kept >= size/2 {
					want = kept
				}
				if back := w.Done(n); back != want {
					t.Fatalf("size %d: Done(%d): %d, not %d", size, n, back, want)
				}
				given += want
			}
			if w.Left()+taken-given != size || w.Left() < 0 {
				t.Fatalf("size %d: Left %d, %d came, %d given back", size, w.Left(), taken, given)
			}
		}
	}
}

func TestApart(t *testing.T) { // DOC's rule 8
	a, b := NewOut(10), NewOut(10)
	c, d := NewIn(10), NewIn(10)
	a.Use(5)
	c.Take(5)
	if b.May() != 10 || d.Left() != 10 {
		t.Errorf("another one changed: %d, %d", b.May(), d.Left())
	}
}
