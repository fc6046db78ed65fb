package cong

import (
	"math"
	"math/big"
	"math/rand"
	"testing"
)

const most = 1073741824 // 2^30: of the window, as the chapter has it

func shows(t *testing.T, at string, c *Cong, want int) {
	t.Helper()
	if w := c.Window(); w != want {
		t.Errorf("%s: %d, not %d", at, w, want)
	}
}

func TestNew(t *testing.T) { // P23.1
	for size, want := range map[int]int{
		1200: 12000, // the chapter's
		1:    10, 2: 20, 600: 6000, 1199: 11990,
		0: 12000, -1: 12000, 1201: 12000, 1<<32 + 5: 12000, math.MinInt: 12000, math.MaxInt: 12000,
	} {
		c := New(size)
		shows(t, "New", c, want)
		c.Collapse()
		shows(t, "two packets", c, want/5)
	}
}

func TestGrowsFast(t *testing.T) { // P23.1: below the threshold
	c := New(100)
	for _, x := range []struct {
		bytes int
		want  int
	}{
		{0, 1000}, {-1, 1000}, {math.MinInt, 1000}, {1, 1001}, {99, 1100}, {5000, 6100}, {1<<20 - 6100, 1 << 20},
		{most - 1<<20 - 1, most - 1}, // still below it
		{1, most}, {1, most}, {most, most}, {math.MaxInt, most},
	} {
		c.Acked(x.bytes, 0)
		shows(t, "Acked", c, x.want)
	}
	for _, bytes := range []int{most, most + 1, 1<<32 + 1, 1 << 40, math.MaxInt} { // above 2^30 counts as it
		c := New(100)
		c.Acked(bytes, 0)
		shows(t, "Acked at once", c, most)
	}
}

// slow: a window of 1000, and the threshold there, of packets of that size.
func slow(size int) *Cong {
	c := New(size)
	c.Acked(2000-10*size, 0)
	c.Lost(5, 9)
	return c
}

func TestGrowsSlowly(t *testing.T) { // P23.1: from the threshold on
	c := slow(100)
	shows(t, "at first", c, 1000)
	for i, x := range []struct{ bytes, want int }{
		{999, 1000}, {0, 1000}, {-7, 1000},
		{1, 1100},    // a whole window: 0 is left
		{1099, 1100}, // 1099
		{101, 1200},  // 100
		{1099, 1200}, // 1199
		{1, 1300},    // 0
		{1300 + 1400 + 1500, 1600},
		{1600 + 1699, 1700}, // 1699
		{2, 1800},           // 1
		{1798, 1800},        // 1799
		{1, 1900},
	} {
		c.Acked(x.bytes, 10)
		if c.Window() != x.want {
			t.Errorf("%d: Acked(%d): %d, not %d", i, x.bytes, c.Window(), x.want)
		}
	}
}

func TestCrossesTheThreshold(t *testing.T) { // P23.1: it is asked ahead of growing, not behind
	c := slow(100) // the threshold is 1000
	c.Collapse()
	c.Acked(799, 1)
	shows(t, "just below", c, 999)
	c.Acked(5000, 1)
	shows(t, "across", c, 5999)
	c.Acked(5998, 1)
	shows(t, "gathered", c, 5999)
	c.Acked(1, 1)
	shows(t, "a whole window", c, 6099)
	c = slow(100)
	c.Collapse()
	c.Acked(800, 1)
	shows(t, "just there", c, 1000)
	c.Acked(999, 1)
	shows(t, "gathered", c, 1000)
}

func TestLost(t *testing.T) { // P23.1
	c := New(100)
	c.Acked(9001, 3) // 10001
	c.Lost(3, 20)
	shows(t, "half, downwards", c, 5000)
	for _, at := range []uint64{0, 3, 19, 20} { // at or ahead of 20: recovery
		c.Lost(at, 50)
		shows(t, "lost again", c, 5000)
		c.Acked(100000, at)
		shows(t, "acknowledged", c, 5000)
	}
	c.Acked(4999, 21)
	shows(t, "behind recovery", c, 5000) // gathered: the threshold is 5000
	c.Lost(20, 60)
	c.Acked(1, 21) // what a Lost that says nothing doesn't forget, nor does recovery begin again by it
	shows(t, "behind recovery", c, 5100)
	c.Acked(5099, 1<<63)
	c.Lost(21, 21)
	shows(t, "lost behind recovery", c, 2550)
	c.Acked(2549, 22) // what was gathered is 0
	shows(t, "gathered", c, 2550)
	c.Acked(1, 22)
	shows(t, "a whole window", c, 2650)
}

func TestLostAtAnyTime(t *testing.T) { // P23.1
	c := New(100)
	c.Lost(0, 0) // time 0 is a time
	shows(t, "at 0", c, 500)
	c.Lost(0, 9)
	c.Acked(1000, 0)
	shows(t, "at 0 again", c, 500)
	c.Lost(1, 0) // now is ahead of at: recovery begins there all the same
	shows(t, "at 1", c, 250)
	c.Acked(250, 0)
	shows(t, "at 0", c, 250)
	c.Acked(250, 1)
	shows(t, "at 1", c, 350)
	c.Lost(1, math.MaxUint64)
	shows(t, "at the end", c, 200)
	c.Acked(1<<20, math.MaxUint64)
	c.Lost(math.MaxUint64, math.MaxUint64)
	shows(t, "at the end", c, 200)
}

func TestLeast(t *testing.T) { // P23.1, P23.3
	for _, size := range []int{1, 100, 1200} {
		c := New(size)
		for i, want := range []int{5 * size, 5 * size / 2, 2 * size, 2 * size, 2 * size} {
			c.Lost(uint64(i+1), uint64(i+1))
			shows(t, "Lost", c, want)
		}
		// The threshold is two packets, too: the window grows slowly from there.
		c.Acked(2*size-1, 9)
		shows(t, "gathered", c, 2*size)
		c.Acked(1, 9)
		shows(t, "a whole window", c, 3*size)
	}
}

func TestCollapse(t *testing.T) { // P23.1
	c := slow(100) // 1000; the threshold, too; recovery since 9
	c.Acked(500, 9)
	shows(t, "recovery", c, 1000)
	c.Collapse()
	shows(t, "two packets", c, 200)
	c.Acked(300, 0) // recovery is over
	shows(t, "below the threshold", c, 500)
	c.Lost(0, 3) // as if there had been no Lost
	shows(t, "Lost", c, 250)
	c.Acked(250, 3)
	shows(t, "recovery", c, 250)
	c = New(100)
	c.Collapse()
	c.Acked(5000, 0) // the threshold is as it was
	shows(t, "below the first threshold", c, 5200)
	c.Lost(7, 7)
	c.Acked(2599, 8)
	c.Collapse()
	c.Acked(2400, 1)
	c.Acked(1, 1) // what was gathered is as it was
	shows(t, "gathered ahead of it", c, 2700)
}

func TestMostWindow(t *testing.T) { // P23.1
	c := New(1200)
	c.Acked(most, 0)
	c.Acked(most, 0) // the window isn't below the threshold any more: a whole window, but it grows no more
	shows(t, "the most", c, most)
	c.Lost(1, 1)
	shows(t, "half of the most", c, most/2)
	c.Acked(most, 2) // two windows, less a packet: one
	shows(t, "slowly", c, most/2+1200)
	c.Acked(2400, 2)
	shows(t, "slowly", c, most/2+2400)
}

func TestMay(t *testing.T) { // P23.1
	c := New(100)
	for _, x := range []struct {
		flight, n int
		may       bool
	}{
		{0, 0, true}, {0, 1000, true}, {0, 1001, true}, {0, math.MaxInt, true}, // flight is 0
		{-1, 1001, true}, {math.MinInt, math.MaxInt, true}, // below 0 counts as 0
		{1, 999, true}, {1, 1000, false}, {500, 500, true}, {500, 501, false}, {999, 1, true}, {999, 2, false},
		{1000, 0, true}, {1000, 1, false}, {1001, 0, false}, {1001, -1, false}, {1001, -500, false}, // n below 0 counts as 0
		{1000, -1, true}, {1000, math.MinInt, true}, {1001, math.MinInt, false}, {1, -1, true},
		{1, math.MaxInt, false}, {math.MaxInt, 1, false}, {math.MaxInt, math.MaxInt, false}, {math.MaxInt, math.MinInt, false},
	} {
		if may := c.May(x.flight, x.n); may != x.may {
			t.Errorf("May(%d, %d): %v", x.flight, x.n, may)
		}
	}
	c.Acked(1, 0)
	if !c.May(1, 1000) || c.May(1, 1001) {
		t.Error("of another window")
	}
}

func TestPto(t *testing.T) { // P23.2
	for _, x := range []struct {
		smoothed, varied uint64
		tries            int
		want             uint64
	}{
		{10, 5, 0, 55}, {10, 5, 1, 110}, {10, 5, 2, 220}, {10, 5, 3, 440}, {10, 5, 4, 880}, {10, 5, 5, 1760}, {10, 5, 6, 3520},
		{10, 5, 7, 3520}, {10, 5, 64, 3520}, {10, 5, math.MaxInt, 3520}, {10, 5, -1, 55}, {10, 5, math.MinInt, 55}, // the nearest
		{0, 0, 0, 26}, {0, 1, 0, 29}, {0, 2, 0, 33}, {7, 0, 0, 33}, {7, 0, 6, 33 * 64},
		{1<<40 - 26, 0, 0, 1 << 40}, {1<<40 - 27, 0, 0, 1<<40 - 1}, {1<<40 - 25, 0, 0, 1 << 40},
		{1<<34 - 26, 0, 6, 1 << 40}, {1<<34 - 27, 0, 6, 1<<40 - 64}, {1<<34 - 25, 0, 6, 1 << 40},
		{1, 1<<38 - 7, 0, 1<<40 - 2}, {2, 1<<38 - 7, 0, 1<<40 - 1}, {3, 1<<38 - 7, 0, 1 << 40}, {4, 1<<38 - 7, 0, 1 << 40},
		{1 << 40, 0, 0, 1 << 40}, {0, 1 << 40, 0, 1 << 40}, {0, 1 << 62, 0, 1 << 40}, {0, 1 << 63, 3, 1 << 40},
		{math.MaxUint64, 0, 0, 1 << 40}, {math.MaxUint64 - 25, 0, 0, 1 << 40}, {math.MaxUint64, math.MaxUint64, 6, 1 << 40}, {0, math.MaxUint64, -5, 1 << 40},
	} {
		if got := Pto(x.smoothed, x.varied, x.tries); got != x.want {
			t.Errorf("Pto(%d, %d, %d): %d, not %d", x.smoothed, x.varied, x.tries, got, x.want)
		}
	}
}

func TestPtoOfAny(t *testing.T) { // P23.2, in numbers that have no end
	rnd := rand.New(rand.NewSource(23))
	for range 50000 {
		smoothed, varied, tries := rnd.Uint64()>>rnd.Intn(64), rnd.Uint64()>>rnd.Intn(64), rnd.Intn(10)-1
		four := new(big.Int).Mul(new(big.Int).SetUint64(varied), big.NewInt(4))
		if four.Sign() == 0 {
			four.SetInt64(1)
		}
		want := new(big.Int).SetUint64(smoothed)
		want.Add(want, four).Add(want, big.NewInt(25))
		for range min(max(tries, 0), 6) {
			want.Add(want, want)
		}
		if want.Cmp(big.NewInt(1<<40)) > 0 {
			want.SetInt64(1 << 40)
		}
		if got := Pto(smoothed, varied, tries); got != want.Uint64() {
			t.Fatalf("Pto(%d, %d, %d): %d, not %d", smoothed, varied, tries, got, want)
		}
	}
}

// plain: a window as the chapter tells it, line by line.
type plain struct {
	size, window, threshold, gathered int64
	lost                              *uint64 // the last Lost's now
}

func (p *plain) acked(bytes int64, at uint64) {
	if bytes > most {
		bytes = most
	}
	if bytes < 1 || p.lost != nil && at <= *p.lost {
		return
	}
	if p.window < p.threshold {
		p.window += bytes
	} else {
		for p.gathered += bytes; p.gathered >= p.window; {
			p.gathered -= p.window
			p.window = min(p.window+p.size, most)
		}
	}
	p.window = min(p.window, most)
}

func (p *plain) loses(at, now uint64) {
	if p.lost != nil && at <= *p.lost {
		return
	}
	half := p.window / 2
	if half < 2*p.size {
		half = 2 * p.size
	}
	p.lost, p.threshold, p.window, p.gathered = &now, half, half, 0
}

func TestStepByStep(t *testing.T) { // P23.1, P23.3
	rnd := rand.New(rand.NewSource(32))
	for range 2000 {
		size := 1 + rnd.Intn(1200)
		c, p := New(size), &plain{size: int64(size), window: int64(size) * 10, threshold: most}
		now := uint64(0)
		for range 200 {
			now += uint64(rnd.Intn(5))
			at := now - uint64(rnd.Intn(20))
			if at > now {
				at = 0
			}
			switch k := rnd.Intn(40); {
			case k < 34:
				bytes := rnd.Intn(2 * size)
				if k < 3 {
					bytes = rnd.Int() >> rnd.Intn(62)
				}
				c.Acked(bytes, at)
				p.acked(int64(bytes), at)
			case k < 39:
				c.Lost(at, now)
				p.loses(at, now)
			default:
				c.Collapse()
				p.window, p.lost = 2*p.size, nil
			}
			if int64(c.Window()) != p.window || c.Window() < 2*size || c.Window() > most {
				t.Fatalf("%d, not %d", c.Window(), p.window)
			}
		}
	}
}

func TestApart(t *testing.T) { // DOC's rule 8
	a, b := New(100), New(100)
	a.Lost(5, 5)
	a.Acked(50, 9)
	shows(t, "another one", b, 1000)
	b.Acked(50, 3)
	shows(t, "another one", b, 1050)
	shows(t, "this one", a, 500)
}
