package ledger

import (
	"fmt"
	"math"
	"math/rand"
	"slices"
	"testing"

	"bifold/api"
)

const top = 1<<62 - 1 // MaxVar, as the chapter has it

func r(first, last uint64) api.Range { return api.Range{First: first, Last: last} }

func just(n ...uint64) []api.Range {
	var l []api.Range
	for _, x := range n {
		l = append(l, r(x, x))
	}
	return l
}

// of: a ledger of the numbers n, sent at that time, of 100 bytes each, which ask for an ACK.
func of(at uint64, n ...uint64) *Ledger {
	l := New()
	for _, x := range n {
		l.Send(api.Sent{Pn: x, At: at, Size: 100, Eager: true})
	}
	return l
}

// acks: what an Ack without a delay answers.
func acks(t *testing.T, at string, l *Ledger, x []api.Range, now uint64, acked, lost []uint64) {
	t.Helper()
	if a, b, e := l.Ack(x, now, 0); !slices.Equal(a, acked) || !slices.Equal(b, lost) || e != api.OK {
		t.Errorf("%s: Ack(%v): %d, %d, %v, not %d, %d", at, x, a, b, e, acked, lost)
	}
}

// shows: what l tells of its packets.
func shows(t *testing.T, at string, l *Ledger, open []uint64, flight int, largest int64) {
	t.Helper()
	if got := l.Open(); !slices.Equal(got, open) || l.Flight() != flight || l.Largest() != largest {
		t.Errorf("%s: open %d, flight %d, largest %d, not %d, %d, %d", at, got, l.Flight(), l.Largest(), open, flight, largest)
	}
}

func takes(t *testing.T, at string, l *Ledger, smoothed, varied, least uint64) {
	t.Helper()
	if a, b, c := l.Rtt(); a != smoothed || b != varied || c != least {
		t.Errorf("%s: Rtt: %d, %d, %d, not %d, %d, %d", at, a, b, c, smoothed, varied, least)
	}
}

func TestNew(t *testing.T) { // P22.1, P22.2
	l := New()
	shows(t, "new", l, nil, 0, -1)
	takes(t, "new", l, 10, 5, 0)
	acks(t, "new", l, nil, 5, nil, nil)
	if lost := l.Tick(1 << 40); len(lost) != 0 {
		t.Errorf("Tick: %d", lost)
	}
}

func TestSend(t *testing.T) { // P22.1
	l := New()
	for i, x := range []struct {
		s      api.Sent
		e      api.Errno
		open   []uint64
		flight int
	}{
		{api.Sent{Pn: 0, Size: 7, Eager: true}, api.OK, []uint64{0}, 7},
		{api.Sent{Pn: 0, Size: 7, Eager: true}, api.ErrOrder, []uint64{0}, 7},
		{api.Sent{Pn: 1, Size: 50}, api.OK, []uint64{0, 1}, 7}, // not Eager
		{api.Sent{Pn: 5, Size: 8, Eager: true}, api.OK, []uint64{0, 1, 5}, 15},
		{api.Sent{Pn: 4, Size: 8, Eager: true}, api.ErrOrder, []uint64{0, 1, 5}, 15},
		{api.Sent{Pn: 5, Size: 8, Eager: true}, api.ErrOrder, []uint64{0, 1, 5}, 15},
		{api.Sent{Pn: 6, Size: 0, Eager: true}, api.OK, []uint64{0, 1, 5, 6}, 15},
		{api.Sent{Pn: top + 1, Size: 8, Eager: true}, api.ErrOrder, []uint64{0, 1, 5, 6}, 15},
		{api.Sent{Pn: math.MaxUint64, Size: 8, Eager: true}, api.ErrOrder, []uint64{0, 1, 5, 6}, 15},
		{api.Sent{Pn: top, Size: 1 << 40, Eager: true}, api.OK, []uint64{0, 1, 5, 6, top}, 1<<40 + 15},
		{api.Sent{Pn: top, Size: 8, Eager: true}, api.ErrOrder, []uint64{0, 1, 5, 6, top}, 1<<40 + 15},
		{api.Sent{Pn: 0, Size: 8, Eager: true}, api.ErrOrder, []uint64{0, 1, 5, 6, top}, 1<<40 + 15},
	} {
		if e := l.Send(x.s); e != x.e {
			t.Errorf("%d: Send(%v): %v", i, x.s, e)
		}
		shows(t, fmt.Sprint(i), l, x.open, x.flight, -1)
	}
	if e := New().Send(api.Sent{Pn: top + 1}); e != api.ErrOrder {
		t.Errorf("the first one above MaxVar: %v", e)
	}
	if e := New().Send(api.Sent{Pn: top}); e != api.OK {
		t.Errorf("the first one MaxVar: %v", e)
	}
}

func TestSendOfWhatIsOver(t *testing.T) { // P22.1: above all that were sent, open or not
	l := of(0, 0, 1, 2, 9)
	acks(t, "all", l, []api.Range{r(0, 2), r(9, 9)}, 1, []uint64{0, 1, 2, 9}, nil)
	for _, n := range []uint64{0, 2, 3, 9} {
		if e := l.Send(api.Sent{Pn: n}); e != api.ErrOrder {
			t.Errorf("Send(%d): %v", n, e)
		}
	}
	if e := l.Send(api.Sent{Pn: 10}); e != api.OK {
		t.Errorf("Send(10): %v", e)
	}
}

func TestAck(t *testing.T) { // P22.1
	for _, x := range []struct {
		acked   []api.Range
		told    []uint64
		open    []uint64
		flight  int
		largest int64
	}{
		{nil, nil, []uint64{3, 4, 5, 8, 9}, 500, -1},
		{just(3), []uint64{3}, []uint64{4, 5, 8, 9}, 400, 3},
		{just(4), []uint64{4}, []uint64{3, 5, 8, 9}, 400, 4},
		{[]api.Range{r(3, 5)}, []uint64{3, 4, 5}, []uint64{8, 9}, 200, 5},
		{[]api.Range{r(4, 5), r(3, 3)}, []uint64{3, 4, 5}, []uint64{8, 9}, 200, 5},
		{[]api.Range{r(3, 3), r(4, 5)}, []uint64{3, 4, 5}, []uint64{8, 9}, 200, 5}, // in any order
		{[]api.Range{r(3, 4), r(4, 5), r(3, 5)}, []uint64{3, 4, 5}, []uint64{8, 9}, 200, 5},
		{[]api.Range{r(8, 9), r(3, 5)}, []uint64{3, 4, 5, 8, 9}, nil, 0, 9},
		{[]api.Range{r(9, 9), r(3, 3), r(5, 5), r(8, 8), r(4, 4)}, []uint64{3, 4, 5, 8, 9}, nil, 0, 9},
		{just(5, 5, 5), []uint64{5}, []uint64{3, 4, 8, 9}, 400, 5},
	} {
		l := of(0, 3, 4, 5, 8, 9)
		at := fmt.Sprint(x.acked)
		acks(t, at, l, x.acked, 0, x.told, nil)
		shows(t, at, l, x.open, x.flight, x.largest)
		acks(t, at+" again", l, x.acked, 0, nil, nil)
		shows(t, at+" again", l, x.open, x.flight, x.largest)
	}
}

func TestAckOfWrongOnes(t *testing.T) { // P22.1
	for _, wrong := range [][]api.Range{
		{r(5, 4)}, {r(1, 0)}, {r(math.MaxUint64, 0)}, // First above Last
		{r(10, 10)}, {r(9, 10)}, {r(3, 10)}, {r(9, math.MaxUint64)}, {r(top, top)}, {r(top+1, top+1)}, // above what was sent
		{r(6, 6)}, {r(7, 7)}, {r(6, 7)}, {r(5, 6)}, {r(7, 8)}, {r(5, 8)}, {r(3, 9)}, {r(4, 8)}, // between
		{r(2, 2)}, {r(0, 0)}, {r(2, 3)}, {r(0, 9)}, // ahead of all
		{r(3, 3), r(6, 6)}, {r(8, 9), r(5, 4)}, {r(8, 9), r(3, 5), r(10, 10)}, {r(0, 0), r(8, 9)},
	} {
		l := of(0, 3, 4, 5, 8, 9)
		for range 2 {
			if a, b, e := l.Ack(wrong, 1<<40, 3); e != api.ErrAck || len(a) != 0 || len(b) != 0 {
				t.Errorf("Ack(%v): %d, %d, %v", wrong, a, b, e)
			}
			shows(t, fmt.Sprint(wrong), l, []uint64{3, 4, 5, 8, 9}, 500, -1)
			takes(t, fmt.Sprint(wrong), l, 10, 5, 0)
		}
		acks(t, fmt.Sprint(wrong), l, just(4), 0, []uint64{4}, nil)
		if a, b, e := l.Ack(wrong, 1<<40, 3); e != api.ErrAck || len(a) != 0 || len(b) != 0 { // although 3 would be lost by then
			t.Errorf("Ack(%v): %d, %d, %v", wrong, a, b, e)
		}
		shows(t, fmt.Sprint(wrong), l, []uint64{3, 5, 8, 9}, 400, 4)
		takes(t, fmt.Sprint(wrong), l, 0, 0, 0)
	}
	if _, _, e := New().Ack(just(0), 1, 0); e != api.ErrAck {
		t.Errorf("where nothing was sent: %v", e)
	}
}

func TestAckOfTheGreatest(t *testing.T) { // P22.1
	l := of(0, 0, top-1, top)
	if _, _, e := l.Ack([]api.Range{r(0, top)}, 1, 0); e != api.ErrAck {
		t.Errorf("all numbers: %v", e)
	}
	if _, _, e := l.Ack([]api.Range{r(top-1, top+1)}, 1, 0); e != api.ErrAck {
		t.Errorf("one above: %v", e)
	}
	acks(t, "the greatest", l, []api.Range{r(top-1, top)}, 1, []uint64{top - 1, top}, []uint64{0})
	shows(t, "the greatest", l, nil, 0, top)
}

func TestExample(t *testing.T) { // P22.3
	l := of(0, 0, 1, 2, 3)
	acks(t, "the chapter's", l, just(3), 10, []uint64{3}, []uint64{0})
	shows(t, "the chapter's", l, []uint64{1, 2}, 200, 3)
}

func TestLostByNumber(t *testing.T) { // P22.3
	for largest, lost := range map[uint64][]uint64{
		0: nil, 1: nil, 2: nil, 3: {0}, 4: {0, 1}, 5: {0, 1, 2}, 9: {0, 1, 2, 3, 4, 5, 6},
	} {
		l := of(0, 0, 1, 2, 3, 4, 5, 6, 7, 8, 9)
		acks(t, fmt.Sprint(largest), l, just(largest), 0, []uint64{largest}, lost)
	}
	l := of(0, 0, 1, 2, 3, 4)
	acks(t, "some are there", l, []api.Range{r(4, 4), r(0, 0)}, 0, []uint64{0, 4}, []uint64{1})
	acks(t, "one that is lost", l, just(1), 0, nil, nil)
	acks(t, "one below", l, just(2), 0, []uint64{2}, nil)
	shows(t, "at last", l, []uint64{3}, 100, 4)
	l = of(0, 0, 10) // however few were sent between
	acks(t, "far apart", l, just(10), 0, []uint64{10}, []uint64{0})
	l = of(0, 7, 10)
	acks(t, "3 apart", l, just(10), 0, []uint64{10}, []uint64{7})
	l = of(0, 8, 10)
	acks(t, "2 apart", l, just(10), 0, []uint64{10}, nil)
}

func TestLostByTime(t *testing.T) { // P22.3
	for took, wait := range map[uint64]uint64{0: 1, 1: 1, 2: 2, 7: 7, 8: 9, 10: 11, 15: 16, 16: 18, 100: 112, 800: 900} {
		l := New()
		l.Send(api.Sent{Pn: 0, At: 1000, Size: 100, Eager: true})
		l.Send(api.Sent{Pn: 1, At: 1000 - took, Size: 10, Eager: true})
		l.Send(api.Sent{Pn: 2, At: 0, Size: 1, Eager: true})
		acks(t, fmt.Sprint(took), l, just(1), 1000, []uint64{1}, nil)
		for _, now := range []uint64{0, 1000, 1000 + wait - 1} {
			if lost := l.Tick(now); len(lost) != 0 {
				t.Errorf("a sample of %d: lost at %d: %d", took, now, lost)
			}
		}
		shows(t, fmt.Sprint(took), l, []uint64{0, 2}, 101, 1)
		if lost := l.Tick(1000 + wait); !slices.Equal(lost, []uint64{0}) {
			t.Errorf("a sample of %d: lost at %d: %d", took, 1000+wait, lost)
		}
		shows(t, fmt.Sprint(took), l, []uint64{2}, 1, 1) // above Largest nothing is lost
		if lost := l.Tick(1 << 40); len(lost) != 0 {
			t.Errorf("lost again: %d", lost)
		}
	}
}

func TestLostByTimeWithoutSample(t *testing.T) { // P22.3
	l := New()
	l.Send(api.Sent{Pn: 0, At: 5, Size: 1, Eager: true})
	l.Send(api.Sent{Pn: 1, At: 7})
	if lost := l.Tick(1 << 40); len(lost) != 0 {
		t.Errorf("lost although nothing was acknowledged: %d", lost)
	}
	l.Send(api.Sent{Pn: 2, At: 7})
	acks(t, "no sample", l, just(2), 15, []uint64{2}, nil)
	takes(t, "no sample", l, 10, 5, 0)
	if lost := l.Tick(15); len(lost) != 0 {
		t.Errorf("at 15: %d", lost)
	}
	if lost := l.Tick(16); !slices.Equal(lost, []uint64{0}) {
		t.Errorf("at 16: %d", lost)
	}
	acks(t, "an Ack of nothing at 18", l, nil, 18, nil, []uint64{1}) // an Ack tells what is lost by then, too
}

func TestLostByTheGreater(t *testing.T) { // P22.3: of smoothed and the last sample
	l := of(0, 0, 1, 2, 3, 4)
	acks(t, "the first", l, just(0), 80, []uint64{0}, nil) // smoothed is 80
	l.Send(api.Sent{Pn: 5, At: 200, Size: 1, Eager: true})
	l.Send(api.Sent{Pn: 6, At: 200, Size: 1, Eager: true})
	acks(t, "a short one", l, []api.Range{r(6, 6), r(1, 4)}, 208, []uint64{1, 2, 3, 4, 6}, nil)
	takes(t, "a short one", l, 71, 48, 8)
	if lost := l.Tick(278); len(lost) != 0 { // 79 ticks
		t.Errorf("of smoothed: %d", lost)
	}
	if lost := l.Tick(279); !slices.Equal(lost, []uint64{5}) {
		t.Errorf("of smoothed: %d", lost)
	}
	l.Send(api.Sent{Pn: 7, At: 500, Size: 1, Eager: true})
	l.Send(api.Sent{Pn: 8, At: 400, Size: 1, Eager: true})
	acks(t, "a long one", l, just(8), 500, []uint64{8}, nil)
	takes(t, "a long one", l, 74, 43, 8)
	if lost := l.Tick(611); len(lost) != 0 { // 112 ticks
		t.Errorf("of the last sample: %d", lost)
	}
	if lost := l.Tick(612); !slices.Equal(lost, []uint64{7}) {
		t.Errorf("of the last sample: %d", lost)
	}
}

func TestSamples(t *testing.T) { // P22.2
	l := New()
	for i, x := range []struct{ at, now, delay, smoothed, varied, least uint64 }{
		{0, 10, 0, 10, 5, 10},                    // the first one
		{0, 18, 0, 11, 5, 10},                    // (15 + 8) / 4, (70 + 18) / 8
		{0, 18, 8, 10, 4, 10},                    // adjusted 10: (15 + 1) / 4, (77 + 10) / 8
		{0, 18, 9, 11, 5, 10},                    // less 9 would be below the least: (12 + 8) / 4, (70 + 18) / 8
		{0, 18, 1 << 40, 11, 5, 10},              // (15 + 7) / 4, (77 + 18) / 8
		{0, 2, 0, 9, 6, 2},                       // below the least: (15 + 9) / 4, (77 + 2) / 8
		{0, 5, 3, 8, 6, 2},                       // adjusted 2: (18 + 7) / 4, (63 + 2) / 8
		{0, 5, 4, 7, 5, 2},                       // (18 + 3) / 4, (56 + 5) / 8
		{50, 40, 0, 6, 5, 0},                     // At is later: (15 + 7) / 4, (49 + 0) / 8
		{50, 50, 0, 5, 5, 0},                     // (15 + 6) / 4, (42 + 0) / 8
		{50, 59, 9, 4, 5, 0},                     // adjusted 0: (15 + 5) / 4, (35 + 0) / 8
		{0, 1 << 40, 0, 1<<37 + 3, 1<<38 + 2, 0}, // (15 + 2^40 - 4) / 4, (28 + 2^40) / 8
	} {
		l.Send(api.Sent{Pn: uint64(i), At: x.at, Size: 1, Eager: true})
		if _, _, e := l.Ack(just(uint64(i)), x.now, x.delay); e != api.OK {
			t.Errorf("%d: Ack: %v", i, e)
		}
		takes(t, fmt.Sprint(i, x), l, x.smoothed, x.varied, x.least)
	}
}

func TestFirstSample(t *testing.T) { // P22.2: its delay says nothing
	for took, varied := range map[uint64]uint64{0: 0, 1: 0, 2: 1, 7: 3, 100: 50, 1 << 40: 1 << 39} {
		for _, delay := range []uint64{0, 1, took, 1 << 40} {
			l := of(0, 0)
			l.Ack(just(0), took, delay)
			takes(t, fmt.Sprint(took, delay), l, took, varied, took)
		}
	}
}

func TestNoSample(t *testing.T) { // P22.2
	l := New()
	for n := range uint64(10) {
		l.Send(api.Sent{Pn: n, At: n, Size: 1, Eager: n != 5 && n != 9})
	}
	l.Ack(just(5), 10, 0) // it isn't Eager
	takes(t, "not Eager", l, 10, 5, 0)
	shows(t, "not Eager", l, []uint64{3, 4, 6, 7, 8, 9}, 5, 5)
	l.Ack(just(4), 10, 0) // no number above Largest
	takes(t, "below Largest", l, 10, 5, 0)
	l.Ack(just(5), 10, 0) // it was acknowledged
	takes(t, "Largest again", l, 10, 5, 0)
	l.Ack([]api.Range{r(8, 9)}, 10, 0) // the greatest of them isn't Eager, although 8 is
	takes(t, "the greatest isn't Eager", l, 10, 5, 0)
	shows(t, "the greatest isn't Eager", l, []uint64{7}, 1, 9)
	l.Send(api.Sent{Pn: 10, At: 20})
	l.Send(api.Sent{Pn: 11, At: 15, Size: 1, Eager: true})
	l.Ack([]api.Range{r(10, 11)}, 35, 0) // the greatest of them is, although 10 isn't
	takes(t, "the greatest is Eager", l, 20, 10, 20)
}

func TestFlight(t *testing.T) { // P22.3
	l := New()
	for n := range uint64(8) {
		l.Send(api.Sent{Pn: n, At: 100, Size: 1 << n, Eager: n != 1 && n != 4 && n != 6})
	}
	shows(t, "sent", l, []uint64{0, 1, 2, 3, 4, 5, 6, 7}, 1+4+8+32+128, -1)
	acks(t, "acknowledged", l, []api.Range{r(0, 2)}, 110, []uint64{0, 1, 2}, nil)
	shows(t, "acknowledged", l, []uint64{3, 4, 5, 6, 7}, 8+32+128, 2)
	acks(t, "lost", l, just(6), 110, []uint64{6}, []uint64{3})
	shows(t, "lost", l, []uint64{4, 5, 7}, 32+128, 6)
	if lost := l.Tick(111); !slices.Equal(lost, []uint64{4, 5}) {
		t.Errorf("Tick: %d", lost)
	}
	shows(t, "lost by time", l, []uint64{7}, 128, 6)
}

// packet: in the plain ledger, with what became of it.
type packet struct {
	api.Sent
	state int // 0: open, 1: acknowledged, 2: lost
}

// plain: a ledger as the chapter tells it, by going through all that was sent.
type plain struct {
	l                             []packet
	largest                       int64
	sampled                       bool
	smoothed, varied, least, last int64
}

func (p *plain) ack(l []api.Range, now, delay uint64) ([]uint64, []uint64, api.Errno) {
	sent := map[uint64]bool{}
	for _, x := range p.l {
		sent[x.Pn] = true
	}
	named := map[uint64]bool{}
	for _, x := range l {
		if x.First > x.Last {
			return nil, nil, api.ErrAck
		}
		for n := x.First; n <= x.Last; n++ {
			if !sent[n] {
				return nil, nil, api.ErrAck
			}
			named[n] = true
		}
	}
	var acked []uint64
	was := p.largest
	for i, x := range p.l {
		if x.state == 0 && named[x.Pn] {
			p.l[i].state = 1
			acked = append(acked, x.Pn)
			p.largest = max(p.largest, int64(x.Pn))
		}
	}
	for _, x := range p.l {
		if int64(x.Pn) == p.largest && p.largest > was && x.Eager {
			p.sample(int64(now)-int64(x.At), int64(delay))
		}
	}
	return acked, p.tick(now), api.OK
}

func (p *plain) sample(took, delay int64) {
	took = max(took, 0)
	p.last = took
	if !p.sampled {
		p.sampled, p.smoothed, p.varied, p.least = true, took, took/2, took
		return
	}
	p.least = min(p.least, took)
	a := took
	if took-delay >= p.least {
		a = took - delay
	}
	d := p.smoothed - a
	if d < 0 {
		d = -d
	}
	p.varied, p.smoothed = (3*p.varied+d)/4, (7*p.smoothed+a)/8
}

func (p *plain) tick(now uint64) []uint64 {
	var lost []uint64
	slow := int64(10)
	if p.sampled {
		slow = max(p.smoothed, p.last)
	}
	for i, x := range p.l {
		if x.state != 0 || int64(x.Pn) >= p.largest {
			continue
		}
		if p.largest-int64(x.Pn) >= 3 || int64(x.At)+max(slow*9/8, 1) <= int64(now) {
			p.l[i].state = 2
			lost = append(lost, x.Pn)
		}
	}
	return lost
}

func (p *plain) open() ([]uint64, int) {
	var l []uint64
	flight := 0
	for _, x := range p.l {
		if x.state == 0 {
			l = append(l, x.Pn)
			if x.Eager {
				flight += x.Size
			}
		}
	}
	return l, flight
}

// someRanges: of numbers up to next, which often were sent, all of them.
func someRanges(rnd *rand.Rand, p *plain) []api.Range {
	var l []api.Range
	for range rnd.Intn(4) {
		first := p.l[rnd.Intn(len(p.l))].Pn
		if rnd.Intn(2) == 0 {
			first = p.l[len(p.l)-1-rnd.Intn(min(len(p.l), 6))].Pn
		}
		x := r(first, first+uint64(rnd.Intn(8)>>rnd.Intn(4)))
		if rnd.Intn(40) == 0 {
			x.Last -= 3
		}
		l = append(l, x)
	}
	return l
}

func TestStepByStep(t *testing.T) { // P22.1 to P22.4
	rnd := rand.New(rand.NewSource(22))
	good, wrong, lost := 0, 0, 0
	for i := range 1500 {
		l, p := New(), &plain{largest: -1, smoothed: 10, varied: 5}
		now, next := uint64(rnd.Intn(100)), []uint64{0, 1000, 1 << 61, top - 400}[i%4]
		told := map[uint64]int{}
		for range 80 {
			now += uint64(rnd.Intn(12) >> rnd.Intn(5))
			var a, b, wa, wb []uint64
			switch k := rnd.Intn(10); {
			case k < 5 || len(p.l) == 0:
				s := api.Sent{Pn: next, At: now - uint64(rnd.Intn(3))*now/7, Size: rnd.Intn(1200), Eager: rnd.Intn(4) > 0}
				if e := l.Send(s); e != api.OK {
					t.Fatalf("Send(%v): %v", s, e)
				}
				p.l = append(p.l, packet{Sent: s})
				next += 1 + uint64(rnd.Intn(30)/29)*uint64(rnd.Intn(4))
			case k < 9:
				x, delay := someRanges(rnd, p), uint64(rnd.Intn(8))
				var e, we api.Errno
				a, b, e = l.Ack(x, now, delay)
				wa, wb, we = p.ack(x, now, delay)
				if e != we {
					t.Fatalf("Ack(%v): %v, not %v", x, e, we)
				}
				if e == api.OK {
					good++
				} else {
					wrong++
				}
			default:
				at := now + uint64(rnd.Intn(20)) - uint64(rnd.Intn(5))*now/20
				b, wb = l.Tick(at), p.tick(at)
			}
			if !slices.Equal(a, wa) || !slices.Equal(b, wb) {
				t.Fatalf("acknowledged %d, lost %d, not %d, %d", a, b, wa, wb)
			}
			for _, n := range append(a, b...) {
				told[n]++
			}
			lost += len(b)
			open, flight := p.open()
			shows(t, "step by step", l, open, flight, p.largest)
			takes(t, "step by step", l, uint64(p.smoothed), uint64(p.varied), uint64(p.least))
			for _, n := range l.Open() {
				told[n]++
			}
			for _, x := range p.l {
				if told[x.Pn] != 1 {
					t.Fatalf("%d is told %d times", x.Pn, told[x.Pn])
				}
			}
			for _, n := range l.Open() {
				told[n]--
			}
			if t.Failed() {
				return
			}
		}
	}
	if good < 1000 || wrong < 1000 || lost < 1000 {
		t.Errorf("%d good, %d wrong, %d lost", good, wrong, lost)
	}
}

func TestManyPackets(t *testing.T) { // P22.1: the other side tells all that came, again and again
	l := New()
	const many = 100000
	for n := range uint64(many) {
		l.Send(api.Sent{Pn: 2 * n, At: n, Size: 1, Eager: true})
	}
	for n := range uint64(many) {
		acks(t, "one more", l, just(2*n), n, []uint64{2 * n}, nil)
	}
	shows(t, "all", l, nil, 0, 2*many-2)
	if len(l.open) > 0 {
		t.Errorf("%d are kept", len(l.open))
	}
}

func TestHandedIn(t *testing.T) { // DOC's rule 3
	l := of(0, 0, 1, 2, 3, 4, 5)
	x := []api.Range{r(4, 4), r(0, 1), r(77, 77)}
	l.Ack(x[:2], 0, 0)
	if !slices.Equal(x, []api.Range{r(4, 4), r(0, 1), r(77, 77)}) {
		t.Errorf("what was handed in changed: %v", x)
	}
	open := l.Open()
	_ = append(open[:1], 50)
	clear(open)
	shows(t, "behind clear", l, []uint64{2, 3, 5}, 300, 4)
}

func TestApart(t *testing.T) { // DOC's rule 8
	a, b := New(), New()
	a.Send(api.Sent{Pn: 5, At: 1, Size: 1, Eager: true})
	a.Ack(just(5), 4, 0)
	shows(t, "another one", b, nil, 0, -1)
	takes(t, "another one", b, 10, 5, 0)
	if e := b.Send(api.Sent{Pn: 5}); e != api.OK {
		t.Errorf("another one: %v", e)
	}
	takes(t, "this one", a, 3, 1, 3)
}
