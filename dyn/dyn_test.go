package dyn

import (
	"math"
	"math/rand"
	"slices"
	"strconv"
	"strings"
	"testing"
	"unsafe"

	"bifold/api"
)

func pair(name, value string) api.Field { return api.Field{Name: name, Value: value} }

// entry: that stands in the plain list that a table is held against.
type entry struct {
	abs uint64
	f   api.Field
}

// plain: a table as the document tells it, by going through a list, oldest first.
type plain struct {
	l        []entry
	capacity int
	count    uint64
}

func (p *plain) size() int {
	n := 0
	for _, e := range p.l {
		n += len(e.f.Name) + len(e.f.Value) + 32
	}
	return n
}

func (p *plain) add(f api.Field) int {
	n := len(f.Name) + len(f.Value) + 32
	went := 0
	for len(p.l) > 0 && p.size()+n > p.capacity {
		p.l = p.l[1:]
		went++
	}
	if n <= p.capacity {
		p.l = append(p.l, entry{p.count, f})
		p.count++
	}
	return went
}

func (p *plain) resize(n int) int {
	p.capacity = max(n, 0)
	went := 0
	for p.size() > p.capacity {
		p.l = p.l[1:]
		went++
	}
	return went
}

func (p *plain) find(f api.Field) (uint64, bool, bool) {
	for _, e := range slices.Backward(p.l) {
		if e.f == f {
			return e.abs, true, true
		}
	}
	for _, e := range slices.Backward(p.l) {
		if e.f.Name == f.Name {
			return e.abs, true, false
		}
	}
	return 0, false, false
}

// compare: whether t tells what p tells, of the fields asked, too.
func compare(t *testing.T, at string, tab *Table, p *plain, asked []api.Field) {
	t.Helper()
	if tab.Size() != p.size() || tab.Cap() != p.capacity || tab.Len() != len(p.l) || tab.Count() != p.count {
		t.Fatalf("%s: size %d, capacity %d, %d stand of %d; not %d, %d, %d of %d", at, tab.Size(), tab.Cap(), tab.Len(), tab.Count(), p.size(), p.capacity, len(p.l), p.count)
	}
	if tab.Size() > tab.Cap() {
		t.Fatalf("%s: size %d is above the capacity %d", at, tab.Size(), tab.Cap())
	}
	standing := map[uint64]api.Field{}
	for i, e := range p.l {
		standing[e.abs] = e.f
		if f, ok := tab.Newest(uint64(len(p.l) - 1 - i)); !ok || f != e.f {
			t.Fatalf("%s: Newest(%d): %v %v, not %v", at, len(p.l)-1-i, f, ok, e.f)
		}
	}
	for abs := range p.count + 3 {
		f, ok := tab.At(abs)
		want, stands := standing[abs]
		if f != want || ok != stands {
			t.Fatalf("%s: At(%d): %v %v, not %v %v", at, abs, f, ok, want, stands)
		}
	}
	for _, i := range []uint64{uint64(len(p.l)), uint64(len(p.l)) + 1, p.count, 1 << 31, 1 << 63, math.MaxUint64} {
		if f, ok := tab.Newest(i); i >= uint64(len(p.l)) && (ok || f != (api.Field{})) {
			t.Fatalf("%s: Newest(%d): %v %v", at, i, f, ok)
		}
		if f, ok := tab.At(i + p.count); i+p.count >= p.count && (ok || f != (api.Field{})) {
			t.Fatalf("%s: At(%d): %v %v", at, i+p.count, f, ok)
		}
	}
	for _, f := range asked {
		a, b, c := tab.Find(f)
		x, y, z := p.find(f)
		if a != x || b != y || c != z {
			t.Fatalf("%s: Find(%v): %d %v %v, not %d %v %v", at, f, a, b, c, x, y, z)
		}
	}
}

func TestNew(t *testing.T) { // P5.1
	for n, want := range map[int]int{0: 0, 1: 1, 31: 31, 40: 40, 4096: 4096, -1: 0, -40: 0, math.MinInt: 0, math.MaxInt: math.MaxInt} {
		tab := New(n)
		compare(t, strconv.Itoa(n), tab, &plain{capacity: want}, []api.Field{{}, pair("a", "b")})
	}
}

func TestExample(t *testing.T) { // P5.1, P5.2
	tab := New(40)
	if went := tab.Add(pair("a", "b")); went != 0 {
		t.Errorf("Add: %d", went)
	}
	if tab.Size() != 34 || tab.Cap() != 40 || tab.Len() != 1 || tab.Count() != 1 {
		t.Errorf("%d %d %d %d", tab.Size(), tab.Cap(), tab.Len(), tab.Count())
	}
	// At the next one there is no room for both.
	if went := tab.Add(pair("c", "d")); went != 1 {
		t.Errorf("Add again: %d", went)
	}
	if f, ok := tab.At(1); !ok || f != pair("c", "d") {
		t.Errorf("At(1): %v %v", f, ok)
	}
	if f, ok := tab.At(0); ok || f != (api.Field{}) {
		t.Errorf("At(0): %v %v", f, ok)
	}
	if tab.Size() != 34 || tab.Len() != 1 || tab.Count() != 2 {
		t.Errorf("%d %d %d", tab.Size(), tab.Len(), tab.Count())
	}
}

func TestAddFits(t *testing.T) { // P5.1
	a, b, c := pair("a", "1"), pair("b", "22"), pair("c", "333") // 34, 35, 36
	for i, x := range []struct {
		capacity int
		l        []api.Field
		went     int
		stand    []api.Field
		count    uint64
	}{
		{105, []api.Field{a, b, c}, 0, []api.Field{a, b, c}, 3}, // to the last byte
		{104, []api.Field{a, b, c}, 1, []api.Field{b, c}, 3},    // one too few
		{71, []api.Field{a, b, c}, 1, []api.Field{b, c}, 3},
		{70, []api.Field{a, b, c}, 2, []api.Field{c}, 3},
		{36, []api.Field{a, b, c}, 2, []api.Field{c}, 3},
		{35, []api.Field{a, b, c}, 2, nil, 2}, // c alone is above it: b goes, and c isn't there
		{34, []api.Field{a, b, c}, 1, nil, 1},
		{34, []api.Field{a, b, a}, 1, []api.Field{a}, 2}, // what was above has no number
		{33, []api.Field{a, b, c}, 0, nil, 0},
		{32, []api.Field{{}}, 0, []api.Field{{}}, 1},
		{31, []api.Field{{}}, 0, nil, 0},
		{0, []api.Field{{}, a}, 0, nil, 0},
		{-1, []api.Field{{}, a}, 0, nil, 0},
		{math.MinInt, []api.Field{{}, a}, 0, nil, 0},
		{math.MaxInt, []api.Field{c, b, a, a}, 0, []api.Field{c, b, a, a}, 4}, // twice the same is two
		{100, nil, 0, nil, 0},
		{100, []api.Field{a, a, a, a}, 2, []api.Field{a, a}, 4},
		{69, []api.Field{a, b, pair("d", strings.Repeat("x", 36))}, 2, []api.Field{pair("d", strings.Repeat("x", 36))}, 3},
		{69, []api.Field{a, b, pair("d", strings.Repeat("x", 37))}, 2, nil, 2},
		{69, []api.Field{a, b, pair(strings.Repeat("x", 9000), "")}, 2, nil, 2},
		{100, []api.Field{pair("é", "\u2028"), pair("A\x00", "\r\n")}, 0, []api.Field{pair("é", "\u2028"), pair("A\x00", "\r\n")}, 2}, // any bytes are borne
	} {
		at := strconv.Itoa(i)
		tab := New(x.capacity)
		if went := tab.Add(x.l...); went != x.went {
			t.Errorf("%s: Add: %d, not %d", at, went, x.went)
		}
		p := &plain{capacity: max(x.capacity, 0), count: x.count}
		for j, f := range x.stand {
			p.l = append(p.l, entry{x.count - uint64(len(x.stand)-j), f})
		}
		compare(t, at, tab, p, append([]api.Field{{}, pair("a", "")}, x.l...))
	}
}

func TestAddOneByOne(t *testing.T) { // P5.1
	rnd := rand.New(rand.NewSource(5))
	for range 300 {
		capacity := rnd.Intn(200)
		at, together := New(capacity), New(capacity)
		var l []api.Field
		went := 0
		for range rnd.Intn(12) {
			f := pair(strings.Repeat("n", rnd.Intn(4)), strings.Repeat("v", rnd.Intn(100)))
			l = append(l, f)
			went += at.Add(f)
		}
		if got := together.Add(l...); got != went || at.Len() != together.Len() || at.Count() != together.Count() || at.Size() != together.Size() {
			t.Fatalf("%v in %d: %d, not %d", l, capacity, got, went)
		}
	}
}

func TestResize(t *testing.T) { // P5.1
	a, b, c := pair("a", "1"), pair("b", "22"), pair("c", "333") // 34, 35, 36
	for i, x := range []struct {
		n, want, went, stand int
	}{
		{4096, 4096, 0, 3}, {106, 106, 0, 3}, {105, 105, 0, 3}, {104, 104, 1, 2}, {71, 71, 1, 2}, {70, 70, 2, 1}, {36, 36, 2, 1}, {35, 35, 3, 0}, {1, 1, 3, 0}, {0, 0, 3, 0}, {-1, 0, 3, 0}, {math.MinInt, 0, 3, 0}, {math.MaxInt, math.MaxInt, 0, 3},
	} {
		at := strconv.Itoa(i)
		tab := New(105)
		tab.Add(a, b, c)
		if went := tab.Resize(x.n); went != x.went {
			t.Errorf("%s: Resize(%d): %d, not %d", at, x.n, went, x.went)
		}
		p := &plain{l: []entry{{0, a}, {1, b}, {2, c}}[3-x.stand:], capacity: x.want, count: 3}
		compare(t, at, tab, p, []api.Field{a, b, c})
		// Numbers go on where they were, and what went doesn't come again.
		if went := tab.Resize(105); went != 0 {
			t.Errorf("%s: Resize back: %d", at, went)
		}
		p.resize(105)
		compare(t, at+" back", tab, p, []api.Field{a, b, c})
		if went := tab.Add(a); went != p.add(a) {
			t.Errorf("%s: Add: %d", at, went)
		}
		compare(t, at+" on", tab, p, []api.Field{a, b, c})
	}
}

func TestFind(t *testing.T) { // P5.2
	tab := New(34 * 4)
	tab.Add(pair("a", "1"), pair("a", "2"), pair("b", "1"), pair("a", "1"))
	type found struct {
		abs         uint64
		name, whole bool
	}
	look := func(f api.Field) found {
		abs, name, whole := tab.Find(f)
		return found{abs, name, whole}
	}
	hold := func(at string, wants map[api.Field]found) {
		t.Helper()
		for f, want := range wants {
			if got := look(f); got != want {
				t.Errorf("%s: Find(%v): %v, not %v", at, f, got, want)
			}
		}
	}
	hold("first", map[api.Field]found{
		pair("a", "1"): {3, true, true}, // the newest of two
		pair("a", "2"): {1, true, true}, // though a newer one has the name
		pair("b", "1"): {2, true, true},
		pair("a", "3"): {3, true, false},
		pair("a", ""):  {3, true, false},
		pair("b", "2"): {2, true, false},
		pair("c", "1"): {},
		pair("A", "1"): {},
		pair("", "1"):  {},
		pair("a1", ""): {},
		pair("", "a1"): {},
	})
	tab.Add(pair("c", "1")) // entry 0 goes; 3 is alike
	hold("one went", map[api.Field]found{
		pair("a", "1"): {3, true, true},
		pair("a", "9"): {3, true, false},
		pair("a", "2"): {1, true, true},
		pair("c", "1"): {4, true, true},
	})
	tab.Add(pair("c", "2"), pair("c", "3")) // 1 and 2 go
	hold("three went", map[api.Field]found{
		pair("a", "2"): {3, true, false},
		pair("b", "1"): {},
		pair("c", "1"): {4, true, true},
		pair("c", "9"): {6, true, false},
	})
	tab.Resize(34) // the newest one stays
	hold("one stays", map[api.Field]found{
		pair("a", "1"): {},
		pair("c", "1"): {6, true, false},
		pair("c", "3"): {6, true, true},
	})
	tab.Add(pair("c", "33")) // above the capacity
	hold("none stays", map[api.Field]found{
		pair("c", "33"): {},
		pair("c", "3"):  {},
	})
	tab.Add(pair("", ""))
	hold("empty texts", map[api.Field]found{
		pair("", ""):  {7, true, true},
		pair("", "x"): {7, true, false},
	})
}

func TestNewest(t *testing.T) { // P5.2
	tab := New(34 * 3)
	for i := range 10 {
		tab.Add(pair("n", strconv.Itoa(i)))
		for j := range 5 {
			want, stands := api.Field{}, j < min(3, i+1)
			if stands {
				want = pair("n", strconv.Itoa(i-j))
			}
			if f, ok := tab.Newest(uint64(j)); f != want || ok != stands {
				t.Errorf("behind %d: Newest(%d): %v %v", i, j, f, ok)
			}
		}
		for abs := range uint64(12) {
			want, stands := api.Field{}, abs <= uint64(i) && abs+3 > uint64(i)
			if stands {
				want = pair("n", strconv.Itoa(int(abs)))
			}
			if f, ok := tab.At(abs); f != want || ok != stands {
				t.Errorf("behind %d: At(%d): %v %v", i, abs, f, ok)
			}
		}
	}
	if f, ok := tab.At(math.MaxUint64); ok || f != (api.Field{}) {
		t.Errorf("At of the greatest: %v %v", f, ok)
	}
	if f, ok := tab.Newest(math.MaxUint64); ok || f != (api.Field{}) {
		t.Errorf("Newest of the greatest: %v %v", f, ok)
	}
}

func TestAsPlain(t *testing.T) { // P5.1, P5.2, P5.3
	rnd := rand.New(rand.NewSource(51))
	names, values := []string{"", "a", "b", "ab", "long-name"}, []string{"", "a", "b", "1", strings.Repeat("v", 30), strings.Repeat("w", 300)}
	var all []api.Field
	for _, n := range names {
		for _, v := range append(values, "?") {
			all = append(all, pair(n, v))
		}
	}
	for round := range 300 {
		capacity := rnd.Intn(400) - 20
		tab, p := New(capacity), &plain{capacity: max(capacity, 0)}
		for step := range 40 {
			at := strconv.Itoa(round) + "." + strconv.Itoa(step)
			got, want := 0, 0
			if rnd.Intn(6) == 0 {
				n := rnd.Intn(400) - 20
				got, want = tab.Resize(n), p.resize(n)
			} else {
				f := pair(names[rnd.Intn(len(names))], values[rnd.Intn(len(values))])
				got, want = tab.Add(f), p.add(f)
			}
			if got != want {
				t.Fatalf("%s: %d went, not %d", at, got, want)
			}
			compare(t, at, tab, p, all)
		}
	}
}

func TestNeverAbove(t *testing.T) { // P5.3
	for capacity := range 140 {
		tab := New(capacity)
		for i := range 200 {
			tab.Add(pair(strings.Repeat("n", i%7), strings.Repeat("v", i*i%61)))
			if tab.Size() > capacity || tab.Len() > capacity/32 {
				t.Fatalf("%d stand in %d: %d of size", tab.Len(), capacity, tab.Size())
			}
		}
		for n := capacity; n >= -1; n-- {
			tab.Resize(n)
			if tab.Size() > max(n, 0) || tab.Len() > max(n, 0)/32 {
				t.Fatalf("%d stand in %d behind Resize: %d of size", tab.Len(), n, tab.Size())
			}
		}
		if tab.Len() != 0 || tab.Size() != 0 {
			t.Fatalf("%d stand in nothing", tab.Len())
		}
	}
}

func TestHandedIn(t *testing.T) { // DOC's rule 3
	room := []api.Field{pair("a", "1"), pair("b", "2"), pair("spare", "s")}
	was := slices.Clone(room)
	tab := New(4096)
	tab.Add(room[:2]...)
	if !slices.Equal(room, was) {
		t.Errorf("Add changed what was handed in: %v", room)
	}
	room[0], room[1] = pair("x", "x"), pair("y", "y")
	for i, want := range was[:2] {
		if f, ok := tab.At(uint64(i)); !ok || f != want {
			t.Errorf("At(%d) behind a change of the list: %v %v", i, f, ok)
		}
	}
	// A text whose bytes are changed behind its back tells whether it was kept.
	b := []byte("namevalue")
	s := unsafe.String(&b[0], len(b))
	tab.Add(pair(s[:4], s[4:]))
	copy(b, "XXXXXXXXX")
	if f, ok := tab.At(2); !ok || f != pair("name", "value") {
		t.Errorf("At(2) behind a change of the text: %v %v", f, ok)
	}
	if abs, name, whole := tab.Find(pair("name", "value")); abs != 2 || !name || !whole {
		t.Errorf("Find behind a change of the text: %d %v %v", abs, name, whole)
	}
}

func TestApart(t *testing.T) { // DOC's rule 8
	x, y := New(100), New(100)
	x.Add(pair("a", "1"))
	if _, ok := y.At(0); ok || y.Len() != 0 || y.Count() != 0 || y.Size() != 0 {
		t.Error("one table knows of another")
	}
	if _, ok, _ := y.Find(pair("a", "1")); ok {
		t.Error("one table finds what is in another")
	}
}

func TestLong(t *testing.T) { // P5.1, P5.2: numbers go on beyond what stands
	tab := New(api.MaxTable)
	want := 0
	for i := range 100000 {
		went := tab.Add(pair("key", strconv.Itoa(i)))
		want += 1 - went
	}
	if tab.Count() != 100000 || tab.Len() != want {
		t.Errorf("%d stand of %d, not %d", tab.Len(), tab.Count(), want)
	}
	for i := range tab.Len() {
		abs := uint64(99999 - i)
		f, ok := tab.At(abs)
		if got, name, whole := tab.Find(f); !ok || got != abs || !name || !whole {
			t.Fatalf("entry %d: %v, found at %d", abs, f, got)
		}
	}
	if len(tab.whole) != tab.Len() || len(tab.named) != 1 {
		t.Errorf("%d and %d are kept for %d", len(tab.whole), len(tab.named), tab.Len())
	}
}
