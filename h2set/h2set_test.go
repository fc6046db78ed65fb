package h2set

import (
	"math"
	"math/rand"
	"slices"
	"testing"

	"bifold/api"
)

func set(id, value uint64) api.Setting { return api.Setting{Id: id, Value: value} }

// some: settings of which each number is another one.
func some() Settings {
	return Settings{Table: 11, Push: 12, Streams: 13, Window: 14, Frame: 15, List: 16}
}

// becomes: Apply of l makes want of s.
func becomes(t *testing.T, s, want Settings, l ...api.Setting) {
	t.Helper()
	if got, e := Apply(s, l...); got != want || e != api.OK {
		t.Errorf("Apply(%v, %v): %v, %v, not %v", s, l, got, e, want)
	}
}

// fails: Apply of l is that error, and nothing else: none of l counts.
func fails(t *testing.T, want api.Errno, l ...api.Setting) {
	t.Helper()
	for _, s := range []Settings{{}, Default(), some()} {
		if got, e := Apply(s, l...); got != (Settings{}) || e != want {
			t.Errorf("Apply(%v, %v): %v, %v, not %v", s, l, got, e, want)
		}
	}
}

func TestDefault(t *testing.T) { // P13.1
	if s := Default(); s != (Settings{Table: 4096, Push: 1, Streams: 4294967295, Window: 65535, Frame: 16384, List: 4294967295}) {
		t.Errorf("%v", s)
	}
}

func TestEachId(t *testing.T) { // P13.1
	values := []uint64{0, 1, 2, 4096, 4097, 16383, 16384, 16385, 1<<24 - 1, 1 << 24, 1<<31 - 1, 1 << 31, 1<<32 - 1, 1 << 32, math.MaxUint64}
	for _, v := range values {
		s := some()
		s.Table = v
		becomes(t, some(), s, set(1, v))
		s = some()
		s.Streams = v
		becomes(t, some(), s, set(3, v))
		s = some()
		s.List = v
		becomes(t, some(), s, set(6, v))

		s = some()
		if s.Push = v; v <= 1 {
			becomes(t, some(), s, set(2, v))
		} else {
			fails(t, api.ErrSet, set(2, v))
		}
		s = some()
		if s.Window = v; v <= 2147483647 {
			becomes(t, some(), s, set(4, v))
		} else {
			fails(t, api.ErrFlow, set(4, v))
		}
		s = some()
		if s.Frame = v; 16384 <= v && v <= 16777215 {
			becomes(t, some(), s, set(5, v))
		} else {
			fails(t, api.ErrSet, set(5, v))
		}
	}
}

func TestExample(t *testing.T) { // P13.1
	fails(t, api.ErrFlow, set(4, 1<<31))
}

func TestOtherIds(t *testing.T) { // P13.1
	for _, id := range []uint64{0, 7, 8, 9, 255, 256, 257, 1<<16 + 2, 1<<32 + 2, 1<<32 + 5, 1<<63 + 4, math.MaxUint64} {
		for _, v := range []uint64{0, 1, 2, 1 << 31, math.MaxUint64} {
			becomes(t, some(), some(), set(id, v))
			s := some()
			s.Push = 1
			becomes(t, some(), s, set(id, v), set(2, 1), set(id, v))
		}
	}
}

func TestOneByOne(t *testing.T) { // P13.1
	becomes(t, some(), some())
	becomes(t, Settings{}, Settings{})
	becomes(t, some(), Settings{Table: 1, Push: 0, Streams: 3, Window: 4, Frame: 20000, List: 6}, set(6, 6), set(5, 20000), set(4, 4), set(3, 3), set(2, 0), set(1, 1))
	s := some()
	s.Table = 7
	becomes(t, some(), s, set(1, 5), set(1, 6), set(1, 7)) // the last one stands
	s.Push, s.Window = 1, 0
	becomes(t, some(), s, set(2, 0), set(4, 9), set(1, 7), set(2, 1), set(4, 0))
}

func TestFirstWrongOne(t *testing.T) { // P13.1
	push, frame, window := set(2, 2), set(5, 16383), set(4, 1<<31)
	for _, x := range []struct {
		want api.Errno
		l    []api.Setting
	}{
		{api.ErrSet, []api.Setting{push, window}},
		{api.ErrFlow, []api.Setting{window, push}},
		{api.ErrSet, []api.Setting{frame, window}},
		{api.ErrFlow, []api.Setting{window, frame}},
		{api.ErrSet, []api.Setting{push, frame, window}},
		{api.ErrFlow, []api.Setting{set(1, 5), set(2, 1), window, set(4, 4), push}},
		{api.ErrSet, []api.Setting{set(4, 4), frame, set(5, 16384)}}, // what comes behind mends nothing
		{api.ErrFlow, []api.Setting{window, set(4, 4)}},
	} {
		fails(t, x.want, x.l...)
	}
}

func TestDiff(t *testing.T) { // P13.1
	a := some()
	for _, x := range []struct {
		b    Settings
		want []api.Setting
	}{
		{a, nil},
		{Settings{Table: 1, Push: 12, Streams: 13, Window: 14, Frame: 15, List: 16}, []api.Setting{set(1, 1)}},
		{Settings{Table: 11, Push: 2, Streams: 13, Window: 14, Frame: 15, List: 16}, []api.Setting{set(2, 2)}},
		{Settings{Table: 11, Push: 12, Streams: 3, Window: 14, Frame: 15, List: 16}, []api.Setting{set(3, 3)}},
		{Settings{Table: 11, Push: 12, Streams: 13, Window: 4, Frame: 15, List: 16}, []api.Setting{set(4, 4)}},
		{Settings{Table: 11, Push: 12, Streams: 13, Window: 14, Frame: 5, List: 16}, []api.Setting{set(5, 5)}},
		{Settings{Table: 11, Push: 12, Streams: 13, Window: 14, Frame: 15, List: 6}, []api.Setting{set(6, 6)}},
		{Settings{}, []api.Setting{set(1, 0), set(2, 0), set(3, 0), set(4, 0), set(5, 0), set(6, 0)}},
		{Settings{Table: 12, Push: 12, Streams: 12, Window: 12, Frame: 12, List: 12}, []api.Setting{set(1, 12), set(3, 12), set(4, 12), set(5, 12), set(6, 12)}},
		{Settings{Table: math.MaxUint64, Push: 12, Streams: 13, Window: 14, Frame: 15, List: 1 << 32}, []api.Setting{set(1, math.MaxUint64), set(6, 1<<32)}},
	} {
		if l := Diff(a, x.b); !slices.Equal(l, x.want) {
			t.Errorf("Diff(%v, %v): %v, not %v", a, x.b, l, x.want)
		}
	}
}

func TestApplyOfDiff(t *testing.T) { // P13.2
	r := rand.New(rand.NewSource(13))
	edges := []uint64{0, 1, 2, 4096, 16383, 16384, 65535, 1<<24 - 1, 1 << 24, 1<<31 - 1, 1 << 31, 1<<32 - 1, math.MaxUint64}
	any := func() uint64 { return edges[r.Intn(len(edges))] }
	seen := map[api.Errno]int{}
	for range 20000 {
		a := Settings{any(), any(), any(), any(), any(), any()}
		b := Settings{any(), any(), any(), any(), any(), any()}
		want, e := b, api.OK
		switch { // b may not be, and a isn't alike: Ids come in order, and the first that is wrong says which
		case a.Push != b.Push && b.Push > 1:
			want, e = Settings{}, api.ErrSet
		case a.Window != b.Window && b.Window > 1<<31-1:
			want, e = Settings{}, api.ErrFlow
		case a.Frame != b.Frame && (b.Frame < 16384 || b.Frame > 1<<24-1):
			want, e = Settings{}, api.ErrSet
		}
		seen[e]++
		if got, ge := Apply(a, Diff(a, b)...); got != want || ge != e {
			t.Fatalf("Apply(%v, Diff of %v): %v, %v, not %v, %v", a, b, got, ge, want, e)
		}
	}
	if seen[api.OK] < 100 || seen[api.ErrSet] < 100 || seen[api.ErrFlow] < 100 {
		t.Errorf("too few of a kind: %v", seen)
	}
}

func TestHandedIn(t *testing.T) { // DOC's rule 3
	l := []api.Setting{set(1, 5), set(9, 9), set(3, 7), set(2, 7)}
	was := slices.Clone(l)
	Apply(some(), l[:3]...)
	Apply(some(), l...)
	if !slices.Equal(l, was) {
		t.Errorf("Apply changed what was handed in: %v", l)
	}
	a, b := Diff(some(), Settings{}), Diff(some(), Settings{})
	clear(a)
	if !slices.Equal(b, Diff(some(), Settings{})) {
		t.Errorf("two answers of Diff share: %v", b)
	}
}
