package qtab

import (
	"math"
	"math/rand"
	"strings"
	"testing"

	"bifold/api"
)

func TestEncodeCount(t *testing.T) { // P8.1
	for _, x := range []struct {
		count    uint64
		capacity int
		want     uint64
	}{
		{9, 100, 4}, // the RFC's example
		{1, 100, 2},
		{5, 100, 6},
		{6, 100, 1},
		{7, 100, 2},
		{2, 220, 3},
		{4, 220, 5},
		{127, 4096, 128},
		{255, 4096, 256},
		{256, 4096, 1},
		{257, 4096, 2},
		{math.MaxUint64, 4096, 256}, // 2^64 - 1 is 255 behind a multiple of 256
		{math.MaxUint64, 100, 4},    // and 3 behind one of 6

		// What is 0 of itself.
		{0, 0, 0}, {0, 31, 0}, {0, 32, 0}, {0, 4096, 0}, {0, math.MaxInt, 0}, {0, -1, 0},

		// No entry fits.
		{1, 31, 0}, {1, 1, 0}, {1, 0, 0}, {9, -1, 0}, {9, -32, 0}, {9, -100, 0}, {math.MaxUint64, math.MinInt, 0}, {math.MaxUint64, 0, 0},

		// The edges at which one more does.
		{1, 32, 2}, {2, 32, 1}, {2, 63, 1}, {2, 64, 3}, {3, 95, 4}, {3, 96, 4}, {4, 95, 1}, {4, 96, 5},

		{1 << 40, math.MaxInt, 1<<40 + 1},
		{1<<59 - 3, math.MaxInt, 1<<59 - 2}, // 2 most is 2^59 - 2
		{1<<59 - 2, math.MaxInt, 1},
	} {
		if got := EncodeCount(x.count, x.capacity); got != x.want {
			t.Errorf("EncodeCount(%d, %d): %d, not %d", x.count, x.capacity, got, x.want)
		}
	}
}

func TestDecodeCount(t *testing.T) { // P8.1
	for _, x := range []struct {
		enc, total uint64
		capacity   int
		want       uint64
		e          api.Errno
	}{
		{4, 10, 100, 9, api.OK}, // the RFC's example
		{3, 10, 100, 8, api.OK},
		{2, 10, 100, 13, api.OK}, // total and most: the last one of the window
		{3, 9, 100, 8, api.OK},
		{1, 10, 100, 12, api.OK},

		// 0 is 0, whatever else there is.
		{0, 10, 100, 0, api.OK}, {0, 0, 0, 0, api.OK}, {0, 0, -1, 0, api.OK}, {0, math.MaxUint64, math.MaxInt, 0, api.OK}, {0, 5, math.MinInt, 0, api.OK},

		// No entry fits.
		{1, 0, 0, 0, api.ErrTable}, {1, 10, 31, 0, api.ErrTable}, {4, 10, 0, 0, api.ErrTable}, {4, 10, -100, 0, api.ErrTable}, {math.MaxUint64, math.MaxUint64, math.MinInt, 0, api.ErrTable},

		// Above the full range.
		{6, 10, 100, 11, api.OK}, {7, 10, 100, 0, api.ErrTable}, {8, 10, 100, 0, api.ErrTable}, {math.MaxUint64, 10, 100, 0, api.ErrTable},
		{2, 10, 32, 11, api.OK}, {3, 10, 32, 0, api.ErrTable},
		{256, 0, 4096, 0, api.ErrTable}, {256, 127, 4096, 255, api.OK}, {257, 1000, 4096, 0, api.ErrTable},

		// Nothing has been inserted: up to most.
		{1, 0, 100, 0, api.ErrTable}, {2, 0, 100, 1, api.OK}, {4, 0, 100, 3, api.OK}, {5, 0, 100, 0, api.ErrTable}, {6, 0, 100, 0, api.ErrTable},
		// Below 0, or 0 itself, told by a rest.
		{1, 1, 100, 0, api.ErrTable}, {1, 2, 100, 0, api.ErrTable}, {1, 3, 100, 6, api.OK}, {6, 1, 100, 0, api.ErrTable}, {6, 2, 100, 5, api.OK},
		{2, 0, 32, 1, api.OK}, {1, 0, 32, 0, api.ErrTable}, {1, 1, 32, 2, api.OK}, {2, 1, 32, 1, api.OK},

		// The greatest totals: what would wrap is no count.
		{256, math.MaxUint64, 4096, math.MaxUint64, api.OK},
		{255, math.MaxUint64, 4096, math.MaxUint64 - 1, api.OK},
		{129, math.MaxUint64, 4096, math.MaxUint64 - 127, api.OK}, // most - 1 below
		{128, math.MaxUint64, 4096, 0, api.ErrTable},              // most above
		{1, math.MaxUint64, 4096, 0, api.ErrTable},                // 2^64
		{1, math.MaxUint64 - 127, 4096, 0, api.ErrTable},          // 2^64, the last one of the window
		{2, math.MaxUint64 - 127, 4096, math.MaxUint64 - 254, api.OK},
		{256, math.MaxUint64 - 127, 4096, math.MaxUint64, api.OK},
		{256, math.MaxUint64 - 128, 4096, math.MaxUint64, api.OK},
		{1, math.MaxUint64 - 128, 4096, math.MaxUint64 - 255, api.OK},
		{3, 0, math.MaxInt, 2, api.OK},
		{1 << 58, 0, math.MaxInt, 1<<58 - 1, api.OK}, // most
		{1<<58 + 1, 0, math.MaxInt, 0, api.ErrTable},
		{1<<59 - 2, 1, math.MaxInt, 0, api.ErrTable},
		{1<<59 - 1, 1 << 60, math.MaxInt, 0, api.ErrTable},
	} {
		if got, e := DecodeCount(x.enc, x.total, x.capacity); got != x.want || e != x.e {
			t.Errorf("DecodeCount(%d, %d, %d): %d, %v, not %d, %v", x.enc, x.total, x.capacity, got, e, x.want, x.e)
		}
	}
}

func TestPrefix(t *testing.T) { // P8.2
	for _, x := range []struct {
		count, base uint64
		capacity    int
		want        string
	}{
		// The RFC's examples (appendix B).
		{0, 0, 220, "\x00\x00"},
		{2, 0, 220, "\x03\x81"},
		{4, 4, 220, "\x05\x00"},

		{9, 9, 100, "\x04\x00"},
		{9, 6, 100, "\x04\x82"}, // the RFC's, of 4.5.1.2
		{9, 8, 100, "\x04\x80"},
		{9, 10, 100, "\x04\x01"},
		{9, 9 + 126, 100, "\x04\x7e"},
		{9, 9 + 127, 100, "\x04\x7f\x00"},
		{9, 9 + 127 + 128, 100, "\x04\x7f\x80\x01"},
		{200, 200 - 127, 100, "\x03\xfe"},
		{200, 200 - 128, 100, "\x03\xff\x00"},
		{200, 0, 100, "\x03\xff\x48"},
		{1, 0, 100, "\x02\x80"},
		{0, 5, 100, "\x00\x05"},
		{5, 3, 0, "\x00\x81"}, // no entry fits: 0 of 5
		{5, 7, -1, "\x00\x02"},
		{253, 253, 4096, "\xfe\x00"},
		{254, 254, 4096, "\xff\x00\x00"},
		{255, 255, 4096, "\xff\x01\x00"},
		{256, 256, 4096, "\x01\x00"},
		{1023, 1023, math.MaxInt, "\xff\x81\x06\x00"},
		{0, api.MaxVar, 100, "\x00\x7f\x80\xff\xff\xff\xff\xff\xff\xff\x3f"},
		{0, math.MaxUint64, 100, "\x00\x7f\x80\xff\xff\xff\xff\xff\xff\xff\xff\x01"},
		{math.MaxUint64, 0, 100, "\x04\xff\xff\xfe\xff\xff\xff\xff\xff\xff\xff\x01"},
		{math.MaxUint64, math.MaxUint64, 100, "\x04\x00"},
	} {
		if b := Prefix(nil, x.count, x.base, x.capacity); string(b) != x.want {
			t.Errorf("Prefix(nil, %d, %d, %d): %x, not %x", x.count, x.base, x.capacity, b, x.want)
		}
		if b := Prefix([]byte("ab"), x.count, x.base, x.capacity); string(b) != "ab"+x.want {
			t.Errorf("Prefix(ab, %d, %d, %d): %x, not %x", x.count, x.base, x.capacity, b, x.want)
		}
	}
}

// told: an answer of ReadPrefix.
type told struct {
	count, base uint64
	n           int
	e           api.Errno
}

func read(b string, total uint64, capacity int) told {
	count, base, n, e := ReadPrefix([]byte(b), total, capacity)
	return told{count, base, n, e}
}

func wrong(e api.Errno) told { return told{e: e} }

func TestReadPrefix(t *testing.T) { // P8.2
	const most62 = "\x7f\x80\xff\xff\xff\xff\xff\xff\xff\x3f"    // a delta of MaxVar, above
	const mostBelow = "\xff\x80\xff\xff\xff\xff\xff\xff\xff\x3f" // and below
	const full = "\xff\x80\xfe\xff\xff\xff\xff\xff\xff\x3f"      // MaxVar, as an EncodeCount
	for _, x := range []struct {
		b        string
		total    uint64
		capacity int
		want     told
	}{
		// The RFC's examples (appendix B).
		{"\x00\x00", 0, 220, told{0, 0, 2, api.OK}},
		{"\x03\x81\x10\x11", 2, 220, told{2, 0, 2, api.OK}},
		{"\x05\x00\x80\xc1\x81", 4, 220, told{4, 4, 2, api.OK}},

		{"\x04\x00", 10, 100, told{9, 9, 2, api.OK}},
		{"\x04\x82", 10, 100, told{9, 6, 2, api.OK}},
		{"\x04\x7f\x00\x7f", 10, 100, told{9, 9 + 127, 3, api.OK}},
		{"\x04\x7f\x80\x01", 10, 100, told{9, 9 + 127 + 128, 4, api.OK}},
		{"\x04\x02", 10, 100, told{9, 11, 2, api.OK}},
		{"\x00\x05", 0, 0, told{0, 5, 2, api.OK}},
		{"\x00\x7f\x80\x00", 0, 0, told{0, 127, 4, api.OK}}, // not the fewest bytes
		{"\xff\x80\x00\x00", 254, 4096, told{254, 254, 4, api.OK}},
		{"\xff\x00\x00", 254, 4096, told{254, 254, 3, api.OK}},
		{"\x02\x00", 10, 100, told{13, 13, 2, api.OK}}, // entries that haven't come yet
		{"\x00\x00", math.MaxUint64, math.MaxInt, told{0, 0, 2, api.OK}},

		// num's errors.
		{"", 10, 100, wrong(api.ErrMore)},
		{"\x04", 10, 100, wrong(api.ErrMore)},
		{"\x04\x7f", 10, 100, wrong(api.ErrMore)},
		{"\x04\xff\x80", 10, 100, wrong(api.ErrMore)},
		{"\xff", 254, 4096, wrong(api.ErrMore)},
		{"\xff\x80", 254, 4096, wrong(api.ErrMore)},
		{"\xff\x00", 254, 4096, wrong(api.ErrMore)},
		{strings.Repeat("\xff", 12), 10, 100, wrong(api.ErrNum)},
		{"\x04" + strings.Repeat("\xff", 11), 10, 100, wrong(api.ErrNum)},
		{"\x04\x7f\x81\xff\xff\xff\xff\xff\xff\xff\x3f", 10, 100, wrong(api.ErrNum)}, // MaxVar + 1
		{"\xff\x81\xfe\xff\xff\xff\xff\xff\xff\x3f\x00", 10, 100, wrong(api.ErrNum)},

		// DecodeCount's.
		{"\x07\x00", 10, 100, wrong(api.ErrTable)},
		{"\x01\x00", 0, 100, wrong(api.ErrTable)},
		{"\x01\x00", 10, 31, wrong(api.ErrTable)},
		{"\x04\x00", 10, -1, wrong(api.ErrTable)},
		{full + "\x00", 10, math.MaxInt, wrong(api.ErrTable)},
		{"\x01\x00", math.MaxUint64, 4096, wrong(api.ErrTable)},

		// num's of the delta come ahead of DecodeCount's.
		{"\x07", 10, 100, wrong(api.ErrMore)},
		{"\x07\x7f", 10, 100, wrong(api.ErrMore)},
		{"\x01\xff\x80", 10, 0, wrong(api.ErrMore)},
		{"\x07" + strings.Repeat("\xff", 11), 10, 100, wrong(api.ErrNum)},

		// A base below 0.
		{"\x04\x88", 10, 100, told{9, 0, 2, api.OK}},
		{"\x04\x89", 10, 100, wrong(api.ErrTable)},
		{"\x04\x8a", 10, 100, wrong(api.ErrTable)},
		{"\x04" + mostBelow, 10, 100, wrong(api.ErrTable)},
		{"\x00\x80", 10, 100, wrong(api.ErrTable)},
		{"\x00\x81", 0, 0, wrong(api.ErrTable)},
		{"\x00" + mostBelow, 0, 0, wrong(api.ErrTable)},

		// One above MaxVar.
		{"\x00" + most62, 0, 0, told{0, api.MaxVar, 11, api.OK}},
		{"\x02" + most62, 0, 100, wrong(api.ErrTable)}, // 1 and MaxVar
		{"\x02\x7f\xff\xfe\xff\xff\xff\xff\xff\xff\x3f", 0, 100, told{1, api.MaxVar, 11, api.OK}},
		{"\x81\x00", api.MaxVar + 1, 4096, wrong(api.ErrTable)}, // a count of MaxVar and 129
		{"\x01\x00", api.MaxVar + 1, 4096, wrong(api.ErrTable)},
		{"\x01\x80", api.MaxVar + 1, 4096, told{api.MaxVar + 1, api.MaxVar, 2, api.OK}},
		{"\x02\x80", api.MaxVar + 1, 4096, wrong(api.ErrTable)},
		{"\x02\x81", api.MaxVar + 1, 4096, told{api.MaxVar + 2, api.MaxVar, 2, api.OK}},
		{"\xff\x01\x00", api.MaxVar, 4096, told{api.MaxVar, api.MaxVar, 3, api.OK}},
		{"\xff\x01\x01", api.MaxVar, 4096, wrong(api.ErrTable)},
		{"\xff\x01" + most62, math.MaxUint64, 4096, wrong(api.ErrTable)}, // which would wrap
		{"\xff\x01" + mostBelow, math.MaxUint64, 4096, wrong(api.ErrTable)},
		{"\xff\x01\x80", math.MaxUint64, 4096, wrong(api.ErrTable)},
	} {
		if got := read(x.b, x.total, x.capacity); got != x.want {
			t.Errorf("ReadPrefix(%x, %d, %d): %v, not %v", x.b, x.total, x.capacity, got, x.want)
		}
		if x.want.e != api.ErrMore {
			if got := read(x.b+"\xff\x01", x.total, x.capacity); got != x.want {
				t.Errorf("ReadPrefix(%x .., %d, %d): %v, not %v", x.b, x.total, x.capacity, got, x.want)
			}
		}
	}
}

func TestReadPrefixCut(t *testing.T) { // P8.2
	whole := Prefix(nil, 1023, 1<<40, math.MaxInt)
	for n := range whole {
		if got := read(string(whole[:n]), 1000, math.MaxInt); got != wrong(api.ErrMore) {
			t.Errorf("ReadPrefix(%x): %v", whole[:n], got)
		}
		// What stands in the spare room isn't b's.
		if count, base, took, e := ReadPrefix(whole[:n], 1000, math.MaxInt); count != 0 || base != 0 || took != 0 || e != api.ErrMore {
			t.Errorf("ReadPrefix of spare room: %d, %d, %d, %v", count, base, took, e)
		}
	}
	if got := read(string(whole), 1000, math.MaxInt); got != (told{1023, 1 << 40, len(whole), api.OK}) {
		t.Errorf("ReadPrefix(%x): %v", whole, got)
	}
}

func TestRelative(t *testing.T) { // P8.3
	for _, x := range []struct {
		base, i, want uint64
		ok            bool
	}{
		{0, 0, 0, false},
		{0, 1, 0, false},
		{0, math.MaxUint64, 0, false},
		{1, 0, 0, true},
		{1, 1, 0, false},
		{9, 0, 8, true},
		{9, 3, 5, true},
		{9, 8, 0, true},
		{9, 9, 0, false},
		{9, 10, 0, false},
		{9, math.MaxUint64, 0, false},
		{api.MaxVar, 0, api.MaxVar - 1, true},
		{api.MaxVar, api.MaxVar - 1, 0, true},
		{api.MaxVar, api.MaxVar, 0, false},
		{math.MaxUint64, 0, math.MaxUint64 - 1, true}, // no limit but 0 is asked
		{math.MaxUint64, math.MaxUint64 - 1, 0, true},
		{math.MaxUint64, math.MaxUint64, 0, false},
	} {
		if got, ok := Relative(x.base, x.i); got != x.want || ok != x.ok {
			t.Errorf("Relative(%d, %d): %d, %v", x.base, x.i, got, ok)
		}
	}
}

func TestPost(t *testing.T) { // P8.3
	for _, x := range []struct {
		base, i, want uint64
		ok            bool
	}{
		{0, 0, 0, true},
		{9, 0, 9, true},
		{9, 3, 12, true},
		{0, 7, 7, true},
		{api.MaxVar, 0, api.MaxVar, true},
		{0, api.MaxVar, api.MaxVar, true},
		{1 << 61, 1<<61 - 1, api.MaxVar, true},
		{1 << 61, 1 << 61, 0, false},
		{api.MaxVar, 1, 0, false},
		{1, api.MaxVar, 0, false},
		{api.MaxVar + 1, 0, 0, false},
		{0, api.MaxVar + 1, 0, false},
		{math.MaxUint64, 0, 0, false},
		{math.MaxUint64, 1, 0, false}, // 0, if it wrapped
		{1, math.MaxUint64, 0, false},
		{math.MaxUint64, 10, 0, false},
		{1 << 63, 1 << 63, 0, false},
		{math.MaxUint64, math.MaxUint64, 0, false},
	} {
		if got, ok := Post(x.base, x.i); got != x.want || ok != x.ok {
			t.Errorf("Post(%d, %d): %d, %v", x.base, x.i, got, ok)
		}
	}
}

func TestPlacesFromTheBase(t *testing.T) { // P8.3: relative places go down from the base, post ones up from it
	for base := range uint64(20) {
		for i := range uint64(20) {
			down, ok := Relative(base, i)
			if ok != (i < base) || ok && down+i+1 != base {
				t.Errorf("Relative(%d, %d): %d, %v", base, i, down, ok)
			}
			up, ok := Post(base, i)
			if !ok || up-i != base {
				t.Errorf("Post(%d, %d): %d, %v", base, i, up, ok)
			}
		}
	}
}

func TestWindow(t *testing.T) { // P8.4
	for _, capacity := range []int{0, 31, 32, 63, 64, 100, 220, 1000, 4096} {
		most := uint64(capacity / 32)
		for _, total := range []uint64{0, 1, 2, 3, 5, 6, 7, 31, 127, 128, 129, 1000, api.MaxVar, math.MaxUint64 - 2000} {
			for d := range 6*most + 6 {
				count := total + d - min(total, 3*most+3)
				got, e := DecodeCount(EncodeCount(count, capacity), total, capacity)
				fits := count > 0 && count+most > total && count <= total+most
				if fits && (got != count || e != api.OK) {
					t.Fatalf("%d of %d in %d: told as %d, %v", count, total, capacity, got, e)
				}
				if !fits && count > 0 && got == count {
					t.Fatalf("%d of %d in %d is beyond the window: told", count, total, capacity)
				}
			}
		}
	}
}

func TestReadBack(t *testing.T) { // P8.2, P8.4
	rnd := rand.New(rand.NewSource(84))
	for range 20000 {
		capacity := rnd.Intn(api.MaxTable + 1)
		most := uint64(capacity / 32)
		total := rnd.Uint64() >> (2 + rnd.Intn(61))
		count := total + most - min(total+most, uint64(rnd.Intn(2*int(most)+1)))
		if count+most <= total || most == 0 {
			count = 0
		}
		base := count
		switch rnd.Intn(3) {
		case 0:
			base += min(rnd.Uint64()>>(2+rnd.Intn(61)), api.MaxVar-min(count, api.MaxVar))
		case 1:
			base -= min(rnd.Uint64()>>rnd.Intn(64), count)
		}
		if base > api.MaxVar {
			continue
		}
		b := Prefix(nil, count, base, capacity)
		if got := read(string(b)+"behind", total, capacity); got != (told{count, base, len(b), api.OK}) {
			t.Fatalf("Prefix(nil, %d, %d, %d): %x: read as %v of %d", count, base, capacity, b, got, total)
		}
	}
}

func TestHandedIn(t *testing.T) { // P8.2, DOC's rule 3
	for _, x := range []struct{ count, base uint64 }{{0, 0}, {9, 6}, {9, 1 << 40}, {1 << 50, 3}} {
		room := []byte("ahead, and spare room enough")
		b := Prefix(room[:5], x.count, x.base, math.MaxInt)
		if string(room) != "ahead, and spare room enough" {
			t.Errorf("Prefix changed what was handed in: %q", room)
		}
		want := string(b)
		clear(room)
		if string(b) != want {
			t.Errorf("Prefix's answer changed with what was handed in: %q", b)
		}
	}
	all := []byte("\x04\x7f\x80\x01behind")
	ReadPrefix(all[:4], 10, 100)
	if string(all) != "\x04\x7f\x80\x01behind" {
		t.Errorf("ReadPrefix changed what was handed in: %q", all)
	}
}
