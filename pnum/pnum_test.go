package pnum

import (
	"math"
	"math/big"
	"math/rand"
	"testing"

	"bifold/api"
)

func TestLen(t *testing.T) { // P17.1
	for _, x := range []struct {
		pn    uint64
		acked int64
		want  int
	}{
		{0xac5c02, 0xabe8b3, 2}, // RFC 9000's (A.2)
		{0xace8fe, 0xabe8b3, 3}, // and its other one
		{0, -1, 1},
		{126, -1, 1}, // 127 numbers
		{127, -1, 2}, // 128 numbers
		{1<<15 - 2, -1, 2},
		{1<<15 - 1, -1, 3},
		{1<<23 - 2, -1, 3},
		{1<<23 - 1, -1, 4},
		{127, 0, 1},
		{128, 0, 2},
		{1<<15 - 1, 0, 2},
		{1 << 15, 0, 3},
		{1<<23 - 1, 0, 3},
		{1 << 23, 0, 4},
		{1<<31 - 1, 0, 4},
		{1 << 31, 0, 4}, // else 4
		{1 << 62, 0, 4},
		{126, -2, 1}, // below 0: -1
		{127, -2, 2},
		{126, math.MinInt64, 1},
		{127, math.MinInt64, 2},
		{1000 + 127, 1000, 1},
		{1000 + 128, 1000, 2},
		{1000, 1000, 1}, // below 1: 1
		{999, 1000, 1},
		{0, 0, 1},
		{0, 1 << 40, 1},
		{0, math.MaxInt64, 1},
		{1 << 63, math.MaxInt64, 1},
		{math.MaxInt64, math.MaxInt64, 1},
		{math.MaxInt64 + 127, math.MaxInt64, 1},
		{math.MaxInt64 + 128, math.MaxInt64, 2},
		{api.MaxVar, api.MaxVar - 127, 1},
		{api.MaxVar, api.MaxVar - 128, 2},
		{math.MaxUint64, -1, 4},
		{math.MaxUint64, 0, 4},
		{math.MaxUint64, math.MaxInt64, 4},
		{math.MaxUint64, math.MinInt64, 4},
	} {
		if n := Len(x.pn, x.acked); n != x.want {
			t.Errorf("Len(%d, %d): %d, not %d", x.pn, x.acked, n, x.want)
		}
	}
}

// plainLen: what Len is to answer, in numbers that have no end.
func plainLen(pn uint64, acked int64) int {
	between := new(big.Int).SetUint64(pn)
	between.Sub(between, big.NewInt(max(acked, -1)))
	if between.Sign() <= 0 {
		between = big.NewInt(1)
	}
	for n := 1; n < 4; n++ {
		if new(big.Int).Lsh(big.NewInt(1), uint(8*n-1)).Cmp(between) > 0 {
			return n
		}
	}
	return 4
}

func TestLenOfAny(t *testing.T) { // P17.1
	r := rand.New(rand.NewSource(17))
	for range 100000 {
		pn := r.Uint64() >> r.Intn(64)
		acked := int64(pn) - r.Int63()>>r.Intn(63) + int64(r.Intn(3)) - 1
		if got, want := Len(pn, acked), plainLen(pn, acked); got != want {
			t.Fatalf("Len(%d, %d): %d, not %d", pn, acked, got, want)
		}
	}
}

func TestCut(t *testing.T) { // P17.1
	for _, x := range []struct {
		pn   uint64
		n    int
		want uint64
	}{
		{0xa82f9b32, 1, 0x32},
		{0xa82f9b32, 2, 0x9b32},
		{0xa82f9b32, 3, 0x2f9b32},
		{0xa82f9b32, 4, 0xa82f9b32},
		{0x0102030405060708, 4, 0x05060708},
		{0x0102030405060708, 5, 0x05060708}, // above 4 as 4
		{0x0102030405060708, 8, 0x05060708},
		{0x0102030405060708, math.MaxInt, 0x05060708},
		{0x0102030405060708, 0, 0x08}, // below 1 as 1
		{0x0102030405060708, -1, 0x08},
		{0x0102030405060708, math.MinInt, 0x08},
		{math.MaxUint64, 1, 0xff},
		{math.MaxUint64, 2, 0xffff},
		{math.MaxUint64, 3, 0xffffff},
		{math.MaxUint64, 4, 0xffffffff},
		{0x100, 1, 0},
		{0, 4, 0},
	} {
		if got := Cut(x.pn, x.n); got != x.want {
			t.Errorf("Cut(%x, %d): %x, not %x", x.pn, x.n, got, x.want)
		}
	}
}

func TestFull(t *testing.T) { // P17.1
	for _, x := range []struct {
		cut     uint64
		n       int
		largest int64
		want    uint64
	}{
		{0x9b32, 2, 0xa82f30ea, 0xa82f9b32}, // the chapter's, and RFC 9000's (A.3)
		{0, 1, -1, 0},
		{255, 1, -1, 255}, // nothing lies below it
		{128, 1, -1, 128},
		{129, 1, -1, 129},
		{255, 1, math.MinInt64, 255}, // below 0: -1
		{0, 1, -2, 0},
		{0xff, 1, 126, 0xff}, // 127 is expected: 128 above it
		{0, 1, 126, 0},
		{0xff, 1, 127, 0xff},
		{0, 1, 127, 256},     // as far from 128 as 0 is: the greater one
		{1, 1, 127, 1},       // one nearer
		{0, 1, 0x3ff, 0x400}, // it is expected
		{0x80, 1, 0x3ff, 0x480},
		{0x81, 1, 0x3ff, 0x381},
		{0xff, 1, 0x3ff, 0x3ff},
		{0x7f, 1, 0x47e, 0x47f},
		{0xff, 1, 0x47e, 0x4ff}, // 128 above 0x47f
		{0x00, 1, 0x47f, 0x500}, // 128 above 0x480
		{0x01, 1, 0x47f, 0x401},
		{0x8000, 2, 0x4ffff, 0x58000},
		{0x8001, 2, 0x4ffff, 0x48001},
		{0x800000, 3, 0x4ffffff, 0x5800000},
		{0x800001, 3, 0x4ffffff, 0x4800001},
		{0x80000000, 4, 0x4ffffffff, 0x580000000},
		{0x80000001, 4, 0x4ffffffff, 0x480000001},
		{0xabcd32, 1, 0x30, 0x32},         // its lowest byte alone
		{0xabcd9b32, 2, 0x130, 0x9b32},    // its lowest two
		{0xabcd9b32, 0, 0x30, 0x32},       // below 1 as 1
		{0xabcd9b32, -7, 0x30, 0x32},      //
		{1<<40 | 5, 5, 3, 5},              // above 4 as 4
		{1<<40 | 5, math.MaxInt, 3, 5},    //
		{math.MaxUint64, 1, 0x47e, 0x4ff}, // all bits
		{math.MaxUint64, 4, -1, 1<<32 - 1},
		{0xff, 1, api.MaxVar - 1, api.MaxVar}, // the greatest, expected
		{0x7f, 1, api.MaxVar - 1, api.MaxVar - 128},
		{0x00, 1, api.MaxVar - 1, api.MaxVar - 255}, // above it there is none
		{0x00, 1, api.MaxVar - 256, api.MaxVar - 255},
		{0x00, 1, api.MaxVar - 128, api.MaxVar - 255},
		{0x00, 4, api.MaxVar - 1, api.MaxVar - (1<<32 - 1)},
		{0x00, 1, api.MaxVar - 384, api.MaxVar - 255}, // 128 above, and 128 below
		{0x00, 1, api.MaxVar - 383, api.MaxVar - 255},
		{0x00, 1, api.MaxVar - 385, api.MaxVar - 511},
		{0x00, 1, api.MaxVar, 1 << 62}, // what is expected itself, as the RFC's lines have it
		{0x80, 1, api.MaxVar, 1<<62 + 128},
		{0x81, 1, api.MaxVar, api.MaxVar - 126},
		{0xff, 1, api.MaxVar, api.MaxVar},
		{0xff, 1, api.MaxVar + 1, api.MaxVar}, // above MaxVar: it
		{0x80, 1, math.MaxInt64, 1<<62 + 128},
		{0xff, 1, math.MaxInt64, api.MaxVar},
	} {
		if got := Full(x.cut, x.n, x.largest); got != x.want {
			t.Errorf("Full(%x, %d, %x): %x, not %x", x.cut, x.n, x.largest, got, x.want)
		}
	}
}

// nearest: of the numbers 0 to MaxVar that end in cut, the one that is next to expected; of two the greater one.
func nearest(cut uint64, n int, expected uint64) uint64 {
	window := uint64(1) << (8 * n)
	best, far := uint64(0), uint64(math.MaxUint64)
	first := expected/window*window + cut%window
	for _, x := range []uint64{first - window, first, first + window} {
		if x > api.MaxVar {
			continue
		}
		if d := max(x, expected) - min(x, expected); d < far || d == far && x > best {
			best, far = x, d
		}
	}
	return best
}

func TestFullIsTheNext(t *testing.T) { // P17.1
	r := rand.New(rand.NewSource(3))
	for range 200000 {
		n := 1 + r.Intn(4)
		largest := r.Int63() >> (1 + r.Intn(62))
		if r.Intn(3) == 0 {
			largest = api.MaxVar - 1 - largest
		}
		cut := r.Uint64()
		if r.Intn(2) == 0 { // about half a window away
			cut = uint64(largest) + 1<<(8*n-1) + uint64(r.Intn(5)) - 2
		}
		if got, want := Full(cut, n, largest), nearest(cut, n, uint64(largest)+1); got != want {
			t.Fatalf("Full(%x, %d, %x): %x, not %x", cut, n, largest, got, want)
		}
	}
}

// rfc: RFC 9000's lines (A.3), one by one.
func rfc(cut uint64, n int, largest int64) uint64 {
	expected := largest + 1
	win := int64(1) << (8 * n)
	hwin := win / 2
	mask := win - 1
	candidate := (expected &^ mask) | int64(cut)
	if candidate <= expected-hwin && candidate < 1<<62-win {
		return uint64(candidate + win)
	}
	if candidate > expected+hwin && candidate >= win {
		return uint64(candidate - win)
	}
	return uint64(candidate)
}

func TestFullIsTheRfcs(t *testing.T) { // P17.1
	r := rand.New(rand.NewSource(4))
	for range 200000 {
		n := 1 + r.Intn(4)
		cut := uint64(r.Int63n(1 << (8 * n)))
		var largest int64
		switch r.Intn(3) {
		case 0:
			largest = r.Int63n(1<<(8*n+2)) - 1
		case 1:
			largest = api.MaxVar - r.Int63n(1<<(8*n+2))
		case 2:
			largest = r.Int63() >> 1
		}
		if got, want := Full(cut, n, largest), rfc(cut, n, largest); got != want {
			t.Fatalf("Full(%x, %d, %x): %x, not %x", cut, n, largest, got, want)
		}
	}
}

func TestBackAgain(t *testing.T) { // P17.2
	r := rand.New(rand.NewSource(5))
	for range 100000 {
		n := 1 + r.Intn(4)
		half := int64(1) << (8*n - 1)
		largest := r.Int63()>>(1+r.Intn(62)) - 1
		for _, away := range []int64{0, 1, -1, half, half - 1, 1 - half, r.Int63n(2*half) - half + 1} {
			pn := largest + 1 + away
			if pn < 0 || pn > api.MaxVar {
				continue
			}
			if got := Full(Cut(uint64(pn), n), n, largest); got != uint64(pn) {
				t.Fatalf("%x cut to %d bytes, behind %x: %x", pn, n, largest, got)
			}
		}
		if pn := largest + 1 - half; pn >= 0 && largest+1+half <= api.MaxVar && Full(Cut(uint64(pn), n), n, largest) == uint64(pn) {
			t.Fatalf("%x cut to %d bytes, behind %x, is half a window below and told all the same", pn, n, largest)
		}
	}
}

func TestEnough(t *testing.T) { // P17.2
	r := rand.New(rand.NewSource(6))
	for range 100000 {
		acked := r.Int63()>>(1+r.Intn(62)) - 1
		pn := min(acked+1+r.Int63n(1<<(1+r.Intn(31))), api.MaxVar)
		if pn <= acked {
			continue
		}
		n := Len(uint64(pn), acked)
		for _, largest := range []int64{acked, pn - 1, acked + r.Int63n(pn-acked)} {
			if got := Full(Cut(uint64(pn), n), n, largest); got != uint64(pn) {
				t.Fatalf("%x, where %x was acknowledged and %x came, in %d bytes: %x", pn, acked, largest, n, got)
			}
		}
	}
}
