package num

import (
	"bytes"
	"math"
	"math/big"
	"math/rand"
	"testing"

	"bifold/api"
)

// edges: numbers at which some encoding changes its length, and those beside them.
func edges() []uint64 {
	l := []uint64{0, 1, 10, 37, 42, 1337, 15293, 494878333, 151288809941952652, math.MaxUint64}
	for k := 1; k < 64; k++ {
		p := uint64(1) << k
		l = append(l, p-2, p-1, p, p+1)
	}
	for k := 1; k <= 8; k++ { // where a prefixed number gets one more byte
		full := uint64(1)<<k - 1
		for j := 7; j < 64; j += 7 {
			l = append(l, full+uint64(1)<<j-1, full+uint64(1)<<j)
		}
	}
	return l
}

func random(seed int64, n int) []uint64 {
	r := rand.New(rand.NewSource(seed))
	l := make([]uint64, n)
	for i := range l {
		l[i] = r.Uint64() >> r.Intn(64)
	}
	return l
}

// roomy: bytes with marked room behind them, and a check that neither has changed.
func roomy() (b []byte, kept func() bool) {
	all := bytes.Repeat([]byte{0xa5}, 64)
	return all[:3], func() bool { return bytes.Equal(all, bytes.Repeat([]byte{0xa5}, 64)) }
}

func TestVarBytes(t *testing.T) { // P1.1
	for _, x := range []struct {
		v    uint64
		want string
	}{
		{0, "\x00"},
		{37, "\x25"},
		{63, "\x3f"},
		{64, "\x40\x40"},
		{15293, "\x7b\xbd"},
		{1<<14 - 1, "\x7f\xff"},
		{1 << 14, "\x80\x00\x40\x00"},
		{494878333, "\x9d\x7f\x3e\x7d"},
		{1<<30 - 1, "\xbf\xff\xff\xff"},
		{1 << 30, "\xc0\x00\x00\x00\x40\x00\x00\x00"},
		{151288809941952652, "\xc2\x19\x7c\x5e\xff\x14\xe8\x8c"},
		{api.MaxVar, "\xff\xff\xff\xff\xff\xff\xff\xff"},
	} {
		if b, e := Var(nil, x.v); string(b) != x.want || e != api.OK {
			t.Errorf("Var(nil, %d): %x, %v", x.v, b, e)
		}
		if b, e := Var([]byte("ab"), x.v); string(b) != "ab"+x.want || e != api.OK {
			t.Errorf("Var(ab, %d): %x, %v", x.v, b, e)
		}
		if n := VarLen(x.v); n != len(x.want) {
			t.Errorf("VarLen(%d): %d", x.v, n)
		}
		if v, n, e := ReadVar([]byte(x.want)); v != x.v || n != len(x.want) || e != api.OK {
			t.Errorf("ReadVar(%x): %d, %d, %v", x.want, v, n, e)
		}
	}
}

func TestVarOfSeveral(t *testing.T) { // P1.1
	if b, e := Var([]byte{9}, 1, 64, 0, 1<<14); string(b) != "\x09\x01\x40\x40\x00\x80\x00\x40\x00" || e != api.OK {
		t.Errorf("several: %x, %v", b, e)
	}
	if b, e := Var([]byte{9}); string(b) != "\x09" || e != api.OK {
		t.Errorf("none: %x, %v", b, e)
	}
	if b, e := Var(nil); len(b) != 0 || e != api.OK {
		t.Errorf("none behind nil: %x, %v", b, e)
	}
}

func TestVarAboveMost(t *testing.T) { // P1.1
	for _, v := range []uint64{api.MaxVar + 1, 1 << 63, math.MaxUint64} {
		for i, l := range [][]uint64{{v}, {v, 1}, {1, v}, {1, v, 2}} {
			if b, e := Var([]byte("ab"), l...); b != nil || e != api.ErrNum {
				t.Errorf("Var with %d, %d: %x, %v", v, i, b, e)
			}
		}
		if n := VarLen(v); n != 0 {
			t.Errorf("VarLen(%d): %d", v, n)
		}
	}
}

func TestVarIsShortest(t *testing.T) { // P1.1
	for _, v := range append(edges(), random(1, 10000)...) {
		want := 0
		for _, n := range []int{8, 4, 2, 1} {
			if v <= 1<<(8*n-2)-1 {
				want = n
			}
		}
		if n := VarLen(v); n != want {
			t.Errorf("VarLen(%d): %d, not %d", v, n, want)
		}
		if b, _ := Var(nil, v); len(b) != want {
			t.Errorf("Var(nil, %d): %x", v, b)
		}
	}
}

func TestReadVarLongForms(t *testing.T) { // P1.1
	for _, b := range []string{"\x25", "\x40\x25", "\x80\x00\x00\x25", "\xc0\x00\x00\x00\x00\x00\x00\x25"} {
		if v, n, e := ReadVar([]byte(b)); v != 37 || n != len(b) || e != api.OK {
			t.Errorf("ReadVar(%x): %d, %d, %v", b, v, n, e)
		}
		if v, n, e := ReadVar([]byte(b + "\xff\x01")); v != 37 || n != len(b) || e != api.OK {
			t.Errorf("ReadVar(%x ..): %d, %d, %v", b, v, n, e)
		}
	}
}

func TestReadVarCut(t *testing.T) { // P1.1
	for _, b := range []string{"\x3f", "\x7f\xff", "\xbf\xff\xff\xff", "\xff\xff\xff\xff\xff\xff\xff\xff"} {
		for n := range len(b) {
			if v, took, e := ReadVar([]byte(b[:n])); v != 0 || took != 0 || e != api.ErrMore {
				t.Errorf("ReadVar(%x): %d, %d, %v", b[:n], v, took, e)
			}
		}
	}
	if v, n, e := ReadVar(nil); v != 0 || n != 0 || e != api.ErrMore {
		t.Errorf("ReadVar(nil): %d, %d, %v", v, n, e)
	}
	cut := []byte("\xc0\x00\x00\x00\x00\x00\x00\x25")[:3] // what stands in the spare room isn't b's
	if v, n, e := ReadVar(cut); v != 0 || n != 0 || e != api.ErrMore {
		t.Errorf("ReadVar of spare room: %d, %d, %v", v, n, e)
	}
}

func TestPrefixBytes(t *testing.T) { // P1.2
	for _, x := range []struct {
		first byte
		bits  int
		v     uint64
		want  string
	}{
		{0, 5, 10, "\x0a"},
		{0, 5, 1337, "\x1f\x9a\x0a"},
		{0, 8, 42, "\x2a"},
		{0xe0, 5, 30, "\xfe"},
		{0xe0, 5, 31, "\xff\x00"},
		{0, 5, 31 + 127, "\x1f\x7f"},
		{0, 5, 31 + 128, "\x1f\x80\x01"},
		{0x40, 6, 62, "\x7e"},
		{0x40, 6, 63, "\x7f\x00"},
		{0, 8, 254, "\xfe"},
		{0, 8, 255, "\xff\x00"},
		{0, 1, 0, "\x00"},
		{0, 1, 1, "\x01\x00"},
		{0xfe, 1, 2, "\xff\x01"},
		{0, 7, 127 + 1<<14, "\x7f\x80\x80\x01"},
		{0, 5, api.MaxVar, "\x1f\xe0\xff\xff\xff\xff\xff\xff\xff\x3f"},
		{0, 8, math.MaxUint64, "\xff\x80\xfe\xff\xff\xff\xff\xff\xff\xff\x01"},
	} {
		if b := Prefix(nil, x.first, x.bits, x.v); string(b) != x.want {
			t.Errorf("Prefix(nil, %x, %d, %d): %x", x.first, x.bits, x.v, b)
		}
		if b := Prefix([]byte("ab"), x.first, x.bits, x.v); string(b) != "ab"+x.want {
			t.Errorf("Prefix(ab, %x, %d, %d): %x", x.first, x.bits, x.v, b)
		}
	}
}

func TestPrefixTakesHighBitsOfFirstOnly(t *testing.T) { // P1.2
	for bits := 1; bits <= 8; bits++ {
		low := byte(1<<bits - 1)
		for first := range 256 {
			for _, v := range []uint64{0, uint64(low) - 1, uint64(low), 1000} {
				b := Prefix(nil, byte(first), bits, v)
				if b[0]&^low != byte(first)&^low || uint64(b[0]&low) != min(v, uint64(low)) {
					t.Errorf("Prefix(nil, %x, %d, %d): %x", first, bits, v, b)
				}
			}
		}
	}
}

func TestPrefixBitsNearest(t *testing.T) { // P1.2
	for _, x := range []struct{ bits, nearest int }{{0, 1}, {-1, 1}, {math.MinInt, 1}, {9, 8}, {64, 8}, {math.MaxInt, 8}} {
		for _, v := range []uint64{0, 1, 200, 255, 1000} {
			want := Prefix(nil, 0xff, x.nearest, v)
			if b := Prefix(nil, 0xff, x.bits, v); !bytes.Equal(b, want) {
				t.Errorf("Prefix(nil, ff, %d, %d): %x, not %x", x.bits, v, b, want)
			}
			if got, n, e := ReadPrefix(want, x.bits); got != v || n != len(want) || e != api.OK {
				t.Errorf("ReadPrefix(%x, %d): %d, %d, %v", want, x.bits, got, n, e)
			}
		}
	}
}

func TestReadPrefix(t *testing.T) { // P1.2
	for _, x := range []struct {
		b    string
		bits int
		v    uint64
		n    int
		e    api.Errno
	}{
		{"\x0a", 5, 10, 1, api.OK},
		{"\xea", 5, 10, 1, api.OK},
		{"\xff\x9a\x0a\x01", 5, 1337, 3, api.OK},
		{"\x2a\xff", 8, 42, 1, api.OK},
		{"\x1f\x80\x00", 5, 31, 3, api.OK}, // not the fewest bytes
		{"\x1f\xe0\xff\xff\xff\xff\xff\xff\xff\x3f", 5, api.MaxVar, 10, api.OK},
		{"\x1f\xe0\xff\xff\xff\xff\xff\xff\xff\xbf\x00", 5, api.MaxVar, 11, api.OK},
		{"\x1f\x80\x80\x80\x80\x80\x80\x80\x80\x80\x00", 5, 31, 11, api.OK},

		{"", 5, 0, 0, api.ErrMore},
		{"\x1f", 5, 0, 0, api.ErrMore},
		{"\x1f\x9a", 5, 0, 0, api.ErrMore},
		{"\x1f\x80\x80\x80\x80\x80\x80\x80\x80\x80", 5, 0, 0, api.ErrMore},
		{"\x1f\xe0\xff\xff\xff\xff\xff\xff\xff\xbf", 5, 0, 0, api.ErrMore}, // MaxVar so far

		{"\x1f\xe1\xff\xff\xff\xff\xff\xff\xff\x3f", 5, 0, 0, api.ErrNum},     // MaxVar + 1
		{"\x1f\xe1\xff\xff\xff\xff\xff\xff\xff\xbf", 5, 0, 0, api.ErrNum},     // and it goes on
		{"\x1f\x80\x80\x80\x80\x80\x80\x80\x80\x40", 5, 0, 0, api.ErrNum},     // 2^62 + 31
		{"\x1f\x80\x80\x80\x80\x80\x80\x80\x80\x80\x01", 5, 0, 0, api.ErrNum}, // 2^63 + 31
		{"\x1f\x80\x80\x80\x80\x80\x80\x80\x80\x80\x02", 5, 0, 0, api.ErrNum}, // 2^64 + 31
		{"\x1f\x80\x80\x80\x80\x80\x80\x80\x80\x80\x7e", 5, 0, 0, api.ErrNum},
		{"\x1f\x80\x80\x80\x80\x80\x80\x80\x80\x80\x80", 5, 0, 0, api.ErrNum}, // an eleventh byte behind the first must come
		{"\x1f\x80\x80\x80\x80\x80\x80\x80\x80\x80\x80\x00", 5, 0, 0, api.ErrNum},
		{"\xff\x80\xfe\xff\xff\xff\xff\xff\xff\xff\x01", 8, 0, 0, api.ErrNum}, // 2^64 - 1
	} {
		if v, n, e := ReadPrefix([]byte(x.b), x.bits); v != x.v || n != x.n || e != x.e {
			t.Errorf("ReadPrefix(%x, %d): %d, %d, %v", x.b, x.bits, v, n, e)
		}
	}
}

// slowPrefix reads a prefixed number with numbers that don't wrap.
func slowPrefix(b []byte, bits int) (uint64, int, api.Errno) {
	if len(b) == 0 {
		return 0, 0, api.ErrMore
	}
	full := int64(1)<<bits - 1
	v := big.NewInt(int64(b[0]) & full)
	if v.Int64() < full {
		return v.Uint64(), 1, api.OK
	}
	most := new(big.Int).SetUint64(api.MaxVar)
	for i := 1; i < len(b); i++ {
		part := big.NewInt(int64(b[i] % 128))
		v.Add(v, part.Lsh(part, uint(7*(i-1))))
		if v.Cmp(most) > 0 || i == 10 && b[i] >= 128 {
			return 0, 0, api.ErrNum
		}
		if b[i] < 128 {
			return v.Uint64(), i + 1, api.OK
		}
	}
	return 0, 0, api.ErrMore
}

func TestReadPrefixOfAnyBytes(t *testing.T) { // P1.2
	r := rand.New(rand.NewSource(2))
	seen := map[api.Errno]int{}
	for range 100000 {
		bits := 1 + r.Intn(8)
		b := make([]byte, 1+r.Intn(14))
		for i := range b {
			b[i] = byte(r.Intn(256)) | 128
			if r.Intn(2) == 0 {
				b[i] = 128 // small numbers in many bytes
			}
			if r.Intn(12) == 0 {
				b[i] &= 127
			}
		}
		b[0] |= 1<<bits - 1
		v, n, e := ReadPrefix(b, bits)
		wantV, wantN, wantE := slowPrefix(b, bits)
		if v != wantV || n != wantN || e != wantE {
			t.Fatalf("ReadPrefix(%x, %d): %d, %d, %v, not %d, %d, %v", b, bits, v, n, e, wantV, wantN, wantE)
		}
		seen[e]++
	}
	if seen[api.OK] == 0 || seen[api.ErrMore] == 0 || seen[api.ErrNum] == 0 {
		t.Errorf("not all answers seen: %v", seen)
	}
}

func TestBigBytes(t *testing.T) { // P1.3
	for _, x := range []struct {
		v    uint64
		n    int
		want string
	}{
		{0x0102030405060708, 0, ""},
		{0x0102030405060708, 1, "\x08"},
		{0x0102030405060708, 2, "\x07\x08"},
		{0x0102030405060708, 3, "\x06\x07\x08"},
		{0x0102030405060708, 4, "\x05\x06\x07\x08"},
		{0x0102030405060708, 7, "\x02\x03\x04\x05\x06\x07\x08"},
		{0x0102030405060708, 8, "\x01\x02\x03\x04\x05\x06\x07\x08"},
		{0x0102030405060708, 9, "\x01\x02\x03\x04\x05\x06\x07\x08"},
		{0x0102030405060708, math.MaxInt, "\x01\x02\x03\x04\x05\x06\x07\x08"},
		{0x0102030405060708, -1, ""},
		{0x0102030405060708, math.MinInt, ""},
		{1, 4, "\x00\x00\x00\x01"},
		{math.MaxUint64, 8, "\xff\xff\xff\xff\xff\xff\xff\xff"},
	} {
		if b := Big(nil, x.v, x.n); string(b) != x.want {
			t.Errorf("Big(nil, %x, %d): %x", x.v, x.n, b)
		}
		if b := Big([]byte("ab"), x.v, x.n); string(b) != "ab"+x.want {
			t.Errorf("Big(ab, %x, %d): %x", x.v, x.n, b)
		}
	}
}

func TestReadBig(t *testing.T) { // P1.3
	b := []byte{0xf1, 2, 3, 4, 5, 6, 7, 8, 9}
	want := uint64(0)
	for n := 0; n <= 8; n++ {
		if n > 0 {
			want = want*256 + uint64(b[n-1])
		}
		if v, ok := ReadBig(b, n); v != want || !ok {
			t.Errorf("ReadBig(%x, %d): %x, %v", b, n, v, ok)
		}
		if v, ok := ReadBig(b[:n], n); v != want || !ok {
			t.Errorf("ReadBig(%x, %d): %x, %v", b[:n], n, v, ok)
		}
		if v, ok := ReadBig(b[:n], n+1); v != 0 || ok {
			t.Errorf("ReadBig(%x, %d): %x, %v", b[:n], n+1, v, ok)
		}
	}
	for _, n := range []int{-1, math.MinInt, 9, math.MaxInt} {
		if v, ok := ReadBig(b, n); v != 0 || ok {
			t.Errorf("ReadBig(%x, %d): %x, %v", b, n, v, ok)
		}
	}
	if v, ok := ReadBig(nil, 0); v != 0 || !ok {
		t.Errorf("ReadBig(nil, 0): %x, %v", v, ok)
	}
	if v, ok := ReadBig(nil, 1); v != 0 || ok {
		t.Errorf("ReadBig(nil, 1): %x, %v", v, ok)
	}
}

func TestVarReadBack(t *testing.T) { // P1.4
	var l []uint64
	for _, v := range append(edges(), random(3, 5000)...) {
		if v <= api.MaxVar {
			l = append(l, v)
		}
	}
	b, e := Var([]byte("head"), l...)
	if e != api.OK || string(b[:4]) != "head" {
		t.Fatalf("Var: %v", e)
	}
	b = append(b[4:], "tail"...)
	for _, want := range l {
		v, n, e := ReadVar(b)
		if v != want || n != VarLen(want) || e != api.OK {
			t.Fatalf("ReadVar: %d, %d, %v, not %d", v, n, e, want)
		}
		b = b[n:]
	}
	if string(b) != "tail" {
		t.Errorf("left: %x", b)
	}
}

func TestPrefixReadBack(t *testing.T) { // P1.4
	for bits := 1; bits <= 8; bits++ {
		for _, want := range append(edges(), random(int64(bits), 2000)...) {
			b := Prefix(nil, 0xff, bits, want)
			v, n, e := ReadPrefix(append(b, "tail"...), bits)
			if want > api.MaxVar {
				if v != 0 || n != 0 || e != api.ErrNum {
					t.Errorf("ReadPrefix(%x, %d): %d, %d, %v", b, bits, v, n, e)
				}
				continue
			}
			if v != want || n != len(b) || e != api.OK {
				t.Errorf("ReadPrefix(%x, %d): %d, %d, %v, not %d", b, bits, v, n, e, want)
			}
			for cut := range len(b) {
				if v, n, e := ReadPrefix(b[:cut], bits); v != 0 || n != 0 || e != api.ErrMore {
					t.Errorf("ReadPrefix(%x, %d): %d, %d, %v", b[:cut], bits, v, n, e)
				}
			}
		}
	}
}

func TestBigReadBack(t *testing.T) { // P1.4
	for n := 0; n <= 8; n++ {
		for _, v := range append(edges(), random(int64(n), 2000)...) {
			want := v
			if n < 8 {
				want = v % (1 << (8 * n))
			}
			b := Big([]byte("head"), v, n)
			if len(b) != 4+n || string(b[:4]) != "head" {
				t.Fatalf("Big(head, %x, %d): %x", v, n, b)
			}
			if got, ok := ReadBig(append(b[4:], "tail"...), n); got != want || !ok {
				t.Errorf("ReadBig(Big(%x, %d)): %x, %v", v, n, got, ok)
			}
		}
	}
}

func TestWhatIsHandedInStays(t *testing.T) { // DOC.md, what holds everywhere, 3
	for name, write := range map[string]func([]byte) []byte{
		"Var":         func(b []byte) []byte { r, _ := Var(b, 1, 64, api.MaxVar); return r },
		"Var of none": func(b []byte) []byte { r, _ := Var(b); return r },
		"Prefix":      func(b []byte) []byte { return Prefix(b, 0, 5, 1337) },
		"Prefix of 1": func(b []byte) []byte { return Prefix(b, 0, 5, 1) },
		"Big":         func(b []byte) []byte { return Big(b, 1, 8) },
		"Big of none": func(b []byte) []byte { return Big(b, 1, 0) },
	} {
		b, kept := roomy()
		answer := write(b)
		if !kept() {
			t.Errorf("%s: it has written on what was handed in", name)
		}
		clear(answer[:cap(answer)])
		if !kept() {
			t.Errorf("%s: the answer isn't new memory", name)
		}
	}
	v := []uint64{1, 64, api.MaxVar}
	Var(nil, v...)
	if v[0] != 1 || v[1] != 64 || v[2] != api.MaxVar {
		t.Errorf("Var has changed its numbers: %d", v)
	}
}

func TestReadersLeaveBytes(t *testing.T) { // DOC.md, what holds everywhere, 3
	b := []byte("\xff\x9a\x0a\x00\x01\x02\x03\x04\x05")
	was := bytes.Clone(b)
	ReadVar(b)
	ReadPrefix(b, 5)
	ReadBig(b, 8)
	if !bytes.Equal(b, was) {
		t.Errorf("changed: %x", b)
	}
}
