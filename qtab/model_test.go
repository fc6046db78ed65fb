package qtab

import (
	"math"
	"math/big"
	"math/rand"
	"testing"

	"bifold/api"
	"bifold/num"
)

func whole(v uint64) *big.Int { return new(big.Int).SetUint64(v) }

// slowCount: RFC 9204's algorithm (4.5.1.1), line by line, with numbers that don't wrap; nil: it fails.
func slowCount(enc, total uint64, capacity int) *big.Int {
	maxEntries := whole(uint64(max(capacity, 0) / 32))
	fullRange := new(big.Int).Lsh(maxEntries, 1)
	if enc == 0 {
		return whole(0)
	}
	if whole(enc).Cmp(fullRange) > 0 {
		return nil
	}
	maxValue := new(big.Int).Add(whole(total), maxEntries)
	count := new(big.Int).Div(maxValue, fullRange)
	count.Mul(count, fullRange)
	count.Add(count, whole(enc))
	count.Sub(count, whole(1))
	if count.Cmp(maxValue) > 0 {
		if count.Cmp(fullRange) <= 0 {
			return nil
		}
		count.Sub(count, fullRange)
	}
	if count.Sign() == 0 {
		return nil
	}
	return count
}

// holds: DecodeCount answers what the algorithm does.
func holds(t *testing.T, enc, total uint64, capacity int) api.Errno {
	t.Helper()
	got, e := DecodeCount(enc, total, capacity)
	want := slowCount(enc, total, capacity)
	if want == nil || !want.IsUint64() {
		if got != 0 || e != api.ErrTable {
			t.Fatalf("DecodeCount(%d, %d, %d): %d, %v, not %v", enc, total, capacity, got, e, api.ErrTable)
		}
	} else if got != want.Uint64() || e != api.OK {
		t.Fatalf("DecodeCount(%d, %d, %d): %d, %v, not %v", enc, total, capacity, got, e, want)
	}
	return e
}

func TestDecodeCountOfSmallOnes(t *testing.T) { // P8.1
	for _, capacity := range []int{-64, -1, 0, 31, 32, 63, 64, 96, 100, 159, 160, 220, 256} {
		for total := range uint64(60) {
			for enc := range uint64(20) {
				holds(t, enc, total, capacity)
				holds(t, enc, math.MaxUint64-total, capacity)
				holds(t, math.MaxUint64-enc, total, capacity)
				holds(t, enc, api.MaxVar-30+total, capacity)
			}
		}
	}
}

// someNumber: small, great or beside an edge.
func someNumber(rnd *rand.Rand) uint64 {
	switch v := rnd.Uint64() >> rnd.Intn(64); rnd.Intn(4) {
	case 0:
		return math.MaxUint64 - v
	case 1:
		return api.MaxVar + v%600 - 300
	default:
		return v
	}
}

func someCapacity(rnd *rand.Rand) int {
	switch rnd.Intn(5) {
	case 0:
		return int(someNumber(rnd))
	case 1:
		return api.MaxTable - rnd.Intn(3)
	}
	return rnd.Intn(400) - 20
}

func TestDecodeCountOfAny(t *testing.T) { // P8.1
	rnd := rand.New(rand.NewSource(81))
	seen := map[api.Errno]int{}
	for range 100000 {
		capacity, enc := someCapacity(rnd), someNumber(rnd)
		if full := 2 * (uint64(max(capacity, 0)) / 32); full > 0 && rnd.Intn(3) > 0 {
			enc = enc%(full+2) + uint64(rnd.Intn(2))
		}
		seen[holds(t, enc, someNumber(rnd), capacity)]++
	}
	if seen[api.OK] == 0 || seen[api.ErrTable] == 0 {
		t.Errorf("not all answers seen: %v", seen)
	}
}

func TestEncodeCountOfAny(t *testing.T) { // P8.1
	rnd := rand.New(rand.NewSource(80))
	for range 50000 {
		count, capacity := someNumber(rnd), someCapacity(rnd)
		want := uint64(0)
		if most := int64(max(capacity, 0) / 32); most > 0 && count > 0 {
			full := new(big.Int).Mul(big.NewInt(2), big.NewInt(most))
			want = new(big.Int).Mod(whole(count), full).Uint64() + 1
		}
		if got := EncodeCount(count, capacity); got != want {
			t.Fatalf("EncodeCount(%d, %d): %d, not %d", count, capacity, got, want)
		}
	}
}

// slowRead: a prefix as the document tells it, with numbers that don't wrap.
func slowRead(b []byte, total uint64, capacity int) told {
	enc, n, e := num.ReadPrefix(b, 8)
	if e != api.OK {
		return wrong(e)
	}
	delta, m, e := num.ReadPrefix(b[n:], 7)
	if e != api.OK {
		return wrong(e)
	}
	count := slowCount(enc, total, capacity)
	if count == nil || !count.IsUint64() {
		return wrong(api.ErrTable)
	}
	base := new(big.Int).Add(count, whole(delta))
	if b[n] >= 128 {
		base.Sub(count, whole(delta))
		base.Sub(base, whole(1))
	}
	if base.Sign() < 0 || base.Cmp(whole(api.MaxVar)) > 0 {
		return wrong(api.ErrTable)
	}
	return told{count.Uint64(), base.Uint64(), n + m, api.OK}
}

// someBytes: a prefix of some numbers, spoilt now and then.
func someBytes(rnd *rand.Rand) []byte {
	b := num.Prefix(nil, 0, 8, rnd.Uint64()>>(2+rnd.Intn(62)))
	if rnd.Intn(3) > 0 {
		b = []byte{byte(rnd.Intn(20))}
	}
	b = num.Prefix(b, byte(rnd.Intn(256)), 7, someNumber(rnd))
	switch rnd.Intn(6) {
	case 0:
		return b[:rnd.Intn(len(b)+1)]
	case 1:
		b[rnd.Intn(len(b))] = byte(rnd.Intn(256))
	case 2:
		b = append(b, byte(rnd.Intn(256)))
	}
	return b
}

func TestReadPrefixOfAny(t *testing.T) { // P8.2
	rnd := rand.New(rand.NewSource(82))
	seen := map[api.Errno]int{}
	for range 100000 {
		b, total, capacity := someBytes(rnd), someNumber(rnd), someCapacity(rnd)
		got, want := read(string(b), total, capacity), slowRead(b, total, capacity)
		if got != want {
			t.Fatalf("ReadPrefix(%x, %d, %d): %v, not %v", b, total, capacity, got, want)
		}
		seen[got.e]++
	}
	for _, e := range []api.Errno{api.OK, api.ErrMore, api.ErrNum, api.ErrTable} {
		if seen[e] < 100 {
			t.Errorf("%v was seen %d times", e, seen[e])
		}
	}
}
