package hdec

import (
	"math/big"
	"math/rand"
	"slices"
	"strings"
	"testing"

	"bifold/api"
	"bifold/huff"
	"bifold/num"
	"bifold/static"
)

// plain: a peer's table as a list, the newest entry first.
type plain struct {
	l        []api.Field
	capacity int
	count    uint64
	static   []api.Field // entry 1 is the first
}

func newPlain(capacity int) plain {
	p := plain{capacity: capacity}
	for i := uint64(1); i <= 61; i++ {
		f, _ := static.H2(i)
		p.static = append(p.static, f)
	}
	return p
}

func weight(f api.Field) int { return len(f.Name) + len(f.Value) + 32 }

func (p *plain) size() int {
	n := 0
	for _, f := range p.l {
		n += weight(f)
	}
	return n
}

func (p *plain) resize(n int) {
	p.capacity = n
	for p.size() > n {
		p.l = p.l[:len(p.l)-1]
	}
}

func (p *plain) add(f api.Field) {
	for len(p.l) > 0 && p.size()+weight(f) > p.capacity {
		p.l = p.l[:len(p.l)-1]
	}
	if weight(f) <= p.capacity {
		p.l = append([]api.Field{f}, p.l...)
		p.count++
	}
}

func (p *plain) at(i uint64) (api.Field, bool) {
	if i == 0 {
		return api.Field{}, false
	}
	if i <= 61 {
		return p.static[i-1], true
	}
	if i-62 >= uint64(len(p.l)) {
		return api.Field{}, false
	}
	return p.l[i-62], true
}

func (p *plain) hold(t *testing.T, at string, d *Decoder) {
	t.Helper()
	if got := stand(d.Table()); !slices.Equal(got, p.l) || d.Table().Cap() != p.capacity || d.Table().Count() != p.count {
		t.Fatalf("%s: the table: %q of %d, %d ever; not %q of %d, %d ever", at, got, d.Table().Cap(), d.Table().Count(), p.l, p.capacity, p.count)
	}
}

// writer: writes blocks in whichever ways the RFC lets, by its own table.
type writer struct {
	plain
	limit int // of the reader
	low   int // the least the table had to be since the last block, if it had to shrink; else -1
	rnd   *rand.Rand
}

func (w *writer) text(s string) string {
	if w.rnd.Intn(2) == 0 {
		return raw(s)
	}
	return coded(s)
}

func (w *writer) field(f api.Field) string {
	var named []uint64
	for i := uint64(1); i < 62+uint64(len(w.l)); i++ {
		g, _ := w.at(i)
		if g == f && w.rnd.Intn(4) > 0 {
			return index(i)
		}
		if g.Name == f.Name {
			named = append(named, i)
		}
	}
	i, name := uint64(0), w.text(f.Name)
	if len(named) > 0 && w.rnd.Intn(4) > 0 {
		i, name = named[w.rnd.Intn(len(named))], ""
	}
	switch w.rnd.Intn(4) {
	case 0:
		return string(num.Prefix(nil, 0x00, 4, i)) + name + w.text(f.Value)
	case 1:
		return string(num.Prefix(nil, 0x10, 4, i)) + name + w.text(f.Value)
	}
	w.add(f)
	return string(num.Prefix(nil, 0x40, 6, i)) + name + w.text(f.Value)
}

func (w *writer) block(l []api.Field) string {
	b := ""
	if w.low >= 0 || w.rnd.Intn(5) == 0 {
		if w.low >= 0 || w.rnd.Intn(2) == 0 {
			n := w.limit
			if w.low >= 0 {
				n = min(n, w.low)
			}
			n = w.rnd.Intn(n + 1)
			w.resize(n)
			b += update(uint64(n))
		}
		if w.rnd.Intn(2) == 0 {
			n := w.rnd.Intn(w.limit + 1)
			w.resize(n)
			b += update(uint64(n))
		}
		w.low = -1
	}
	for _, f := range l {
		b += w.field(f)
	}
	return b
}

// setLimit: what the reader's limit does to the writer.
func (w *writer) setLimit(n int) {
	w.limit = n
	if w.capacity > n {
		w.resize(n)
		w.low = n
	}
}

func someFields(rnd *rand.Rand) []api.Field {
	names := []string{":method", ":path", ":status", "cookie", "age", "www-authenticate", "a", "b", "custom-key", "", "\x00\xff"}
	values := []string{"GET", "/", "/index.html", "200", "", "1", "gzip, deflate", strings.Repeat("v", 100), "\r\n\x80", strings.Repeat("w", 400)}
	var l []api.Field
	for range rnd.Intn(12) {
		l = append(l, pair(names[rnd.Intn(len(names))], values[rnd.Intn(len(values))]))
	}
	return l
}

func TestTableIsTheWriters(t *testing.T) { // P6.3
	rnd := rand.New(rand.NewSource(63))
	for range 200 {
		capacity := rnd.Intn(900)
		if rnd.Intn(4) == 0 {
			capacity = api.MaxTable
		}
		d := New(capacity)
		w := &writer{plain: newPlain(capacity), limit: capacity, low: -1, rnd: rnd}
		for range 30 {
			if rnd.Intn(6) == 0 {
				n := rnd.Intn(900)
				d.Limit(n)
				w.setLimit(n)
				w.hold(t, "Limit", d)
			}
			l := someFields(rnd)
			b := w.block(l)
			got, e := d.Decode([]byte(b))
			if e != api.OK || !slices.Equal(got, l) {
				t.Fatalf("Decode(%x): %q, %v, not %q", b, got, e, l)
			}
			w.hold(t, "Decode", d)
		}
	}
}

// slow: reads blocks as the document tells it, going through lists, with numbers that don't wrap.
type slow struct {
	plain
	limit        int
	must, broken bool
}

// slowNumber: the number of b's first byte's lowest bits, what is left behind it, and whether there is one.
func slowNumber(b []byte, bits int) (uint64, []byte, bool) {
	if len(b) == 0 {
		return 0, nil, false
	}
	full := int64(1)<<bits - 1
	v := big.NewInt(int64(b[0]) & full)
	if v.Int64() < full {
		return v.Uint64(), b[1:], true
	}
	for i := 1; i < len(b) && i <= 10; i++ {
		part := big.NewInt(int64(b[i] % 128))
		v.Add(v, part.Lsh(part, uint(7*(i-1))))
		if b[i] < 128 {
			return v.Uint64(), b[i+1:], v.Cmp(big.NewInt(api.MaxVar)) <= 0
		}
	}
	return 0, nil, false
}

func slowText(b []byte) (string, []byte, bool) {
	n, rest, ok := slowNumber(b, 7)
	if !ok || n > api.MaxStr || n > uint64(len(rest)) {
		return "", nil, false
	}
	if b[0] < 128 {
		return string(rest[:n]), rest[n:], true
	}
	s, e := huff.Decode(rest[:n])
	return s, rest[n:], e == api.OK
}

// decode: the fields; false: it is wrong, and each one behind it.
func (s *slow) decode(b []byte) ([]api.Field, bool) {
	if s.broken {
		return nil, false
	}
	was := s.plain
	was.l = slices.Clone(s.l)
	l, ok := s.walk(b)
	if !ok {
		s.plain, s.broken = was, true
		return nil, false
	}
	s.must = false
	return l, true
}

func (s *slow) walk(b []byte) ([]api.Field, bool) {
	var l []api.Field
	updates := 0
	for len(b) > 0 {
		first, bits, ok := b[0], 4, false
		i := uint64(0)
		switch {
		case first >= 128:
			bits = 7
		case first >= 64:
			bits = 6
		case first >= 32:
			bits = 5
		}
		if i, b, ok = slowNumber(b, bits); !ok {
			return nil, false
		}
		if bits == 5 {
			updates++
			if len(l) > 0 || updates > 2 || i > uint64(s.limit) {
				return nil, false
			}
			s.resize(int(i))
			continue
		}
		f, there := s.at(i)
		if !there && (bits == 7 || i > 0) || s.must && updates == 0 || len(l) == api.MaxFields {
			return nil, false
		}
		if bits < 7 {
			if i == 0 {
				if f.Name, b, ok = slowText(b); !ok {
					return nil, false
				}
			}
			if f.Value, b, ok = slowText(b); !ok {
				return nil, false
			}
		}
		if bits == 6 {
			s.add(f)
		}
		l = append(l, f)
	}
	return l, updates > 0 || !s.must
}

// TestAnyBytes: whatever bytes come, both read the same: good blocks, spoilt ones, and mere noise.
func TestAnyBytes(t *testing.T) { // P6.2, P6.3
	rnd := rand.New(rand.NewSource(62))
	goods, wrongs := 0, 0
	for range 3000 {
		capacity := rnd.Intn(400)
		d, s := New(capacity), &slow{plain: newPlain(capacity), limit: capacity}
		w := &writer{plain: newPlain(capacity), limit: capacity, low: -1, rnd: rnd}
		for range 8 {
			if rnd.Intn(6) == 0 {
				n := rnd.Intn(400)
				d.Limit(n)
				w.setLimit(n)
				s.limit = n
				if s.capacity > n {
					s.resize(n)
					s.must = true
				}
			}
			b := spoilt(rnd, w)
			want, ok := s.decode(b)
			got, e := d.Decode(b)
			if (e == api.OK) != ok || e != api.OK && e != api.ErrBlock || !slices.Equal(got, want) {
				t.Fatalf("Decode(%x): %q, %v, not %q, %v", b, got, e, want, ok)
			}
			s.hold(t, "any bytes", d)
			if !ok {
				wrongs++
				break
			}
			goods++
		}
	}
	if goods < 2500 || wrongs < 500 {
		t.Errorf("only %d good ones, %d wrong ones", goods, wrongs)
	}
}

// spoilt: a good block of w's, most often with a few bytes that are others, more or missing; or noise.
func spoilt(rnd *rand.Rand, w *writer) []byte {
	if rnd.Intn(8) == 0 {
		b := make([]byte, rnd.Intn(12))
		rnd.Read(b)
		return b
	}
	b := []byte(w.block(someFields(rnd)))
	for rnd.Intn(3) == 0 && len(b) > 0 {
		i := rnd.Intn(len(b))
		switch rnd.Intn(4) {
		case 0:
			b[i] = byte(rnd.Intn(256))
		case 1:
			b[i] ^= 1 << rnd.Intn(8)
		case 2:
			b = slices.Delete(b, i, i+1)
		case 3:
			b = slices.Insert(b, i, byte(rnd.Intn(256)))
		}
	}
	return b
}
