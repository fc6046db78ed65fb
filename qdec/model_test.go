package qdec

import (
	"fmt"
	"math/big"
	"math/rand"
	"slices"
	"strings"
	"testing"

	"bifold/api"
	"bifold/huff"
	"bifold/num"
	"bifold/qtab"
	"bifold/static"
)

// slow: reads both streams as the document tells it, from the first byte of each thing on, going through lists, with numbers that don't wrap.
type slow struct {
	static   []api.Field
	inserted []api.Field // all that ever were
	gone     int         // of these, from the first on
	capacity int
	limit    int
	blocked  int
	waiting  []uint64
	rest     []byte
	broken   bool
	says     string
	told     int
}

// How far reading something came.
const (
	done = iota
	more
	wrong
)

func newSlow(limit, blocked int) *slow {
	s := &slow{limit: limit, blocked: blocked}
	for i := uint64(0); i <= 98; i++ {
		f, _ := static.H3(i)
		s.static = append(s.static, f)
	}
	return s
}

func slowSize(l ...api.Field) int {
	n := 0
	for _, f := range l {
		n += len(f.Name) + len(f.Value) + 32
	}
	return n
}

// slowNumber: the number of b's first byte's lowest bits, and what is left behind it.
func slowNumber(b []byte, bits int) (uint64, []byte, int) {
	if len(b) == 0 {
		return 0, nil, more
	}
	full := int64(1)<<bits - 1
	v := big.NewInt(int64(b[0]) & full)
	if v.Int64() < full {
		return v.Uint64(), b[1:], done
	}
	for i := 1; i < len(b); i++ {
		part := big.NewInt(int64(b[i] % 128))
		v.Add(v, part.Lsh(part, uint(7*(i-1))))
		switch {
		case v.Cmp(big.NewInt(api.MaxVar)) > 0:
			return 0, nil, wrong
		case b[i] < 128:
			return v.Uint64(), b[i+1:], done
		case i == 10:
			return 0, nil, wrong
		}
	}
	return 0, nil, more
}

// slowText: the string whose length has so many bits, behind the one that says how it is coded.
func slowText(b []byte, bits int) (string, []byte, int) {
	n, rest, how := slowNumber(b, bits)
	switch {
	case how != done:
		return "", nil, how
	case n > api.MaxStr:
		return "", nil, wrong
	case n > uint64(len(rest)):
		return "", nil, more
	}
	if fmt.Sprintf("%08b", b[0])[7-bits] == '0' {
		return string(rest[:n]), rest[n:], done
	}
	s, e := huff.Decode(rest[:n])
	if e != api.OK {
		return "", nil, wrong
	}
	return s, rest[n:], done
}

func (s *slow) resize(n int) {
	s.capacity = n
	for slowSize(s.inserted[s.gone:]...) > n {
		s.gone++
	}
}

func (s *slow) insert(f api.Field) int {
	if slowSize(f) > s.capacity {
		return wrong
	}
	for slowSize(s.inserted[s.gone:]...)+slowSize(f) > s.capacity {
		s.gone++
	}
	s.inserted = append(s.inserted, f)
	return done
}

// newest: the i-th newest entry, if it stands.
func (s *slow) newest(i uint64) (api.Field, int) {
	if i >= uint64(len(s.inserted)-s.gone) {
		return api.Field{}, wrong
	}
	return s.inserted[len(s.inserted)-1-int(i)], done
}

func (s *slow) fixed(i uint64) (api.Field, int) {
	if i >= uint64(len(s.static)) {
		return api.Field{}, wrong
	}
	return s.static[i], done
}

// order: does the instruction that rest is, if all of it is there.
func (s *slow) order() int {
	var f api.Field
	kind := fmt.Sprintf("%08b", s.rest[0])
	bits := 6
	switch {
	case strings.HasPrefix(kind, "01"):
		name, rest, how := slowText(s.rest, 5)
		if how != done {
			return how
		}
		return s.valued(name, rest)
	case strings.HasPrefix(kind, "0"):
		bits = 5
	}
	i, rest, how := slowNumber(s.rest, bits)
	if how != done {
		return how
	}
	switch {
	case strings.HasPrefix(kind, "001"):
		if i > uint64(s.limit) {
			return wrong
		}
		s.resize(int(i))
		return done
	case strings.HasPrefix(kind, "11"):
		f, how = s.fixed(i)
	default:
		f, how = s.newest(i)
	}
	if how != done {
		return how
	}
	if strings.HasPrefix(kind, "000") {
		return s.insert(f)
	}
	return s.valued(f.Name, rest)
}

func (s *slow) valued(name string, b []byte) int {
	value, _, how := slowText(b, 7)
	if how != done {
		return how
	}
	return s.insert(pair(name, value))
}

func (s *slow) feed(b []byte) api.Errno {
	for _, c := range b {
		if s.broken {
			break
		}
		s.rest = append(s.rest, c)
		switch s.order() {
		case done:
			s.rest = nil
		case wrong:
			s.broken = true
		}
	}
	if s.broken {
		return api.ErrBlock
	}
	return api.OK
}

// prefix: the count and the base, as RFC 9204 reckons them (4.5.1), and what is left.
func (s *slow) prefix(b []byte) (*big.Int, *big.Int, []byte, bool) {
	enc, rest, how := slowNumber(b, 8)
	if how != done {
		return nil, nil, nil, false
	}
	delta, left, how := slowNumber(rest, 7)
	if how != done {
		return nil, nil, nil, false
	}
	count := int64(0)
	if enc > 0 {
		most := int64(s.limit / 32)
		if enc > uint64(2*most) {
			return nil, nil, nil, false
		}
		above := int64(len(s.inserted)) + most
		count = above/(2*most)*(2*most) + int64(enc) - 1
		if count > above {
			if count <= 2*most {
				return nil, nil, nil, false
			}
			count -= 2 * most
		}
		if count == 0 {
			return nil, nil, nil, false
		}
	}
	base := new(big.Int).SetUint64(delta)
	if rest[0] < 128 {
		base.Add(big.NewInt(count), base)
	} else {
		base.Sub(big.NewInt(count-1), base)
	}
	return big.NewInt(count), base, left, base.Sign() >= 0 && base.Cmp(big.NewInt(api.MaxVar)) <= 0
}

func (s *slow) decode(stream uint64, b []byte) ([]api.Field, api.Errno) {
	count, base, b, ok := s.prefix(b)
	if s.broken || !ok {
		return nil, api.ErrBlock
	}
	i := slices.Index(s.waiting, stream)
	if count.Cmp(big.NewInt(int64(len(s.inserted)))) > 0 {
		if i < 0 && len(s.waiting) >= s.blocked {
			return nil, api.ErrMany
		}
		if i < 0 {
			s.waiting = append(s.waiting, stream)
		}
		return nil, api.ErrWait
	}
	if i >= 0 {
		s.waiting = slices.Delete(s.waiting, i, i+1)
	}
	var l []api.Field
	for len(b) > 0 {
		f, rest, how := s.line(b, count, base)
		if how != done || len(l) == 64 {
			return nil, api.ErrBlock
		}
		l, b = append(l, f), rest
	}
	if n := int(count.Int64()); n > 0 {
		s.says += string(num.Prefix(nil, 0x80, 7, stream))
		s.told = max(s.told, n)
	}
	return l, api.OK
}

// line: the field that b begins with, and what is left.
func (s *slow) line(b []byte, count, base *big.Int) (api.Field, []byte, int) {
	kind := fmt.Sprintf("%08b", b[0])
	var name string
	bits, literal, of := 0, true, ""
	switch {
	case kind[:2] == "11":
		bits, literal, of = 6, false, "static"
	case kind[:2] == "10":
		bits, literal, of = 6, false, "below"
	case kind[:4] == "0101" || kind[:4] == "0111":
		bits, of = 4, "static"
	case kind[:2] == "01":
		bits, of = 4, "below"
	case kind[:4] == "0001":
		bits, literal, of = 4, false, "above"
	case kind[:4] == "0000":
		bits, of = 3, "above"
	}
	if of == "" {
		text, rest, how := slowText(b, 3)
		if how != done {
			return api.Field{}, nil, how
		}
		name, b = text, rest
	} else {
		i, rest, how := slowNumber(b, bits)
		if how != done {
			return api.Field{}, nil, how
		}
		f, how := s.place(of, i, count, base)
		if how != done || !literal {
			return f, rest, how
		}
		name, b = f.Name, rest
	}
	value, rest, how := slowText(b, 7)
	return pair(name, value), rest, how
}

func (s *slow) place(of string, i uint64, count, base *big.Int) (api.Field, int) {
	place := new(big.Int).SetUint64(i)
	switch of {
	case "static":
		return s.fixed(i)
	case "below":
		place.Sub(base, place)
		place.Sub(place, big.NewInt(1))
	case "above":
		place.Add(base, place)
	}
	if place.Cmp(count) >= 0 || place.Cmp(big.NewInt(int64(s.gone))) < 0 {
		return api.Field{}, wrong
	}
	return s.inserted[place.Int64()], done
}

func (s *slow) cancel(stream uint64) {
	s.waiting = slices.DeleteFunc(s.waiting, func(x uint64) bool { return x == stream })
	if s.limit > 0 {
		s.says += string(num.Prefix(nil, 0x40, 6, stream))
	}
}

func (s *slow) send() string {
	b := s.says
	if n := len(s.inserted) - s.told; n > 0 {
		b += string(num.Prefix(nil, 0, 6, uint64(n)))
	}
	s.says, s.told = "", max(s.told, len(s.inserted))
	return b
}

// hold: d tells what s does.
func (s *slow) hold(t *testing.T, at string, d *Decoder) {
	t.Helper()
	want := slices.Clone(s.inserted[s.gone:])
	slices.Reverse(want)
	if got := stand(d.Table()); !slices.Equal(got, want) || d.Table().Count() != uint64(len(s.inserted)) || d.Table().Cap() != s.capacity || d.Waiting() != len(s.waiting) {
		t.Fatalf("%s: %q of %d, a capacity of %d, %d wait; not %q of %d, %d, %d", at, got, d.Table().Count(), d.Table().Cap(), d.Waiting(), want, len(s.inserted), s.capacity, len(s.waiting))
	}
}

// some: bytes that are written in all the ways there are, good ones most often.
type some struct {
	*rand.Rand
	careful bool // nothing is wrong
}

// slip: now and then, unless it is careful.
func (r some) slip(n int) bool { return !r.careful && r.Intn(n) == 0 }

func (r some) text(first byte, bits int) string {
	s := []string{"", "a", "b", "cookie", "custom-key", "\x00\xff", strings.Repeat("v", 30), strings.Repeat("~", 60), strings.Repeat("w", 300)}[r.Intn(9)]
	b := num.Prefix(nil, first, bits, uint64(len(s)))
	if r.Intn(2) == 0 {
		coded := huff.Encode(nil, s)
		b = num.Prefix(nil, first|1<<bits, bits, uint64(len(coded)))
		s = string(coded)
	}
	switch {
	case r.slip(500): // huff's code, or not
		b[0] ^= 1 << bits
	case r.slip(500): // of a length that is wrong
		return string(num.Prefix(nil, first|1<<bits, bits, uint64(4090+r.Intn(10))))
	case r.slip(800): // of a length of any number
		return string(append([]byte{first | 1<<bits - 1}, r.bytes(12)...))
	}
	return string(b) + s
}

func (r some) bytes(n int) []byte {
	b := make([]byte, r.Intn(n))
	for i := range b {
		b[i] = byte(r.Intn(256)) | byte(r.Intn(2))<<7
	}
	return b
}

// index: below n most often.
func (r some) index(first byte, bits, n int) string {
	if r.slip(300) {
		return string(append([]byte{first | 1<<bits - 1}, r.bytes(12)...))
	}
	if n = max(n, 1); r.slip(60) {
		n += 2
	}
	return string(num.Prefix(nil, first, bits, uint64(r.Intn(n))))
}

// order: an instruction for s; a careful one that s takes.
func (r some) order(s *slow) string {
	for {
		b, try := r.anyOrder(s), *s
		try.inserted = slices.Clone(s.inserted)
		if !r.careful || try.feed([]byte(b)) == api.OK {
			return b
		}
	}
}

func (r some) anyOrder(s *slow) string {
	stands := len(s.inserted) - s.gone
	switch n := r.Intn(12); {
	case n == 0 || s.capacity == 0:
		least := 0
		if r.Intn(3) > 0 {
			least = s.limit / 2
		}
		return string(num.Prefix(nil, 0x20, 5, uint64(least+r.Intn(s.limit-least+1))))
	case n == 1 && r.slip(20):
		return string(num.Prefix(nil, 0x20, 5, uint64(s.limit+1)))
	case n < 3 && stands > 0:
		return r.index(0x00, 5, stands)
	case n < 5 && stands > 0:
		return r.index(0x80, 6, stands) + r.text(0, 7)
	case n < 8:
		return r.index(0xc0, 6, 99) + r.text(0, 7)
	}
	return r.text(0x40, 5) + r.text(0, 7)
}

// section: one that needs what is there most often.
func (r some) section(s *slow) string {
	n := len(s.inserted)
	count := n
	switch r.Intn(8) {
	case 0, 1:
		count = min(n+1+r.Intn(3), n+s.limit/32)
	case 2:
		count = 0
	case 3, 4:
		count = max(n-r.Intn(4), 0)
	}
	base := max(count-5+r.Intn(10), 0)
	b := string(qtab.Prefix(nil, uint64(count), uint64(base), s.limit))
	if r.slip(30) {
		b = string(r.bytes(4))
	}
	lines := r.Intn(6)
	if r.slip(40) {
		lines = 62 + r.Intn(5)
	}
	for range lines {
		b += r.line(count, base, s.gone)
	}
	if r.slip(40) {
		b = b[:r.Intn(len(b)+1)]
	}
	return b
}

func (r some) line(count, base, gone int) string {
	never := byte(r.Intn(2))
	above := count - base
	below := base - max(gone, 0)
	skip := max(base-count, 0)
	switch n := r.Intn(7); {
	case n == 0:
		return r.index(0xc0, 6, 99)
	case n == 1:
		return r.index(0x50|never<<5, 4, 99) + r.text(0, 7)
	case n == 2 && below > skip:
		return string(num.Prefix(nil, 0x80, 6, uint64(skip+r.Intn(below-skip))))
	case n == 3 && below > skip:
		return string(num.Prefix(nil, 0x40|never<<5, 4, uint64(skip+r.Intn(below-skip)))) + r.text(0, 7)
	case n == 4 && above > 0 || r.slip(200):
		return r.index(0x10, 4, above)
	case n == 5 && above > 0 || r.slip(200):
		return r.index(0x00|never<<3, 3, above) + r.text(0, 7)
	case r.slip(100):
		return r.index(0x80, 6, below)
	case r.slip(100):
		return r.index(0x40, 4, below) + r.text(0, 7)
	}
	return r.text(0x20|never<<4, 3) + r.text(0, 7)
}

// TestOfAny: whatever comes, each call answers what the plain reader does.
func TestOfAny(t *testing.T) { // P10.1, P10.2, P10.3
	seen := map[string]int{}
	for seed := range int64(300) {
		r := some{rand.New(rand.NewSource(seed)), seed%2 == 0}
		limit, blocked := []int{0, 31, 32, 100, 160, 300, 700, 1300, 4096}[r.Intn(9)], r.Intn(4)
		d, s := New(limit, blocked), newSlow(limit, blocked)
		for range 120 {
			stream := uint64(r.Intn(6) * 30)
			switch r.Intn(9) {
			case 0, 1, 2:
				b := []byte(r.order(s))
				for _, piece := range cut(r, b) {
					want := s.feed(piece)
					if got := d.Feed(piece); got != want {
						t.Fatalf("Feed(%x) of %x: %v, not %v", piece, b, got, want)
					}
					s.hold(t, "Feed", d)
				}
			case 3, 4, 5, 6:
				b := []byte(r.section(s))
				want, wrong := s.decode(stream, b)
				got, e := d.Decode(stream, b)
				if e != wrong || !slices.Equal(got, want) {
					t.Fatalf("Decode(%d, %x): %q, %v; not %q, %v", stream, b, got, e, want, wrong)
				}
				s.hold(t, "Decode", d)
				if !s.broken {
					seen[fmt.Sprint("decode ", e)]++
				}
			case 7:
				if r.Intn(3) == 0 {
					d.Cancel(stream)
					s.cancel(stream)
					s.hold(t, "Cancel", d)
				}
			case 8:
				want := s.send()
				if got := d.Send(); string(got) != want {
					t.Fatalf("Send: %x, not %x", got, want)
				}
				seen["said"] += len(want)
			}
		}
		seen["went"] += s.gone
		if s.broken {
			seen["broken"]++
		}
	}
	t.Log(seen)
	for what, n := range map[string]int{"decode err 0": 5000, "decode err 26": 400, "decode err 27": 800, "decode err 50": 700, "said": 4000, "went": 2000, "broken": 80} {
		if seen[what] < n {
			t.Errorf("%s: only %d", what, seen[what])
		}
	}
}

// cut: b in pieces.
func cut(r some, b []byte) [][]byte {
	from := r.Intn(len(b) + 1)
	to := from + r.Intn(len(b)-from+1)
	return [][]byte{b[:from], b[from:to], b[to:]}
}
