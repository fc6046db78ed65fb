package qenc

import (
	"math/rand"
	"slices"
	"strconv"
	"strings"
	"testing"

	"bifold/api"
	"bifold/dyn"
	"bifold/huff"
	"bifold/num"
	"bifold/static"
)

// peer: reads what an encoder writes, as RFC 9204 has it, with a table of its own, and tells what it has read.
type peer struct {
	t     *testing.T
	table *dyn.Table
	limit int
	rest  []byte // of the encoder stream
	told  uint64 // entries that the encoder was told of
	says  []byte // bytes of the decoder stream
}

// text9204: the string behind the bits of b's first byte that are above its sign and its length.
func text9204(b []byte, bits int) (string, []byte, bool) {
	n, from, e := num.ReadPrefix(b, bits)
	if e != api.OK || uint64(len(b)-from) < n {
		return "", nil, false
	}
	rest := b[from:]
	if b[0]>>bits&1 == 0 {
		return string(rest[:n]), rest[n:], true
	}
	s, e := huff.Decode(rest[:n])
	return s, rest[n:], e == api.OK
}

// feed: does the instructions that are whole.
func (p *peer) feed(b []byte) {
	p.rest = append(p.rest, b...)
	for len(p.rest) > 0 {
		rest, ok := p.order(p.rest)
		if !ok {
			return
		}
		p.rest = rest
	}
}

func (p *peer) order(b []byte) ([]byte, bool) {
	var f api.Field
	ok := true
	switch {
	case b[0]>>5 == 0b001:
		n, took, e := num.ReadPrefix(b, 5)
		if e != api.OK {
			return nil, false
		}
		if n > uint64(p.limit) {
			p.t.Fatalf("a capacity of %d", n)
		}
		p.table.Resize(int(n))
		return b[took:], true
	case b[0]>>6 == 0b11:
		i, took, e := num.ReadPrefix(b, 6)
		if e != api.OK {
			return nil, false
		}
		named, there := static.H3(i)
		if !there {
			p.t.Fatalf("entry %d", i)
		}
		f.Name, b = named.Name, b[took:]
	case b[0]>>6 == 0b01:
		f.Name, b, ok = text9204(b, 5)
	default:
		p.t.Fatalf("an instruction that begins with %x", b[0])
	}
	if ok {
		f.Value, b, ok = text9204(b, 7)
	}
	if !ok {
		return nil, false
	}
	count := p.table.Count()
	if p.table.Add(f); p.table.Count() != count+1 {
		p.t.Fatalf("%q has no room", f)
	}
	return b, true
}

// needs: how many entries must be there to read the section: as the RFC reckons it (4.5.1.1).
func (p *peer) needs(section []byte) (uint64, []byte) {
	enc, took, e := num.ReadPrefix(section, 8)
	most := uint64(p.limit / 32)
	if e != api.OK || enc > 2*most {
		p.t.Fatalf("a section that begins with %x", section)
	}
	if section[took] != 0 {
		p.t.Fatalf("a base that isn't the count: %x", section)
	}
	if enc == 0 {
		return 0, section[took+1:]
	}
	above := p.table.Count() + most
	count := above/(2*most)*(2*most) + enc - 1
	if count > above {
		count -= 2 * most
	}
	return count, section[took+1:]
}

// read: the fields of a section's lines; its base is its count.
func (p *peer) read(count uint64, b []byte) []api.Field {
	var l []api.Field
	greatest := uint64(0)
	for len(b) > 0 {
		f, rest, place := p.line(count, b)
		l, b, greatest = append(l, f), rest, max(greatest, place)
	}
	if greatest != count {
		p.t.Fatalf("a count of %d, but %d is the greatest place", count, greatest)
	}
	return l
}

// line: a field, what is left behind it, and one more than the place that it names.
func (p *peer) line(count uint64, b []byte) (api.Field, []byte, uint64) {
	bits, literal := 6, false
	switch {
	case b[0]>>6 == 0b01:
		bits, literal = 4, true
	case b[0]>>5 == 0b001:
		name, rest, ok := text9204(b, 3)
		value, rest, ok2 := text9204(rest, 7)
		if !ok || !ok2 {
			p.t.Fatalf("a literal: %x", b)
		}
		p.never(b[0]>>4&1, name)
		return pair(name, value), rest, 0
	case b[0]>>7 == 0:
		p.t.Fatalf("a line that begins with %x", b[0])
	}
	i, took, e := num.ReadPrefix(b, bits)
	fixed := b[0]>>bits&1 == 1
	f, ok := static.H3(i)
	place := uint64(0)
	if !fixed {
		f, ok = p.table.At(count - 1 - i)
		place = count - i
	}
	if e != api.OK || !ok || literal && !fixed {
		p.t.Fatalf("%x: entry %d of %d isn't there (static: %v)", b, i, count, fixed)
	}
	rest := b[took:]
	if literal {
		p.never(b[0]>>5&1, f.Name)
		if f.Value, rest, ok = text9204(rest, 7); !ok {
			p.t.Fatalf("a value: %x", b)
		}
	}
	return f, rest, place
}

func (p *peer) never(bit byte, name string) {
	if (bit == 1) != slowSecret(name) {
		p.t.Fatalf("%q: never indexed: %d", name, bit)
	}
}

// flight: a section that is on its way.
type flight struct {
	section []byte
	fields  []api.Field
}

// world: an encoder and its peer; bytes of each stream come in order, those of several ones in any.
type world struct {
	*peer
	rnd     *rand.Rand
	e       *Encoder
	blocked int
	orders  []byte
	streams map[uint64][]flight
	ids     []uint64
	decoded int
	waits   int
}

// arrive: the first section of a stream comes, if it needn't wait.
func (w *world) arrive(stream uint64) {
	q := w.streams[stream]
	if len(q) == 0 {
		return
	}
	count, lines := w.needs(q[0].section)
	if count > w.table.Count() {
		w.waits++
		return
	}
	if got := w.read(count, lines); !slices.Equal(got, q[0].fields) {
		w.t.Fatalf("stream %d: %q, not %q", stream, got, q[0].fields)
	}
	w.decoded++
	w.streams[stream] = q[1:]
	if count > 0 {
		w.says = append(w.says, num.Prefix(nil, 0x80, 7, stream)...)
		w.told = max(w.told, count)
	}
}

// countWaiting: never more streams wait than may, whatever has come of each.
func (w *world) countWaiting() {
	n := 0
	for _, q := range w.streams {
		if slices.ContainsFunc(q, func(x flight) bool {
			count, _ := w.needs(x.section)
			return count > w.table.Count()
		}) {
			n++
		}
	}
	if n > w.blocked {
		w.t.Fatalf("%d streams wait, %d may", n, w.blocked)
	}
}

// cancel: the peer gives a stream up; the encoder uses it no more.
func (w *world) cancel(i int) {
	stream := w.ids[i]
	w.streams[stream] = nil
	w.says = append(w.says, num.Prefix(nil, 0x40, 6, stream)...)
	w.ids[i] = stream + 600
}

func (w *world) step() {
	i := w.rnd.Intn(len(w.ids))
	switch w.rnd.Intn(8) {
	case 0, 1:
		l := someFields(w.rnd)
		orders, section := w.e.Encode(w.ids[i], l...)
		w.orders = append(w.orders, orders...)
		w.streams[w.ids[i]] = append(w.streams[w.ids[i]], flight{section, l})
	case 2:
		n := w.rnd.Intn(len(w.orders) + 1)
		w.feed(w.orders[:n])
		w.orders = w.orders[n:]
	case 3, 4, 5:
		w.arrive(w.ids[i])
	case 6:
		w.tell(w.rnd.Intn(len(w.says) + 1))
	case 7:
		if w.rnd.Intn(10) == 0 {
			w.cancel(i)
		}
		if more := w.table.Count() - w.told; more > 0 && w.rnd.Intn(3) == 0 {
			w.says = append(w.says, num.Prefix(nil, 0, 6, more)...)
			w.told += more
		}
	}
}

func (w *world) tell(n int) {
	if e := w.e.Feed(w.says[:n]); e != api.OK {
		w.t.Fatalf("Feed(%x): %v", w.says[:n], e)
	}
	w.says = w.says[n:]
}

// end: all that is on its way comes, and is told.
func (w *world) end() {
	w.feed(w.orders)
	for _, stream := range w.ids {
		for len(w.streams[stream]) > 0 {
			was := w.waits
			if w.arrive(stream); w.waits > was {
				w.t.Fatalf("stream %d waits for ever", stream)
			}
		}
	}
	w.tell(len(w.says))
	if len(w.e.sections)+len(w.e.queues)+len(w.e.uses)+len(w.e.blocked) > 0 {
		w.t.Fatalf("all is acknowledged, but %v, %v, %v, %v are kept", w.e.sections, w.e.queues, w.e.uses, w.e.blocked)
	}
	if !slices.Equal(stand(w.e.Table()), stand(w.table)) || w.e.Known() != w.told {
		w.t.Fatalf("%q and %q; %d known, %d told", stand(w.e.Table()), stand(w.table), w.e.Known(), w.told)
	}
}

func TestReadBack(t *testing.T) { // P9.4
	rnd := rand.New(rand.NewSource(94))
	decoded, waits, went := 0, 0, 0
	for range 300 {
		capacity, blocked := []int{0, 100, 128, 136, 160, 200, 300, 400, 1300, 4096}[rnd.Intn(10)], rnd.Intn(4)
		w := &world{
			peer:    &peer{t: t, table: dyn.New(0), limit: capacity},
			rnd:     rnd,
			e:       New(capacity, blocked),
			blocked: blocked,
			streams: map[uint64][]flight{},
			ids:     []uint64{0, 100, 200, 300, 400, 500},
		}
		for range 400 {
			w.step()
			w.countWaiting()
		}
		w.end()
		decoded, waits, went = decoded+w.decoded, waits+w.waits, went+int(w.table.Count())-w.table.Len()
	}
	if decoded < 20000 || waits < 500 || went < 500 {
		t.Errorf("only %d were read, %d waited, %d went", decoded, waits, went)
	}
}

// TestReadBackLong: names, values, lists and places of all lengths.
func TestReadBackLong(t *testing.T) { // P9.4
	e, p := New(4096, 1), &peer{t: t, table: dyn.New(0), limit: 4096}
	for n := range 300 {
		s := strings.Repeat("~", n*7)
		l := []api.Field{pair(s, "v"), pair("n", s), pair("cookie", s), pair(":path", s), pair("m"+strconv.Itoa(n), ""), pair(s, s)}
		for range n % 5 {
			l = append(l, l...)
		}
		orders, section := e.Encode(uint64(n), l...)
		p.feed(orders)
		count, lines := p.needs(section)
		if got := p.read(count, lines); !slices.Equal(got, l) || len(p.rest) > 0 {
			t.Fatalf("%.200q, not %.200q", got, l)
		}
		if count > 0 && e.Feed(num.Prefix(nil, 0x80, 7, uint64(n))) != api.OK {
			t.Fatalf("the section isn't there")
		}
	}
}
