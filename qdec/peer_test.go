package qdec

import (
	"math/rand"
	"slices"
	"strings"
	"testing"

	"bifold/api"
	"bifold/qenc"
)

// flight: a section that is on its way.
type flight struct {
	section []byte
	fields  []api.Field
}

// world: an encoder and its decoder; bytes of each stream come in order, those of several ones in any.
type world struct {
	t       *testing.T
	rnd     *rand.Rand
	e       *qenc.Encoder
	d       *Decoder
	orders  []byte // of the encoder stream, on their way
	says    []byte // of the decoder stream
	streams map[uint64][]flight
	ids     []uint64
	waiting []uint64 // streams
	read    int
	waits   int
}

func newWorld(t *testing.T, rnd *rand.Rand, capacity, blocked int) *world {
	return &world{
		t:       t,
		rnd:     rnd,
		e:       qenc.New(capacity, blocked),
		d:       New(capacity, blocked),
		streams: map[uint64][]flight{},
		ids:     []uint64{0, 100, 200, 300, 400, 500},
	}
}

// arrive: the first section of a stream comes, or comes again.
func (w *world) arrive(stream uint64) {
	q := w.streams[stream]
	if len(q) == 0 {
		return
	}
	got, e := w.d.Decode(stream, q[0].section)
	w.waiting = slices.DeleteFunc(w.waiting, func(x uint64) bool { return x == stream })
	switch {
	case e == api.ErrWait:
		w.waiting = append(w.waiting, stream)
		w.waits++
	case e != api.OK || !slices.Equal(got, q[0].fields):
		w.t.Fatalf("stream %d: Decode(%x): %q, %v, not %q", stream, q[0].section, got, e, q[0].fields)
	default:
		w.read++
		w.streams[stream] = q[1:]
	}
}

// feed: the decoder gets the first n bytes that are on their way to it. What waits comes again at once: a stream waits till it is asked, and only so many may.
func (w *world) feed(n int) {
	if e := w.d.Feed(w.orders[:n]); e != api.OK {
		w.t.Fatalf("the decoder's Feed(%x): %v", w.orders[:n], e)
	}
	w.orders = w.orders[n:]
	for _, stream := range slices.Clone(w.waiting) {
		w.arrive(stream)
	}
}

// tell: the encoder gets the first n bytes that are on their way to it.
func (w *world) tell(n int) {
	if e := w.e.Feed(w.says[:n]); e != api.OK {
		w.t.Fatalf("the encoder's Feed(%x): %v", w.says[:n], e)
	}
	w.says = w.says[n:]
}

// cancel: the decoder gives a stream up; the encoder uses it no more.
func (w *world) cancel(i int) {
	stream := w.ids[i]
	w.streams[stream] = nil
	w.waiting = slices.DeleteFunc(w.waiting, func(x uint64) bool { return x == stream })
	w.d.Cancel(stream)
	w.ids[i] = stream + 600
}

func (w *world) step() {
	i := w.rnd.Intn(len(w.ids))
	switch w.rnd.Intn(9) {
	case 0, 1:
		l := fieldsOf(w.rnd)
		orders, section := w.e.Encode(w.ids[i], l...)
		w.orders = append(w.orders, orders...)
		w.streams[w.ids[i]] = append(w.streams[w.ids[i]], flight{section, l})
	case 2:
		w.feed(w.rnd.Intn(len(w.orders) + 1))
	case 3, 4, 5:
		w.arrive(w.ids[i])
	case 6:
		w.tell(w.rnd.Intn(len(w.says) + 1))
	case 7:
		w.says = append(w.says, w.d.Send()...)
	case 8:
		if w.rnd.Intn(10) == 0 {
			w.cancel(i)
		}
	}
}

// end: all that is on its way comes: what waits is read.
func (w *world) end() {
	w.feed(len(w.orders))
	for _, stream := range w.ids {
		for n := len(w.streams[stream]); n > 0; n-- {
			w.arrive(stream)
		}
		if len(w.streams[stream]) > 0 {
			w.t.Fatalf("stream %d waits for ever", stream)
		}
	}
	w.says = append(w.says, w.d.Send()...)
	w.tell(len(w.says))
	e, d := w.e.Table(), w.d.Table()
	if !slices.Equal(stand(e), stand(d)) || e.Count() != d.Count() || w.e.Known() != d.Count() {
		w.t.Fatalf("%q and %q; %d inserted, %d known", stand(e), stand(d), d.Count(), w.e.Known())
	}
}

func fieldsOf(rnd *rand.Rand) []api.Field {
	names := []string{":method", ":path", ":status", "cookie", "authorization", "age", "x-frame-options", "a", "b", "custom-key", "", "\x00\xff"}
	values := []string{"GET", "/", "200", "", "0", "1", "2", "3", "custom-value", "\r\n\x80", strings.Repeat("v", 30), strings.Repeat("~", 300)}
	var l []api.Field
	for range rnd.Intn(6) {
		l = append(l, pair(names[rnd.Intn(len(names))], values[rnd.Intn(len(values))]))
	}
	return l
}

// TestWhatWaitsIsRead: whatever order the streams come in, all that an encoder writes is read, and it is told so.
func TestWhatWaitsIsRead(t *testing.T) { // P10.4; P10.1, P10.2 and P10.3 with the encoder
	rnd := rand.New(rand.NewSource(104))
	read, waits, went := 0, 0, 0
	for range 150 {
		capacity := []int{0, 100, 128, 136, 160, 200, 300, 400, 1300, 4096}[rnd.Intn(10)]
		w := newWorld(t, rnd, capacity, rnd.Intn(5))
		for range 400 {
			w.step()
			if w.d.Waiting() != len(w.waiting) {
				t.Fatalf("%d wait, not %d", w.d.Waiting(), len(w.waiting))
			}
		}
		w.end()
		read, waits, went = read+w.read, waits+w.waits, went+int(w.d.Table().Count())-w.d.Table().Len()
	}
	if read < 9000 || waits < 400 || went < 300 {
		t.Errorf("only %d were read, %d waited, %d went", read, waits, went)
	}
}
