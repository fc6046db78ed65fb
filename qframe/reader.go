package qframe

import (
	"bifold/api"
	"bifold/num"
)

// reader: bytes that aren't read yet; bad, if something that must be there isn't, or can't be so.
type reader struct {
	b   []byte
	bad bool
}

func (r *reader) number() uint64 {
	v, n, e := num.ReadVar(r.b)
	if e != api.OK {
		r.bad = true
	}
	r.b = r.b[n:]
	return v
}

// take: the next n bytes.
func (r *reader) take(n uint64) []byte {
	if n > uint64(len(r.b)) {
		r.bad = true
		return nil
	}
	taken := append([]byte(nil), r.b[:n]...)
	r.b = r.b[n:]
	return taken
}

// frame: what stands behind a type that stands in bytes so.
func (r *reader) frame(wire uint64) api.QFrame {
	f := named(wire)
	has, ok := layout(wire)
	if !ok {
		r.bad = true
	}
	for i, field := range []*uint64{&f.Id, &f.Code, &f.Max, &f.Off} {
		if has>>i&1 != 0 {
			*field = r.number()
		}
	}
	switch {
	case has&hasB != 0:
		f.B = r.take(r.size(wire, has))
	case has&hasRanges != 0:
		r.ack(&f)
	case has&hasN != 0:
		f.N = r.noughts() + 1 // its type is one, too
	}
	return f
}

// size: how many bytes are B's.
func (r *reader) size(wire uint64, has int) uint64 {
	switch {
	case has&hasSize != 0:
		return r.number()
	case wire == api.QNewId:
		id, _ := num.ReadBig(r.take(1), 1)
		return id + tokenBytes
	case isStream(wire):
		return uint64(len(r.b))
	}
	return pathBytes
}

func (r *reader) ack(f *api.QFrame) {
	last := r.number()
	f.Delay = r.number()
	more := r.number()
	for ; !r.bad; more-- {
		down := r.number()
		if down > last || len(f.Ranges) == api.MaxRanges {
			r.bad = true
			return
		}
		first := last - down
		f.Ranges = append(f.Ranges, api.Range{First: first, Last: last})
		if more == 0 {
			return
		}
		gap := r.number() + 2
		if gap > first {
			r.bad = true
			return
		}
		last = first - gap
	}
}

// noughts: how many stand together.
func (r *reader) noughts() int {
	n := 0
	for n < len(r.b) && r.b[n] == 0 {
		n++
	}
	r.b = r.b[n:]
	return n
}
