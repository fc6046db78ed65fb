package qenc

import (
	"maps"
	"slices"

	"bifold/api"
	"bifold/num"
)

// Feed: bytes of the decoder stream: they say what the peer has read and has.
func (e *Encoder) Feed(b []byte) api.Errno {
	if e.wrong != api.OK {
		return e.wrong
	}
	rest := slices.Concat(e.rest, b)
	for len(rest) > 0 {
		n, wrong := e.instruction(rest)
		if wrong == api.ErrMore {
			break
		}
		if wrong != api.OK {
			e.rest, e.wrong = nil, wrong
			return wrong
		}
		rest = rest[n:]
	}
	e.rest = slices.Clone(rest) // a piece would keep the whole of it
	return api.OK
}

// instruction: does the one that b begins with, and answers how many bytes it took.
func (e *Encoder) instruction(b []byte) (int, api.Errno) {
	bits := 6
	if b[0]>>7 == 1 {
		bits = 7
	}
	v, n, wrong := num.ReadPrefix(b, bits)
	if wrong != api.OK {
		return 0, wrong
	}
	switch b[0] >> 6 {
	case 0b00:
		wrong = e.increment(v)
	case 0b01:
		e.cancel(v)
	default:
		wrong = e.acknowledge(v)
	}
	return n, wrong
}

// acknowledge: the peer has read stream's first section, and so has all entries that it needs.
func (e *Encoder) acknowledge(stream uint64) api.Errno {
	need, ok := e.forget(stream)
	if !ok {
		return api.ErrBlock
	}
	e.learn(need)
	return api.OK
}

// cancel: the peer won't read any of stream's sections.
func (e *Encoder) cancel(stream uint64) {
	q := e.queues[stream]
	for range q.next - q.first {
		e.forget(stream)
	}
	delete(e.blocked, stream)
}

// increment: the peer has so many entries more.
func (e *Encoder) increment(n uint64) api.Errno {
	if n == 0 || n > e.table.Count()-e.known {
		return api.ErrBlock
	}
	e.learn(e.known + n)
	return api.OK
}

// learn: the peer has at least so many entries.
func (e *Encoder) learn(n uint64) {
	if n <= e.known {
		return
	}
	e.known = n
	maps.DeleteFunc(e.blocked, func(_, place uint64) bool { return place < n })
}
