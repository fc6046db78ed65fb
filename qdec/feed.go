package qdec

import (
	"slices"

	"bifold/api"
	"bifold/hdec"
	"bifold/num"
	"bifold/static"
)

// overhead: what an entry takes of the capacity beside its name and its value (RFC 9204, 3.2.1).
const overhead = 32

// Feed: bytes of the encoder stream: they change the table.
func (d *Decoder) Feed(b []byte) api.Errno {
	if d.broken {
		return api.ErrBlock
	}
	rest := slices.Concat(d.rest, b)
	for len(rest) > 0 {
		n, e := d.step(rest)
		if e == api.ErrMore {
			break
		}
		if e != api.OK {
			d.fail()
			return api.ErrBlock
		}
		rest = rest[n:]
	}
	d.rest = slices.Clone(rest) // a piece would keep the whole of it
	return api.OK
}

// fail: nothing is read any more, so nothing is kept for it.
func (d *Decoder) fail() {
	d.broken = true
	d.rest = nil
	d.named, d.name = false, ""
}

// step: does the instruction that b begins with, and answers how many bytes it took. An insertion takes two steps, so that its name is read once, however late its value comes.
func (d *Decoder) step(b []byte) (int, api.Errno) {
	first := b[0]
	switch {
	case d.named:
		return d.value(b)
	case first>>7 == 0b1:
		return d.nameOfEntry(b)
	case first>>6 == 0b01:
		return d.nameInFull(b)
	case first>>5 == 0b001:
		return d.resize(b)
	}
	return d.duplicate(b)
}

// resize: RFC 9204, 4.3.1.
func (d *Decoder) resize(b []byte) (int, api.Errno) {
	capacity, n, e := num.ReadPrefix(b, 5)
	if e != api.OK {
		return 0, e
	}
	if capacity > uint64(d.limit) {
		return 0, api.ErrBlock
	}
	d.table.Resize(int(capacity))
	return n, api.OK
}

// nameOfEntry: the name of an insertion, by an entry that has it (4.3.2).
func (d *Decoder) nameOfEntry(b []byte) (int, api.Errno) {
	i, n, e := num.ReadPrefix(b, 6)
	if e != api.OK {
		return 0, e
	}
	find := d.table.Newest
	if b[0]>>6&1 == 1 {
		find = static.H3
	}
	f, ok := find(i)
	if !ok {
		return 0, api.ErrBlock
	}
	d.named, d.name = true, f.Name
	return n, api.OK
}

// nameInFull: the name of an insertion (4.3.3).
func (d *Decoder) nameInFull(b []byte) (int, api.Errno) {
	name, n, e := text(b, 5)
	if e != api.OK {
		return 0, e
	}
	d.named, d.name = true, name
	return n, api.OK
}

// value: of the insertion whose name is there.
func (d *Decoder) value(b []byte) (int, api.Errno) {
	value, n, e := hdec.Str(b)
	if e != api.OK {
		return 0, e
	}
	if len(d.name)+len(value)+overhead > d.table.Cap() {
		return 0, api.ErrBlock
	}
	d.table.Add(api.Field{Name: d.name, Value: value})
	d.named, d.name = false, ""
	return n, api.OK
}

// duplicate: 4.3.4. An entry that stands has room.
func (d *Decoder) duplicate(b []byte) (int, api.Errno) {
	i, n, e := num.ReadPrefix(b, 5)
	if e != api.OK {
		return 0, e
	}
	f, ok := d.table.Newest(i)
	if !ok {
		return 0, api.ErrBlock
	}
	d.table.Add(f)
	return n, api.OK
}

// text: the string that b begins with, as hdec.Str has it, but that its length has so many bits: the one that says how it is coded stands ahead of them.
func text(b []byte, bits int) (string, int, api.Errno) {
	size, from, e := num.ReadPrefix(b, bits)
	if e != api.OK {
		return "", 0, e
	}
	coded := b[0] >> bits & 1
	body := b[from:]
	body = body[:min(size, uint64(len(body)))]
	s, _, e := hdec.Str(append(num.Prefix(nil, coded<<7, 7, size), body...))
	return s, from + len(body), e
}
