package qdec

import (
	"bifold/api"
	"bifold/dyn"
	"bifold/hdec"
	"bifold/num"
	"bifold/qtab"
	"bifold/static"
)

// reader: reads the lines of a section.
type reader struct {
	rest        []byte
	table       *dyn.Table
	count, base uint64
}

// fields: of all lines; false, if one is wrong, or there are too many.
func (r *reader) fields() ([]api.Field, bool) {
	var l []api.Field
	for len(r.rest) > 0 {
		f, ok := r.line()
		if !ok || len(l) == api.MaxFields {
			return nil, false
		}
		l = append(l, f)
	}
	return l, true
}

// line: the next one (RFC 9204, 4.5.2 to 4.5.6). Whether it is never to be indexed is of no use here.
func (r *reader) line() (api.Field, bool) {
	first := r.rest[0]
	switch {
	case first>>7 == 0b1:
		return r.entry(6)
	case first>>6 == 0b01:
		return r.valued(r.entry(4))
	case first>>5 == 0b001:
		return r.valued(r.named())
	case first>>4 == 0b0001:
		return r.above(4)
	}
	return r.valued(r.above(3))
}

// entry: the one whose index has so many bits: the bit ahead of them says of which table it is.
func (r *reader) entry(bits int) (api.Field, bool) {
	fixed := r.rest[0]>>bits&1 == 1
	i, ok := r.number(bits)
	if !ok {
		return api.Field{}, false
	}
	if fixed {
		return static.H3(i)
	}
	return r.at(qtab.Relative(r.base, i))
}

// above: the one whose index, from the base upwards, has so many bits.
func (r *reader) above(bits int) (api.Field, bool) {
	i, ok := r.number(bits)
	if !ok {
		return api.Field{}, false
	}
	return r.at(qtab.Post(r.base, i))
}

// at: the table's entry abs, if ok: one that the section's count doesn't tell of is none of its.
func (r *reader) at(abs uint64, ok bool) (api.Field, bool) {
	if !ok || abs >= r.count {
		return api.Field{}, false
	}
	return r.table.At(abs)
}

// named: a field that has a name of its own, but no value yet.
func (r *reader) named() (api.Field, bool) {
	name, n, e := text(r.rest, 3)
	if e != api.OK {
		return api.Field{}, false
	}
	r.rest = r.rest[n:]
	return api.Field{Name: name}, true
}

// valued: f's name, if ok, with the value that comes next.
func (r *reader) valued(f api.Field, ok bool) (api.Field, bool) {
	if !ok {
		return api.Field{}, false
	}
	value, n, e := hdec.Str(r.rest)
	if e != api.OK {
		return api.Field{}, false
	}
	r.rest = r.rest[n:]
	return api.Field{Name: f.Name, Value: value}, true
}

func (r *reader) number(bits int) (uint64, bool) {
	v, n, e := num.ReadPrefix(r.rest, bits)
	r.rest = r.rest[n:]
	return v, e == api.OK
}
