package hdec

import (
	"bifold/api"
	"bifold/dyn"
	"bifold/num"
	"bifold/static"
)

const (
	newest      = 62 // the index of the table's newest entry, behind the static ones
	mostUpdates = 2  // of a block
)

// draft: a block that is being read. A wrong one changes nothing, so that the decoder's table stays as it is till all of the block is known.
type draft struct {
	rest   []byte
	limit  int
	table  *dyn.Table // the decoder's, or a copy, as soon as the block changes it
	fields []api.Field
	sizes  []int       // the capacities that it sets: they stand ahead of all fields,
	added  []api.Field // and so ahead of what it adds
}

// read: whether the block is a good one; must: whether it has to begin with a size update.
func (r *draft) read(must bool) bool {
	for len(r.rest) > 0 && isUpdate(r.rest[0]) {
		if !r.update() {
			return false
		}
	}
	if must && len(r.sizes) == 0 {
		return false
	}
	for len(r.rest) > 0 {
		if len(r.fields) == api.MaxFields || !r.field() {
			return false
		}
	}
	return true
}

// apply: does to t what the block does to its table.
func (r *draft) apply(t *dyn.Table) {
	for _, n := range r.sizes {
		t.Resize(n)
	}
	t.Add(r.added...)
}

func isUpdate(first byte) bool {
	return first>>5 == 0b001
}

func (r *draft) update() bool {
	n, ok := r.number(5)
	if !ok || n > uint64(r.limit) || len(r.sizes) == mostUpdates {
		return false
	}
	r.own().Resize(int(n))
	r.sizes = append(r.sizes, int(n))
	return true
}

// field: the next field, of whichever kind: a size update is none.
func (r *draft) field() bool {
	first := r.rest[0]
	switch {
	case first>>7 == 1:
		return r.indexed()
	case first>>6 == 0b01:
		return r.literal(6, true)
	case isUpdate(first):
		return false
	}
	return r.literal(4, false) // never indexed or not now: it is read alike
}

func (r *draft) indexed() bool {
	i, ok := r.number(7)
	if !ok {
		return false
	}
	f, ok := r.entry(i)
	r.fields = append(r.fields, f)
	return ok
}

// literal: a field whose name's index, or 0, stands in a prefix of so many bits.
func (r *draft) literal(bits int, add bool) bool {
	name, ok := r.name(bits)
	if !ok {
		return false
	}
	value, ok := r.text()
	if !ok {
		return false
	}
	f := api.Field{Name: name, Value: value}
	r.fields = append(r.fields, f)
	if add {
		r.own().Add(f)
		r.added = append(r.added, f)
	}
	return true
}

func (r *draft) name(bits int) (string, bool) {
	i, ok := r.number(bits)
	if !ok {
		return "", false
	}
	if i == 0 {
		return r.text()
	}
	f, ok := r.entry(i)
	return f.Name, ok
}

// entry: what stands at index i, in the static table or behind it.
func (r *draft) entry(i uint64) (api.Field, bool) {
	if i < newest {
		return static.H2(i)
	}
	return r.table.Newest(i - newest)
}

func (r *draft) number(bits int) (uint64, bool) {
	v, n, e := num.ReadPrefix(r.rest, bits)
	r.rest = r.rest[n:]
	return v, e == api.OK
}

func (r *draft) text() (string, bool) {
	s, n, e := Str(r.rest)
	r.rest = r.rest[n:]
	return s, e == api.OK
}

// own: the table that the block may change: a copy, made ahead of the first change.
func (r *draft) own() *dyn.Table {
	if len(r.sizes) == 0 && len(r.added) == 0 {
		r.table = copied(r.table)
	}
	return r.table
}

// copied: a table of what stands in t; its absolute numbers begin anew, but no block tells those.
func copied(t *dyn.Table) *dyn.Table {
	c := dyn.New(t.Cap())
	for i := t.Len() - 1; i >= 0; i-- {
		f, _ := t.Newest(uint64(i))
		c.Add(f)
	}
	return c
}
