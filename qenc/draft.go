package qenc

import (
	"slices"

	"bifold/api"
	"bifold/field"
	"bifold/henc"
	"bifold/num"
	"bifold/qtab"
	"bifold/static"
)

// draft: a section that is being written.
type draft struct {
	encoder *Encoder
	stream  uint64
	orders  []byte   // to the peer's table: bytes of the encoder stream
	places  []uint64 // that it uses, each once
	lines   []line
}

// line: of a section: its bytes; or, where dynamic, the place that it names. How that is written hangs on the section's count, which is known at the end.
type line struct {
	bytes   []byte
	dynamic bool
	place   uint64
}

// field: the line of f, and what has to be ordered for it.
func (d *draft) field(f api.Field) {
	i, named, whole := static.FindH3(f)
	if whole {
		d.lines = append(d.lines, line{bytes: number(0b11, 6, i)})
		return
	}
	table := d.encoder.table
	place, _, stands := table.Find(f)
	if !stands && d.encoder.mayInsert(f) {
		place, stands = table.Count(), true
		table.Add(f)
		d.orders = append(d.orders, insertion(i, named, f)...)
	}
	if stands && d.encoder.mayUse(d.stream, place) {
		d.use(place)
		return
	}
	d.lines = append(d.lines, line{bytes: literal(i, named, f)})
}

// use: a line that names the place.
func (d *draft) use(place uint64) {
	again := slices.Contains(d.places, place)
	if !again {
		d.places = append(d.places, place)
	}
	d.encoder.use(d.stream, place, again)
	d.lines = append(d.lines, line{dynamic: true, place: place})
}

// section: all of it. Its base is its count, so that no place lies above that.
func (d *draft) section() []byte {
	base := count(d.places)
	b := qtab.Prefix(nil, base, base, d.encoder.table.Cap())
	for _, x := range d.lines {
		if x.dynamic {
			x.bytes = number(0b10, 6, base-1-x.place)
		}
		b = append(b, x.bytes...)
	}
	return b
}

// mayInsert: whether f, which doesn't stand in the table, is to.
func (e *Encoder) mayInsert(f api.Field) bool {
	size := field.Size(f)
	return !secret(f.Name) && size <= e.table.Cap()>>2 && e.hasRoom(size)
}

// hasRoom: whether so much fits, if the entries go that nobody needs any more.
func (e *Encoder) hasRoom(size int) bool {
	over := e.table.Size() + size - e.table.Cap()
	oldest := e.table.Count() - uint64(e.table.Len())
	for place := oldest; over > 0; place++ {
		if place >= e.known || e.uses[place] > 0 {
			return false
		}
		f, _ := e.table.At(place)
		over -= field.Size(f)
	}
	return true
}

// setCapacity: the instruction (RFC 9204, 4.3.1).
func setCapacity(n int) []byte {
	return number(0b001, 5, uint64(n))
}

// insertion: the instruction that inserts f, by entry i's name, if that is named (4.3.2), or by its own (4.3.3).
func insertion(i uint64, named bool, f api.Field) []byte {
	if named {
		return henc.Str(number(0b11, 6, i), f.Value)
	}
	return henc.Str(text(0b01, 5, f.Name), f.Value)
}

// literal: the line that has f in full, by entry i's name, if that is named (4.5.4), or by its own (4.5.6).
func literal(i uint64, named bool, f api.Field) []byte {
	never := byte(0)
	if secret(f.Name) {
		never = 1
	}
	if named {
		return henc.Str(number(0b01<<2|never<<1|1, 4, i), f.Value)
	}
	return henc.Str(text(0b001<<1|never, 3, f.Name), f.Value)
}

// text: s as henc.Str writes it, but below a mark: that leaves so many bits for its length, behind the one that says how it is coded.
func text(mark byte, bits int, s string) []byte {
	b := henc.Str(nil, s)
	coded := b[0] >> 7
	size, from, _ := num.ReadPrefix(b, 7)
	return append(number(mark<<1|coded, bits, size), b[from:]...)
}

// number: v in a prefix of so many bits, below the mark.
func number(mark byte, bits int, v uint64) []byte {
	return num.Prefix(nil, mark<<bits, bits, v)
}

// secret: whether no table may keep what stands behind that name, here or further on.
func secret(name string) bool {
	return name == "authorization" || name == "cookie" || name == "set-cookie"
}
