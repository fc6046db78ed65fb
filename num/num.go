// Package num: numbers on wires: QUIC's variable-length integers, HPACK's prefixed integers and plain big-endian ones. See doc/01-num.md.
package num

import (
	"bifold/api"
)

const (
	mostBytes  = 8  // of a uint64
	mostBehind = 10 // bytes of a prefixed number, behind its first
)

// Var: b, and behind it each of v in the fewest bytes; ErrNum, if one is above api.MaxVar.
func Var(b []byte, v ...uint64) ([]byte, api.Errno) {
	size := 0
	for _, x := range v {
		n := VarLen(x)
		if n == 0 {
			return nil, api.ErrNum
		}
		size += n
	}
	out := grown(b, size)
	for _, x := range v {
		class, _ := varClass(x)
		mark := uint64(class) << (8<<class - 2)
		out = putBig(out, mark|x, 1<<class)
	}
	return out, api.OK
}

// ReadVar: the number that b begins with, and how many bytes it took.
func ReadVar(b []byte) (uint64, int, api.Errno) {
	if len(b) == 0 {
		return 0, 0, api.ErrMore
	}
	n := 1 << (b[0] >> 6)
	v, ok := ReadBig(b, n)
	if !ok {
		return 0, 0, api.ErrMore
	}
	return v & (uint64(1)<<(8*n-2) - 1), n, api.OK
}

// VarLen: how many bytes Var writes for v; 0 above api.MaxVar.
func VarLen(v uint64) int {
	class, ok := varClass(v)
	if !ok {
		return 0
	}
	return 1 << class
}

// varClass: what the two highest bits say of v: it takes 1<<class bytes.
func varClass(v uint64) (int, bool) {
	for class := range 4 {
		if v>>(8<<class-2) == 0 {
			return class, true
		}
	}
	return 0, false
}

// Prefix: b, and behind it v in a prefix of so many bits, below the bits of first.
func Prefix(b []byte, first byte, bits int, v uint64) []byte {
	full := fullPrefix(bits)
	high := first &^ byte(full)
	out := grown(b, 1+mostBehind)
	if v < full {
		return append(out, high|byte(v))
	}
	out = append(out, high|byte(full))
	for v -= full; v >= 128; v >>= 7 {
		out = append(out, byte(v)|128)
	}
	return append(out, byte(v))
}

// ReadPrefix: the number that b begins with, in a prefix of so many bits, and how many bytes it took.
func ReadPrefix(b []byte, bits int) (uint64, int, api.Errno) {
	if len(b) == 0 {
		return 0, 0, api.ErrMore
	}
	full := fullPrefix(bits)
	v := uint64(b[0]) & full
	if v < full {
		return v, 1, api.OK
	}
	for i, c := range b[1:] {
		part := uint64(c & 127)
		// What is left up to the limit is shifted down, not the part up: that would wrap.
		if part > (api.MaxVar-v)>>(7*i) {
			return 0, 0, api.ErrNum
		}
		v += part << (7 * i)
		if c < 128 {
			return v, i + 2, api.OK
		}
		if i+1 == mostBehind {
			return 0, 0, api.ErrNum
		}
	}
	return 0, 0, api.ErrMore
}

// fullPrefix: the prefix of so many bits that are all ones: the number goes on behind it.
func fullPrefix(bits int) uint64 {
	return uint64(1)<<clamp(bits, 1, 8) - 1
}

// Big: b, and behind it v's lowest n bytes, the highest first.
func Big(b []byte, v uint64, n int) []byte {
	n = clamp(n, 0, mostBytes)
	return putBig(grown(b, n), v, n)
}

// ReadBig: the number of b's first n bytes, and whether there are so many.
func ReadBig(b []byte, n int) (uint64, bool) {
	if n < 0 || n > mostBytes || n > len(b) {
		return 0, false
	}
	v := uint64(0)
	for _, c := range b[:n] {
		v = v<<8 | uint64(c)
	}
	return v, true
}

func putBig(b []byte, v uint64, n int) []byte {
	for i := n - 1; i >= 0; i-- {
		b = append(b, byte(v>>(8*i)))
	}
	return b
}

// grown: a copy of b with room for n more: b's own spare room is the caller's.
func grown(b []byte, n int) []byte {
	return append(make([]byte, 0, len(b)+n), b...)
}

func clamp(n, least, most int) int {
	return min(max(n, least), most)
}
