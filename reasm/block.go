package reasm

import (
	"math/bits"
)

const blockSize = 64 // as many bytes as a number has bits

// block: so many bytes of the stream side by side, of which some came. What it takes up doesn't hang on how small the pieces were.
type block struct {
	there uint64 // a bit for each byte
	b     [blockSize]byte
}

// fill: the bytes b, which it has room for from at on, are there, where none were; how many are new.
func (k *block) fill(at int, b []byte) int {
	fresh := 0
	for i, c := range b {
		bit := uint64(1) << (at + i)
		if k.there&bit == 0 {
			k.there |= bit
			k.b[at+i] = c
			fresh++
		}
	}
	return fresh
}

// from: the bytes that are there side by side from at on; none of a block that isn't.
func (k *block) from(at int) []byte {
	if k == nil {
		return nil
	}
	n := bits.TrailingZeros64(^(k.there >> at))
	return k.b[at : at+n]
}

// keep: what of b isn't there yet and wasn't read is there.
func (r *Buffer) keep(off uint64, b []byte) {
	if off < r.read {
		old := min(r.read-off, uint64(len(b)))
		off, b = off+old, b[old:]
	}
	for len(b) > 0 {
		at := int(off % blockSize)
		n := min(len(b), blockSize-at)
		r.held += r.block(off/blockSize).fill(at, b[:n])
		off, b = off+uint64(n), b[n:]
	}
}

// block: that of this number; one that wasn't there is from now on.
func (r *Buffer) block(i uint64) *block {
	k := r.blocks[i]
	if k == nil {
		k = &block{}
		r.blocks[i] = k
	}
	return k
}

// pass: the next n bytes, of one block, were read.
func (r *Buffer) pass(n int) {
	i := r.read / blockSize
	r.read += uint64(n)
	r.held -= n
	// Where nothing is held, what a block has was read.
	if r.read/blockSize != i || r.held == 0 {
		delete(r.blocks, i)
	}
}
