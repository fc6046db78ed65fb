package qframe

import (
	"bifold/api"
)

// What a frame may have. The first four are numbers, and stand behind the type in this order.
const (
	hasId = 1 << iota
	hasCode
	hasMax
	hasOff
	hasB
	hasSize // B's, as a number ahead of it
	hasDelay
	hasRanges
	hasN
	hasFin
	hasUni
	hasApp
)

// Bits of a type as it stands in bytes.
const (
	lowBit  = 1 // Fin, Uni or App
	sizeBit = 2 // of STREAM
	offBit  = 4 // of STREAM
)

const (
	mostStreams = 1 << 60
	mostNoughts = 1<<31 - 1 // more can't be answered in one call
	pathBytes   = 8         // of PATH_CHALLENGE and PATH_RESPONSE
	tokenBytes  = 16        // of NEW_CONNECTION_ID, behind the id
	mostId      = 20
)

// wireOf: f's type as it stands in bytes.
func wireOf(f api.QFrame) uint64 {
	wire := f.Type
	if wire == api.QStream {
		wire |= sizeBit
		if f.Off != 0 {
			wire |= offBit
		}
	}
	if f.Fin || f.Uni || f.App {
		wire |= lowBit
	}
	return wire
}

// named: a frame that has what its type, as it stands in bytes, tells by itself.
func named(wire uint64) api.QFrame {
	low := wire&lowBit != 0
	switch {
	case isStream(wire):
		return api.QFrame{Type: api.QStream, Fin: low}
	case wire>>1 == api.QMaxStreams>>1 || wire>>1 == api.QStreamsBlk>>1:
		return api.QFrame{Type: wire &^ lowBit, Uni: low}
	case wire>>1 == api.QClose>>1:
		return api.QFrame{Type: api.QClose, App: low}
	}
	return api.QFrame{Type: wire}
}

func isStream(wire uint64) bool {
	return wire>>3 == api.QStream>>3
}

// layout: what a frame has whose type stands in bytes so; false, if there is no such type.
func layout(wire uint64) (int, bool) {
	if isStream(wire) {
		return streamLayout(wire), true
	}
	switch wire {
	case api.QPadding:
		return hasN, true
	case api.QPing, api.QDone:
		return 0, true
	case api.QAck:
		return hasDelay | hasRanges, true
	case api.QReset:
		return hasId | hasCode | hasMax, true
	case api.QStop:
		return hasId | hasCode, true
	case api.QCrypto:
		return hasOff | hasSize | hasB, true
	case api.QToken:
		return hasSize | hasB, true
	case api.QMaxData, api.QDataBlk:
		return hasMax, true
	case api.QMaxStream, api.QStreamBlk:
		return hasId | hasMax, true
	case api.QMaxStreams, api.QMaxStreams | lowBit, api.QStreamsBlk, api.QStreamsBlk | lowBit:
		return hasMax | hasUni, true
	case api.QNewId:
		return hasId | hasMax | hasB, true
	case api.QRetire:
		return hasId, true
	case api.QChallenge, api.QResponse:
		return hasB, true
	case api.QClose:
		return hasCode | hasOff | hasSize | hasB, true
	case api.QClose | lowBit:
		return hasCode | hasSize | hasB | hasApp, true
	}
	return 0, false
}

func streamLayout(wire uint64) int {
	has := hasId | hasB | hasFin
	if wire&offBit != 0 {
		has |= hasOff
	}
	if wire&sizeBit != 0 {
		has |= hasSize
	}
	return has
}

// used: what f has that isn't zero.
func used(f api.QFrame) int {
	has := 0
	for _, x := range []struct {
		bit   int
		there bool
	}{
		{hasId, f.Id != 0},
		{hasCode, f.Code != 0},
		{hasMax, f.Max != 0},
		{hasOff, f.Off != 0},
		{hasB, len(f.B) != 0},
		{hasDelay, f.Delay != 0},
		{hasRanges, len(f.Ranges) != 0},
		{hasN, f.N != 0},
		{hasFin, f.Fin},
		{hasUni, f.Uni},
		{hasApp, f.App},
	} {
		if x.there {
			has |= x.bit
		}
	}
	return has
}

// fits: whether what f has is as its type wants it, but for numbers above api.MaxVar.
func fits(f api.QFrame) bool {
	switch f.Type {
	case api.QPadding:
		return f.N <= mostNoughts
	case api.QAck:
		return rangesFit(f.Ranges)
	case api.QCrypto, api.QStream:
		return f.Off <= api.MaxVar-uint64(len(f.B))
	case api.QToken:
		return len(f.B) > 0
	case api.QMaxStreams, api.QStreamsBlk:
		return f.Max <= mostStreams
	case api.QNewId:
		return f.Max <= f.Id && len(f.B) > tokenBytes && len(f.B) <= mostId+tokenBytes
	case api.QChallenge, api.QResponse:
		return len(f.B) == pathBytes
	}
	return true
}

// rangesFit: whether they go from the greatest down, with a number between any two that none of them has.
func rangesFit(l []api.Range) bool {
	if len(l) < 1 || len(l) > api.MaxRanges {
		return false
	}
	for i, x := range l {
		if x.First > x.Last {
			return false
		}
		if i > 0 && (l[i-1].First < 2 || x.Last > l[i-1].First-2) {
			return false
		}
	}
	return true
}
