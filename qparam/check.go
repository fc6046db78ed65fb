package qparam

import (
	"bifold/api"
)

// Ids, as RFC 9000 has them (18.2), from 0 on.
const (
	originalId = iota
	idle
	resetToken
	packetSize
	data
	streamHere // of streams that the side that says it opens
	streamThere
	streamUni
	streams
	streamsUni
	ackScale
	ackDelay
	noMigration
	preferred
	ids
	sourceId
	retryId
)

// Limits of some.
const (
	leastPacket = 1200
	mostStreams = 1 << 60
	mostScale   = 20
	mostDelay   = 1<<14 - 1
	leastIds    = 2
)

type limits struct{ least, most uint64 }

// limitsById: of the Ids whose bytes are a number.
func limitsById() map[uint64]limits {
	all := limits{0, api.MaxVar}
	return map[uint64]limits{
		idle:        all,
		packetSize:  {leastPacket, api.MaxVar},
		data:        all,
		streamHere:  all,
		streamThere: all,
		streamUni:   all,
		streams:     {0, mostStreams},
		streamsUni:  {0, mostStreams},
		ackScale:    {0, mostScale},
		ackDelay:    {0, mostDelay},
		ids:         {leastIds, api.MaxVar},
	}
}

// Check: ErrParam, if one of l, which a server or a client said, may not be so.
func Check(l []api.Param, server bool) api.Errno {
	known := limitsById()
	for _, p := range l {
		if !server && onlyServers(p.Id) {
			return api.ErrParam
		}
		if p.Id == noMigration && len(p.B) > 0 {
			return api.ErrParam
		}
		if at, ok := known[p.Id]; ok && !within(p.B, at) {
			return api.ErrParam
		}
	}
	return api.OK
}

// onlyServers: whether a client may not say it.
func onlyServers(id uint64) bool {
	switch id {
	case originalId, resetToken, preferred, retryId:
		return true
	}
	return false
}

// within: whether b is a number, and within its limits.
func within(b []byte, at limits) bool {
	v, ok := number(b)
	return ok && v >= at.least && v <= at.most
}
