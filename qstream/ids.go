package qstream

// An id's lowest bit tells who began its stream, the next one whether bytes go one way alone.
const (
	uniBit   = 1
	kindBits = 2
	mostNth  = 1<<60 - 1
)

// Kind: whether a server began the stream of that id, whether it is unidirectional.
func Kind(id uint64) (bool, bool) {
	return id&1 != 0, id>>uniBit&1 != 0
}

// Nth: the id of the n-th stream of that kind, from 0 on.
func Nth(n uint64, server, uni bool) uint64 {
	return min(n, mostNth)<<kindBits | bit(uni)<<uniBit | bit(server)
}

func bit(b bool) uint64 {
	if b {
		return 1
	}
	return 0
}
