package cong

const (
	mostTries = 6
	mostDelay = 25 // ticks that the other side may wait ahead of an ACK
	mostPto   = 1 << 40
)

// Pto: how many ticks to wait for an ACK ahead of the next probe, where so many tries were made.
func Pto(smoothed, varied uint64, tries int) uint64 {
	// Beyond the most neither changes the answer, and no sum wraps.
	smoothed, varied = min(smoothed, mostPto), min(varied, mostPto)
	once := smoothed + max(varied<<2, 1) + mostDelay
	return min(once<<min(max(tries, 0), mostTries), mostPto)
}
