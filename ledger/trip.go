package ledger

// trip: the ticks from a packet's sending to its acknowledgement, by samples.
type trip struct {
	smoothed, varied, least uint64
	last                    uint64 // sample
	sampled                 bool
}

// unsampled: what is taken for true ahead of the first sample.
func unsampled() trip {
	return trip{smoothed: 10, varied: 5}
}

// sample: it took so long this time, of which the other side says that it waited that long itself.
func (t *trip) sample(took, delay uint64) {
	t.last = took
	if !t.sampled {
		t.smoothed, t.varied, t.least, t.sampled = took, took/2, took, true
		return
	}
	t.least = min(t.least, took)
	adjusted := took
	if delay <= took-t.least {
		adjusted -= delay
	}
	apart := max(t.smoothed, adjusted) - min(t.smoothed, adjusted)
	t.varied = (3*t.varied + apart) / 4
	t.smoothed = (7*t.smoothed + adjusted) / 8
}

// wait: how long a packet below Largest may be open.
func (t trip) wait() uint64 {
	return max(9*max(t.smoothed, t.last)/8, 1)
}
