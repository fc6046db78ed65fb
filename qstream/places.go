package qstream

import (
	"slices"
	"sort"
)

// span: places of a stream: from one on, up to another that isn't of them.
type span struct{ from, to uint64 }

func (s span) empty() bool { return s.from >= s.to }

// places: spans, from the least on; between any two lies a place that is in none.
type places []span

// beside: which of p have places of s, or are its neighbours: from the one number up to the other.
func (p places) beside(s span) (int, int) {
	i := sort.Search(len(p), func(i int) bool { return p[i].to >= s.from })
	j := sort.Search(len(p), func(j int) bool { return p[j].from > s.to })
	return i, j
}

// add: p, and s.
func (p places) add(s span) places {
	if s.empty() {
		return p
	}
	i, j := p.beside(s)
	if i < j {
		s.from = min(s.from, p[i].from)
		s.to = max(s.to, p[j-1].to)
	}
	return p.replace(i, j, s)
}

// cut: p without s.
func (p places) cut(s span) places {
	if s.empty() {
		return p
	}
	i, j := p.beside(s)
	var rest []span
	for _, x := range p[i:j] {
		for _, y := range []span{{x.from, min(x.to, s.from)}, {max(x.from, s.to), x.to}} {
			if !y.empty() {
				rest = append(rest, y)
			}
		}
	}
	return p.replace(i, j, rest...)
}

// replace: p, in which l stands for the spans from i up to j.
func (p places) replace(i, j int, l ...span) places {
	if i == 0 && len(l) <= j {
		// What goes at the beginning goes without moving all others.
		p = p[j-len(l):]
		copy(p, l)
		return p
	}
	return slices.Replace(p, i, j, l...)
}

// within: what p has of s.
func (p places) within(s span) []span {
	i, j := p.beside(s)
	var l []span
	for _, x := range p[i:j] {
		x = span{max(x.from, s.from), min(x.to, s.to)}
		if !x.empty() {
			l = append(l, x)
		}
	}
	return l
}
