package ranges

import (
	"slices"
	"sort"

	"bifold/api"
)

// full: ranges of a chunk, at most. As many are copied where one changes, not all there are.
const full = 128

// place: ahead of the range of that number in the chunk of that number; or behind all ranges of the last chunk.
type place struct{ chunk, at int }

// first: the place of the first range of which that holds, as it must of all behind it.
func (s *Set) first(holds func(api.Range) bool) place {
	i := sort.Search(max(len(s.chunks)-1, 0), func(i int) bool {
		c := s.chunks[i]
		return holds(c[len(c)-1])
	})
	c := s.chunk(i)
	return place{i, sort.Search(len(c), func(j int) bool { return holds(c[j]) })}
}

// end: the place behind all ranges.
func (s *Set) end() place {
	i := max(len(s.chunks)-1, 0)
	return place{i, len(s.chunk(i))}
}

// chunk: that of this number; of a set without ranges one without ranges.
func (s *Set) chunk(i int) []api.Range {
	if i == len(s.chunks) {
		return nil
	}
	return s.chunks[i]
}

// behind: the range behind p, which isn't the end.
func (s *Set) behind(p place) api.Range {
	return s.chunks[p.chunk][p.at]
}

// ahead: the range ahead of p, where there is one.
func (s *Set) ahead(p place) api.Range {
	if p.at == 0 {
		c := s.chunks[p.chunk-1]
		return c[len(c)-1]
	}
	return s.chunks[p.chunk][p.at-1]
}

// replace: what lies between two places gives way to l.
func (s *Set) replace(from, to place, l ...api.Range) {
	behind := min(to.chunk+1, len(s.chunks))
	fresh := cut(slices.Concat(s.chunk(from.chunk)[:from.at], l, s.chunk(to.chunk)[to.at:]))
	s.count -= numbers(s.chunks[from.chunk:behind])
	s.count += numbers(fresh)
	s.chunks = slices.Replace(s.chunks, from.chunk, behind, fresh...)
}

// cut: l, of two chunks at most, in chunks; none of them is without ranges.
func cut(l []api.Range) [][]api.Range {
	n := len(l)
	if n == 0 {
		return nil
	}
	if n <= full {
		return [][]api.Range{l}
	}
	return [][]api.Range{l[:n/2], l[n/2:]}
}

// numbers: how many there are in all of these.
func numbers(chunks [][]api.Range) uint64 {
	n := uint64(0)
	for _, c := range chunks {
		for _, r := range c {
			n += r.Last - r.First + 1
		}
	}
	return n
}
