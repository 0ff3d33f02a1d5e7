package pair

import "trank/api"

// search looks for alternating paths in a heap, from a root, which has no mate,
// by a pair that is not of the matching, one that is, and so on. A glove is outer
// if such a path of an even number of pairs leads to it, and one that ends at a
// glove without a mate can be swapped. Where a pair joins two outer gloves, both
// paths back to where they meet are a blossom, an odd ring: all of its gloves are
// outer, and it is treated as one glove, its base.
type search struct {
	heap  *table
	mate  [api.MaxHands]int
	from  [api.MaxHands]int // the glove before one, on a path to it by a pair that is not of the matching
	base  [api.MaxHands]int // the base of the blossom that a glove is in: itself, if in none
	outer [api.MaxHands]bool
	queue []int // the outer gloves
}

// newSearch makes a matching with as many pairs as possible.
func newSearch(heap *table) *search {
	s := &search{heap: heap}
	for i := range s.mate {
		s.mate[i] = none
	}
	for i := range heap.lefts {
		if s.mate[i] == none {
			s.swap(s.walk(i))
		}
	}
	return s
}

// walk walks all alternating paths from a root, up to one that ends at another glove without a mate. It returns that glove, or none.
func (s *search) walk(root int) int {
	s.start(root)
	for next := 0; next < len(s.queue); next++ {
		i := s.queue[next]
		for j := range s.heap.lefts {
			if !s.heap.joins(i, j) || s.base[i] == s.base[j] {
				continue
			}
			if s.outer[j] {
				s.shrink(i, j)
				continue
			}
			if s.from[j] != none {
				continue
			}
			s.from[j] = i
			if s.mate[j] == none {
				return j
			}
			s.reach(s.mate[j])
		}
	}
	return none
}

func (s *search) start(root int) {
	for i := range s.from {
		s.from[i], s.base[i] = none, i
	}
	s.outer, s.queue = [api.MaxHands]bool{}, nil
	s.reach(root)
}

func (s *search) reach(outer int) {
	s.outer[outer] = true
	s.queue = append(s.queue, outer)
}

// shrink makes a blossom of the paths to two outer gloves that a pair joins.
func (s *search) shrink(i, j int) {
	base := s.meeting(i, j)
	var bases [api.MaxHands]bool
	s.bend(i, j, base, &bases)
	s.bend(j, i, base, &bases)
	for k := range s.heap.lefts {
		if !bases[s.base[k]] {
			continue
		}
		s.base[k] = base
		if !s.outer[k] {
			s.reach(k)
		}
	}
}

// meeting returns the base where the paths to two outer gloves meet, on the way back to the root.
func (s *search) meeting(i, j int) int {
	var passed [api.MaxHands]bool
	for i = s.base[i]; s.mate[i] != none; i = s.before(i) {
		passed[i] = true
	}
	passed[i] = true
	for j = s.base[j]; !passed[j]; j = s.before(j) {
	}
	return j
}

// before returns the base before a base that is not the root, on the way back to the root.
func (s *search) before(base int) int { return s.base[s.from[s.mate[base]]] }

// bend goes the path to outer glove i back to the base, marks the bases it passes, and lets each outer glove there come from the other side, that of the pair of i and j, too.
func (s *search) bend(i, j, base int, bases *[api.MaxHands]bool) {
	for s.base[i] != base {
		mate := s.mate[i]
		bases[s.base[i]], bases[s.base[mate]] = true, true
		s.from[i] = j
		i, j = s.from[mate], mate
	}
}

// swap exchanges the pairs of the path to a glove without a mate, if there is one: its pairs of the matching for the others.
func (s *search) swap(end int) {
	for end != none {
		i := s.from[end]
		next := s.mate[i]
		s.mate[i], s.mate[end] = end, i
		end = next
	}
}

// spare returns the gloves that have no mate in some matching with as many pairs: the outer ones of all roots.
func (s *search) spare() [api.MaxHands]bool {
	var spare [api.MaxHands]bool
	for i := range s.heap.lefts {
		if s.mate[i] != none {
			continue
		}
		s.walk(i)
		for _, k := range s.queue {
			spare[k] = true
		}
	}
	return spare
}
