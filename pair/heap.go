package pair

import (
	"slices"

	"trank/api"
)

// heaped returns the table of a heap with itself, if it and the rule are valid.
func heaped(h []Glove, u Rule) (*table, bool) { return open(h, h, u) }

// joins reports whether two gloves of a heap can be a pair.
func (t *table) joins(i, j int) bool { return i != j && t.allows(i, j) }

// Heap returns a maximum matching of a heap.
func Heap(h []Glove, u Rule) ([]int, api.Errno) {
	t, ok := heaped(h, u)
	if !ok {
		return nil, api.ErrArg
	}
	return slices.Clone(newSearch(t).mate[:t.lefts]), api.OK
}

// Pairs returns the number of pairs of a matching.
func Pairs(h []Glove, u Rule, m []int) (int, api.Errno) {
	t, ok := heaped(h, u)
	if !ok {
		return 0, api.ErrArg
	}
	if len(m) != t.lefts {
		return 0, api.ErrSize
	}
	gloves := 0
	for i, j := range m {
		if j == none {
			continue
		}
		if j < 0 || j >= len(m) || !t.joins(i, j) || m[j] != i {
			return 0, api.ErrForm
		}
		gloves++
	}
	return gloves / 2, api.OK
}

// Barrier returns gloves that prove that no matching has more pairs. Each class of spare gloves that is left without the others next to them has an odd number, each other class an even one (Gallai, Edmonds).
func Barrier(h []Glove, u Rule) ([]int, api.Errno) {
	t, ok := heaped(h, u)
	if !ok {
		return nil, api.ErrArg
	}
	spare := newSearch(t).spare()
	var barrier []int
	for i := range t.lefts {
		if !spare[i] && t.joinsAny(i, spare) {
			barrier = append(barrier, i)
		}
	}
	return barrier, api.OK
}

// joinsAny reports whether a glove of a heap can be a pair with one of these.
func (t *table) joinsAny(i int, these [api.MaxHands]bool) bool {
	for j, is := range these {
		if is && t.joins(i, j) {
			return true
		}
	}
	return false
}

// Odd returns the number of odd classes without the gloves of b.
func Odd(h []Glove, u Rule, b []int) (int, api.Errno) {
	t, ok := heaped(h, u)
	if !ok || !areRising(b, t.lefts) {
		return 0, api.ErrArg
	}
	var seen [api.MaxHands]bool
	for _, i := range b {
		seen[i] = true
	}
	var count func(i int) int
	count = func(i int) int {
		seen[i] = true
		n := 1
		for j := range t.lefts {
			if t.joins(i, j) && !seen[j] {
				n += count(j)
			}
		}
		return n
	}
	odd := 0
	for i := range t.lefts {
		if !seen[i] {
			odd += count(i) % 2
		}
	}
	return odd, api.OK
}

// areRising reports whether the elements of b are rising indices of n gloves.
func areRising(b []int, n int) bool {
	last := -1
	for _, i := range b {
		if i <= last || i >= n {
			return false
		}
		last = i
	}
	return true
}
