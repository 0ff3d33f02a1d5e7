package grade

import (
	"slices"

	"trank/api"
)

// climb is how the measures grow from 0, in rounds, to the least ones. In round
// k each measure is what the rules ask for at the measures of round k-1, or 0:
// the greatest weight of a sequence of at most k rules of which each B is the
// next A. So no measure falls. All rounds are kept, because a sequence is read
// back through them.
type climb struct {
	p Pattern
	// at has the measures after each round, in parts of 1/s.Den.
	at [api.MaxNames + 1][api.MaxNames]int
	// by has the numbers of the rules that lifted them in it.
	by [api.MaxNames + 1][api.MaxNames]int
}

func newClimb(p Pattern, s api.Frac) *climb {
	c := &climb{p: p}
	for k := 1; k <= p.N; k++ {
		for number, r := range p.all() {
			if up := c.at[k-1][r.B] + r.weight(s); up > c.at[k][r.A] {
				c.at[k][r.A], c.by[k][r.A] = up, number
			}
		}
	}
	return c
}

// last returns the measures at the end: the least ones, if there is no loop.
func (c *climb) last() []int { return c.at[c.p.N][:c.p.N] }

func (c *climb) lifted(round, i int) bool { return c.at[round][i] > c.at[round-1][i] }

// rules returns the rules that lifted unknown i, from i on, and the unknown that the last of them leaves at 0.
func (c *climb) rules(i int) (numbers []int, ground int) {
	for round := c.p.N; round > 0; round-- {
		if c.lifted(round, i) {
			number := c.by[round][i]
			numbers = append(numbers, number)
			i = c.p.rule(number).B
		}
	}
	return numbers, i
}

// loop returns a loop whose weight is above 0; nil if there is none. Without
// such a loop a sequence of N rules weighs no more than a shorter one, as it
// comes back to an unknown; so nothing is lifted in round N. What is lifted in
// it was lifted by N rules, and the loop in them is worth its weight.
func (c *climb) loop() []int {
	for i := range c.p.N {
		if c.lifted(c.p.N, i) {
			numbers, _ := c.rules(i)
			return c.p.firstLoop(numbers)
		}
	}
	return nil
}

// firstLoop returns the part of the sequence that is the first to come back to an unknown.
func (p Pattern) firstLoop(numbers []int) []int {
	var from [api.MaxNames]int
	for j, number := range numbers {
		r := p.rule(number)
		from[r.A] = j + 1
		if from[r.B] > 0 {
			return slices.Clone(numbers[from[r.B]-1 : j+1])
		}
	}
	return nil
}

func loopAt(p Pattern, s api.Frac) []int { return newClimb(p, s).loop() }

// climbed returns the climb of a call whose pattern and size are valid, if there is no loop.
func climbed(p Pattern, s api.Frac) (*climb, api.Errno) {
	c := newClimb(p, s)
	if c.loop() != nil {
		return nil, api.ErrLoop
	}
	return c, api.OK
}

// Loop returns a loop whose weight is above 0.
func Loop(p Pattern, s api.Frac) ([]int, api.Errno) {
	if !validAt(p, s) {
		return nil, api.ErrArg
	}
	l := loopAt(p, s)
	if l == nil {
		return nil, api.ErrNone
	}
	return l, api.OK
}

// Least returns the least assignment.
func Least(p Pattern, s api.Frac) ([]api.Frac, api.Errno) {
	if !validAt(p, s) {
		return nil, api.ErrArg
	}
	c, e := climbed(p, s)
	if e != api.OK {
		return nil, e
	}
	least := make([]api.Frac, p.N)
	for i, up := range c.last() {
		least[i] = quotient(up, s.Den)
	}
	return least, api.OK
}

// Tight returns the rules that hold with equality for Least.
func Tight(p Pattern, s api.Frac) ([]int, api.Errno) {
	if !validAt(p, s) {
		return nil, api.ErrArg
	}
	c, e := climbed(p, s)
	if e != api.OK {
		return nil, e
	}
	var tight []int
	x := c.last()
	for k, r := range p.Rules {
		if x[r.A]-x[r.B] == r.weight(s) {
			tight = append(tight, k)
		}
	}
	return tight, api.OK
}

// Chain returns rules that prove an element of Least.
func Chain(p Pattern, s api.Frac, i int) ([]int, api.Errno) {
	if !validAt(p, s) || !p.has(i) {
		return nil, api.ErrArg
	}
	c, e := climbed(p, s)
	if e != api.OK {
		return nil, e
	}
	numbers, ground := c.rules(i)
	if ground > 0 {
		numbers = append(numbers, -ground)
	}
	return numbers, api.OK
}
