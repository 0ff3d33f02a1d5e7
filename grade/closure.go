package grade

import (
	"slices"

	"trank/api"
	"trank/frac"
)

// closure is all that the rules say of the unknowns, two by two: of the chains
// from a to b, whether there is one, and the greatest weight, in parts of
// 1/s.Den. Where there is none, the weight is 0, so that two closures that say
// the same are equal.
type closure struct {
	n      int
	has    [api.MaxNames][api.MaxNames]bool
	weight [api.MaxNames][api.MaxNames]int
}

// newClosure needs a pattern without a loop of a weight above 0.
func newClosure(p Pattern, s api.Frac) *closure {
	c := &closure{n: p.N}
	for i := range p.N {
		c.add(i, i, 0)
	}
	for _, r := range p.all() {
		c.add(r.A, r.B, r.weight(s))
	}
	for by := range p.N {
		for a := range p.N {
			for b := range p.N {
				if c.has[a][by] && c.has[by][b] {
					c.add(a, b, c.weight[a][by]+c.weight[by][b])
				}
			}
		}
	}
	return c
}

func (c *closure) add(a, b, weight int) {
	if !c.has[a][b] || c.weight[a][b] < weight {
		c.has[a][b], c.weight[a][b] = true, weight
	}
}

// implies reports whether the rule follows.
func (c *closure) implies(r Rule, s api.Frac) bool {
	return c.has[r.A][r.B] && c.weight[r.A][r.B] >= r.weight(s)
}

// closed returns the closure of a call whose pattern and size are valid, if there is no loop.
func closed(p Pattern, s api.Frac) (*closure, api.Errno) {
	if loopAt(p, s) != nil {
		return nil, api.ErrLoop
	}
	return newClosure(p, s), api.OK
}

// Gap returns by how much x[a] exceeds x[b] at least.
func Gap(p Pattern, s api.Frac, a, b int) (api.Frac, bool, api.Errno) {
	if !validAt(p, s) || !p.has(a) || !p.has(b) {
		return api.Frac{}, false, api.ErrArg
	}
	c, e := closed(p, s)
	if e != api.OK || !c.has[a][b] {
		return api.Frac{}, false, e
	}
	return quotient(c.weight[a][b], s.Den), true, api.OK
}

const (
	maxMost    = 1000000
	maxMostDen = 100
)

// Greatest returns the greatest assignment that is not above most.
func Greatest(p Pattern, s, most api.Frac) ([]api.Frac, api.Errno) {
	if !validAt(p, s) || !within(most, maxMost, maxMostDen) {
		return nil, api.ErrArg
	}
	c, e := closed(p, s)
	if e != api.OK {
		return nil, e
	}
	for i := range p.N {
		if c.weight[i][0]*most.Den > most.Num*s.Den {
			return nil, api.ErrShort
		}
	}
	greatest := make([]api.Frac, p.N)
	for i := range p.N {
		greatest[i], e = frac.New(c.ceiling(i, s, most), s.Den*most.Den)
		if e != api.OK {
			return nil, e
		}
	}
	return greatest, api.OK
}

// ceiling is the greatest that element i can be, in parts of 1/(s.Den·most.Den):
// no element is above most, and element 0 is 0.
func (c *closure) ceiling(i int, s, most api.Frac) int {
	ceiling := most.Num * s.Den
	for a := range c.n {
		if c.has[a][i] {
			ceiling = min(ceiling, most.Num*s.Den-c.weight[a][i]*most.Den)
		}
	}
	if c.has[0][i] {
		ceiling = min(ceiling, -c.weight[0][i]*most.Den)
	}
	return ceiling
}

// Equal reports whether the same assignments satisfy both.
func Equal(p, q Pattern, s api.Frac) (bool, api.Errno) {
	if !validAt(p, s) || !Valid(q) {
		return false, api.ErrArg
	}
	c, e := closed(p, s)
	if e != api.OK {
		return false, e
	}
	d, e := closed(q, s)
	if e != api.OK {
		return false, e
	}
	return *c == *d, api.OK
}

// Implied reports whether a rule follows from the other ones.
func Implied(p Pattern, s api.Frac, k int) (bool, api.Errno) {
	if !validAt(p, s) || k < 0 || k >= len(p.Rules) {
		return false, api.ErrArg
	}
	if loopAt(p, s) != nil {
		return false, api.ErrLoop
	}
	return newClosure(p.without(k), s).implies(p.Rules[k], s), api.OK
}

// without returns a pattern of its own, whose rules behind rule k have moved.
func (p Pattern) without(k int) Pattern {
	return Pattern{N: p.N, Rules: slices.Concat(p.Rules[:k], p.Rules[k+1:])}
}

// Core returns the rules that are left without implied ones.
func Core(p Pattern, s api.Frac) ([]int, api.Errno) {
	if !validAt(p, s) {
		return nil, api.ErrArg
	}
	if loopAt(p, s) != nil {
		return nil, api.ErrLoop
	}
	var core []int
	left := p
	for k, r := range slices.Backward(p.Rules) {
		others := left.without(k)
		if newClosure(others, s).implies(r, s) {
			left = others
		} else {
			core = append(core, k)
		}
	}
	slices.Reverse(core)
	return core, api.OK
}
