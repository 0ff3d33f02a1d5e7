package grade

import (
	"iter"

	"trank/api"
)

// all yields the rules with their numbers: the pattern's own ones first, then the ground rules.
func (p Pattern) all() iter.Seq2[int, Rule] {
	return func(yield func(number int, r Rule) bool) {
		for k := range p.Rules {
			if !yield(k, p.rule(k)) {
				return
			}
		}
		for i := 1; i < p.N; i++ {
			if !yield(-i, p.rule(-i)) {
				return
			}
		}
	}
}

// rule returns the rule of a number.
func (p Pattern) rule(number int) Rule {
	if number < 0 {
		return Rule{A: -number}
	}
	return p.Rules[number]
}

// weight is that of the rule at s, in parts of 1/s.Den: so the weights at one size can be added as whole numbers.
func (r Rule) weight(s api.Frac) int { return r.C*s.Den + r.D*s.Num }
