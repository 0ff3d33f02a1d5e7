package cut

import "trank/api"

// Best returns the greatest worth of a plan.
func Best(b []string, k []Kind) (int, api.Errno) {
	o, ok := open(b, k)
	if !ok {
		return 0, api.ErrArg
	}
	return o.bests()[o.area.number(o.area.whole())], api.OK
}

// Plan returns a plan with the greatest worth.
func Plan(b []string, k []Kind) ([]Node, api.Errno) {
	o, ok := open(b, k)
	if !ok {
		return nil, api.ErrArg
	}
	return o.plan(nil, o.area.whole(), o.bests()), api.OK
}

// Prove returns a bound whose number of the whole board is Best.
func Prove(b []string, k []Kind) ([]int, api.Errno) {
	o, ok := open(b, k)
	if !ok {
		return nil, api.ErrArg
	}
	return o.bests(), api.OK
}

// bests returns the greatest worth of a plan for each rectangle. It is the least bound: no number can be lower than what its pieces and cuts ask for.
func (b board) bests() []int {
	best := make([]int, b.area.rects())
	for r := range b.area.all {
		_, worth := b.dearest(r)
		best[b.area.number(r)] = max(worth, b.area.bestCut(r, vertical, best), b.area.bestCut(r, horizontal, best))
	}
	return best
}

// bestCut returns the greatest sum of the two parts' numbers in a table, over all cuts of r by an operation: 0 if there is none.
func (a area) bestCut(r api.Rect, op int, table []int) int {
	best := 0
	for at := 1; at < side(r, op); at++ {
		best = max(best, a.sum(r, op, at, table))
	}
	return best
}

// sum returns the sum of the numbers of the two parts of a cut.
func (a area) sum(r api.Rect, op, at int, table []int) int {
	first, other := split(r, op, at)
	return table[a.number(first)] + table[a.number(other)]
}

// plan appends to p the plan for r that is made by the rule.
func (b board) plan(p []Node, r api.Rect, best []int) []Node {
	v := best[b.area.number(r)]
	if node, worth := b.dearest(r); worth == v {
		return append(p, node)
	}
	cut := b.area.firstCut(r, v, best)
	first, other := split(r, cut.Op, cut.Arg)
	p = append(p, cut)
	p = b.plan(p, first, best)
	return b.plan(p, other, best)
}

// firstCut returns the first cut whose parts sum to v. There is one wherever neither waste nor a piece is worth v.
func (a area) firstCut(r api.Rect, v int, best []int) Node {
	for op := vertical; op <= horizontal; op++ {
		for at := 1; at < side(r, op); at++ {
			if a.sum(r, op, at, best) == v {
				return Node{Op: op, Arg: at}
			}
		}
	}
	return Node{}
}
