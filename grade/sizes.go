package grade

import (
	"trank/api"
	"trank/frac"
)

// maxSlope is the greatest d of a loop. The sizes that a loop rules out begin
// or end at -c/d, so an end of the interval is a fraction with a Den of at most this.
const maxSlope = api.MaxNames * maxD

// bound is an end of the sizes that are left, and the loop that rules out those beyond it; no loop, if it is 0 or the greatest size.
type bound struct {
	at   api.Frac
	loop []int
}

// interval returns the ends of the interval of the sizes; or, if there is none,
// a conflict: loops that rule out every size together.
//
// It halves what is left until it meets a size inside. A loop that rules out
// the size in the middle rules out one half too. Of the fractions with a Den of
// at most maxSlope, the one next to the middle is asked for instead of the
// middle itself: no end lies between them.
func interval(p Pattern) (low, high bound, conflict [][]int) {
	low, high = bound{at: quotient(0, 1)}, bound{at: quotient(maxSize, 1)}
	for {
		inside, _ := frac.Below(middle(low.at, high.at), maxSlope)
		loop := loopAt(p, inside)
		if loop == nil {
			return p.end(low, inside, frac.Below), p.end(high, inside, frac.Above), nil
		}
		switch cut, slope := p.cut(loop); {
		case slope == 0:
			return bound{}, bound{}, [][]int{loop}
		case slope < 0:
			low = cut
		default:
			high = cut
		}
		if order, _ := frac.Cmp(low.at, high.at); order > 0 {
			return bound{}, bound{}, loops(low, high)
		}
	}
}

// cut returns where the loop has the weight 0, and by how much its weight grows
// with the size; there is no such place if that is 0.
func (p Pattern) cut(loop []int) (b bound, slope int) {
	var c, d int
	for _, number := range loop {
		r := p.rule(number)
		c, d = c+r.C, d+r.D
	}
	return bound{quotient(-c, d), loop}, d
}

// end returns the end that lies from the bound to a size inside, found by
// halving; next is Below or Above, whichever goes towards the bound.
func (p Pattern) end(b bound, inside api.Frac, next func(f api.Frac, d int) (api.Frac, api.Errno)) bound {
	for b.at != inside {
		s, _ := next(middle(b.at, inside), maxSlope)
		loop := loopAt(p, s)
		if loop == nil {
			inside = s
		} else {
			b, _ = p.cut(loop)
		}
	}
	return b
}

// middle is for sizes whose Dens are at most maxSlope, so that it is representable.
func middle(a, b api.Frac) api.Frac {
	m, _ := frac.Blend([]api.Frac{a, b}, []int{1, 1})
	return m
}

func loops(bounds ...bound) [][]int {
	var l [][]int
	for _, b := range bounds {
		if b.loop != nil {
			l = append(l, b.loop)
		}
	}
	return l
}

// Sizes returns the interval of the sizes at which p can be satisfied.
func Sizes(p Pattern) (lo, hi api.Frac, e api.Errno) {
	if !Valid(p) {
		return api.Frac{}, api.Frac{}, api.ErrArg
	}
	low, high, conflict := interval(p)
	if conflict != nil {
		return api.Frac{}, api.Frac{}, api.ErrLoop
	}
	return low.at, high.at, api.OK
}

// Ends returns loops that prove the ends of Sizes.
func Ends(p Pattern) (low, high []int, e api.Errno) {
	if !Valid(p) {
		return nil, nil, api.ErrArg
	}
	from, to, conflict := interval(p)
	if conflict != nil {
		return nil, nil, api.ErrLoop
	}
	return from.loop, to.loop, api.OK
}

// Conflict returns loops that prove that there is no size.
func Conflict(p Pattern) ([][]int, api.Errno) {
	if !Valid(p) {
		return nil, api.ErrArg
	}
	_, _, conflict := interval(p)
	if conflict == nil {
		return nil, api.ErrNone
	}
	return conflict, api.OK
}
