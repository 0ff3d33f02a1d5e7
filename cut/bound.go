package cut

import "trank/api"

const maxTurns = 32 // of Strict

// Check reports whether a table is a bound, and its number of the whole board.
func Check(b []string, k []Kind, t []int) (int, bool, api.Errno) {
	o, ok := open(b, k)
	if !ok {
		return 0, false, api.ErrArg
	}
	if len(t) != o.area.rects() {
		return 0, false, api.ErrSize
	}
	if !o.isBound(t) {
		return 0, false, api.OK
	}
	return t[o.area.number(o.area.whole())], true, api.OK
}

// isBound refuses a number below 0 too, since dearest returns no worth below 0.
func (b board) isBound(t []int) bool {
	for r := range b.area.all {
		_, worth := b.dearest(r)
		if t[b.area.number(r)] < worth || !b.area.boundsCuts(r, vertical, t) || !b.area.boundsCuts(r, horizontal, t) {
			return false
		}
	}
	return true
}

// boundsCuts reports whether the number of r is at least the sum of the parts' numbers, for all cuts of r by an operation. The numbers of r and, since they precede it, of its parts have been found not to be below 0, so that a difference does not overflow, as a sum could.
func (a area) boundsCuts(r api.Rect, op int, t []int) bool {
	n := t[a.number(r)]
	for at := 1; at < side(r, op); at++ {
		first, other := split(r, op, at)
		if n-t[a.number(first)] < t[a.number(other)] {
			return false
		}
	}
	return true
}

// Strict returns the greatest worth of a plan whose direction changes at most so often.
func Strict(b []string, k []Kind, turns int) (int, api.Errno) {
	o, ok := open(b, k)
	if !ok || turns < 0 || turns > maxTurns {
		return 0, api.ErrArg
	}
	alone := o.alone()
	after := [2][]int{alone, alone}
	for range turns + 1 {
		after = o.area.oneTurnMore(after)
	}
	whole := o.area.number(o.area.whole())
	return max(after[0][whole], after[1][whole]), api.OK
}

// alone returns the greatest worth of a piece for each rectangle.
func (b board) alone() []int {
	worths := make([]int, b.area.rects())
	for r := range b.area.all {
		_, worths[b.area.number(r)] = b.dearest(r)
	}
	return worths
}

// oneTurnMore takes the greatest worths of the plans for each rectangle that may change their direction some times, the first one being vertical in one table and horizontal in the other, and returns those of plans that may change it once more. A plan that begins with a change is one of the other direction with a change less.
func (a area) oneTurnMore(before [2][]int) [2][]int {
	var after [2][]int
	for i, op := range [2]int{vertical, horizontal} {
		after[i] = make([]int, a.rects())
		for r := range a.all {
			n := a.number(r)
			after[i][n] = max(before[1-i][n], a.bestCut(r, op, after[i]))
		}
	}
	return after
}
