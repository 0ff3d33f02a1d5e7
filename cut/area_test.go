package cut_test

import (
	"fmt"
	"math"
	"testing"

	"trank/api"
	"trank/cut"
)

// P5.1, and the order of rectangles: each board's rectangles have the numbers from 0 on.
func TestNumbersOfAllRectangles(t *testing.T) {
	for w := 1; w <= 16; w++ {
		for h := 1; h <= 16; h++ {
			l := allRects(w, h)
			n, e := cut.Rects(w, h)
			wantNumber(t, fmt.Sprint("Rects ", w, h), n, e, len(l))
			for want, r := range l {
				n, e := cut.Number(w, h, r)
				wantNumber(t, fmt.Sprint("Number ", w, h, r), n, e, want)
			}
		}
	}
}

// Example 1.
func TestNumbersOfTheExample(t *testing.T) {
	n, e := cut.Rects(2, 2)
	wantNumber(t, "Rects", n, e, 9)
	for want, r := range []api.Rect{rc(0, 0, 1, 1), rc(0, 0, 1, 2), rc(0, 0, 2, 1), rc(0, 0, 2, 2), rc(1, 0, 1, 1), rc(1, 0, 1, 2), rc(0, 1, 1, 1), rc(0, 1, 2, 1), rc(1, 1, 1, 1)} {
		n, e := cut.Number(2, 2, r)
		wantNumber(t, fmt.Sprint("Number ", r), n, e, want)
	}
}

func notSides() []int { return []int{0, -1, 17, 18, 48, math.MinInt, math.MaxInt, 1 << 32, 1<<32 + 1} }

// notRects are rectangles that are not valid.
func notRects() []api.Rect {
	return []api.Rect{
		{}, rc(0, 0, 0, 1), rc(0, 0, 1, 0), rc(0, 0, -1, 1), rc(0, 0, 1, -1), rc(-1, 0, 1, 1), rc(0, -1, 1, 1), rc(-1, 0, 2, 1), rc(0, -1, 1, 2), rc(1, 0, -1, 1), rc(0, 1, 1, -1),
		rc(0, 0, math.MinInt, 1), rc(0, 0, 1, math.MinInt), rc(math.MinInt, 0, 1, 1), rc(0, math.MinInt, 1, 1), rc(math.MinInt, 0, math.MaxInt, 1), rc(99, 0, 0, 1), rc(0, 99, 1, 0), rc(-1, 0, 99, 1),
	}
}

// outside are valid rectangles that do not lie within w by h cells.
func outside(w, h int) []api.Rect {
	return []api.Rect{
		rc(w, 0, 1, 1), rc(0, h, 1, 1), rc(0, 0, w+1, 1), rc(0, 0, 1, h+1), rc(w-1, 0, 2, 1), rc(0, h-1, 1, 2), rc(w, h, w, h), rc(0, 0, w+1, h+1), rc(16, 0, 1, 1), rc(0, 16, 1, 1), rc(0, 0, 17, 1), rc(0, 0, 1, 17),
		rc(math.MaxInt, 0, 1, 1), rc(0, math.MaxInt, 1, 1), rc(0, 0, math.MaxInt, 1), rc(0, 0, 1, math.MaxInt), rc(math.MaxInt, math.MaxInt, math.MaxInt, math.MaxInt),
		rc(math.MaxInt, 0, math.MaxInt, 1), rc(0, math.MaxInt, 1, math.MaxInt), rc(1, 0, math.MaxInt, 1), rc(0, 1, 1, math.MaxInt), rc(1<<62, 0, 1<<62, 1), rc(0, 1<<62, 1, 1<<62),
	}
}

// P5.1: ErrArg of sides and rectangles, before ErrRange.
func TestNumberErrors(t *testing.T) {
	for _, bad := range notSides() {
		for _, sides := range [][2]int{{bad, 1}, {1, bad}, {bad, bad}, {16, bad}, {bad, 16}} {
			n, e := cut.Rects(sides[0], sides[1])
			wantError(t, fmt.Sprint("Rects ", sides), n, e, api.ErrArg)
			for _, r := range append(outside(16, 16), append(notRects(), rc(0, 0, 1, 1))...) {
				n, e := cut.Number(sides[0], sides[1], r)
				wantError(t, fmt.Sprint("Number ", sides, r), n, e, api.ErrArg)
			}
		}
	}
	for _, sides := range [][2]int{{1, 1}, {1, 16}, {16, 1}, {16, 16}, {3, 5}} {
		for _, r := range notRects() {
			n, e := cut.Number(sides[0], sides[1], r)
			wantError(t, fmt.Sprint("Number ", sides, r), n, e, api.ErrArg)
		}
		for _, r := range outside(sides[0], sides[1]) {
			n, e := cut.Number(sides[0], sides[1], r)
			wantError(t, fmt.Sprint("Number ", sides, r), n, e, api.ErrRange)
		}
	}
}
