package cut

import "trank/api"

// area is the width and height of a board.
type area struct{ w, h int }

// Rects returns how many rectangles a board has.
func Rects(w, h int) (int, api.Errno) {
	a := area{w, h}
	if !a.isValid() {
		return 0, api.ErrArg
	}
	return a.rects(), api.OK
}

// Number returns the number of a rectangle.
func Number(w, h int, r api.Rect) (int, api.Errno) {
	a := area{w, h}
	if !a.isValid() || r.X < 0 || r.Y < 0 || r.W < 1 || r.H < 1 {
		return 0, api.ErrArg
	}
	if !a.has(r) {
		return 0, api.ErrRange
	}
	return a.number(r), api.OK
}

func isSide(n int) bool { return n >= 1 && n <= api.MaxBoard }

func (a area) isValid() bool { return isSide(a.w) && isSide(a.h) }

// has reports whether a valid rectangle lies within the board. (X + W could overflow.)
func (a area) has(r api.Rect) bool { return r.W <= a.w-r.X && r.H <= a.h-r.Y }

func (a area) whole() api.Rect { return api.Rect{W: a.w, H: a.h} }

func (a area) rects() int { return toSum(a.w) * toSum(a.h) }

// number returns the number of a rectangle that lies within the board: how many begin in the rows above, then in its row to the left of it, then in its cell.
func (a area) number(r api.Rect) int {
	below := a.h - r.Y
	above := (toSum(a.h) - toSum(below)) * toSum(a.w)
	left := (toSum(a.w) - toSum(a.w-r.X)) * below
	return above + left + (r.W-1)*below + r.H - 1
}

// toSum returns 1 + 2 + .. + n.
func toSum(n int) int { return n * (n + 1) / 2 }

// all gives the rectangles of the board so that the parts of each one precede it.
func (a area) all(yield func(api.Rect) bool) {
	for size := range a.w * a.h {
		w, h := size%a.w+1, size/a.w+1
		for place := range (a.w - w + 1) * (a.h - h + 1) {
			x, y := place%(a.w-w+1), place/(a.w-w+1)
			if !yield(api.Rect{X: x, Y: y, W: w, H: h}) {
				return
			}
		}
	}
}

// side returns the length of r along which the cuts of an operation are numbered.
func side(r api.Rect, op int) int {
	if op == vertical {
		return r.W
	}
	return r.H
}

// split cuts r and returns its part on the left or top first.
func split(r api.Rect, op, at int) (api.Rect, api.Rect) {
	first, other := r, r
	if op == vertical {
		first.W, other.X, other.W = at, r.X+at, r.W-at
	} else {
		first.H, other.Y, other.H = at, r.Y+at, r.H-at
	}
	return first, other
}
