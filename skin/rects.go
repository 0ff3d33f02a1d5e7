package skin

import (
	"cmp"
	"slices"

	"trank/api"
)

// Largest returns the usable rectangle with the most cells.
func Largest(s []string, g int) (api.Rect, api.Errno) {
	return greatest(s, g, func(r api.Rect) api.Rect { return r })
}

// Square returns the greatest usable square.
func Square(s []string, g int) (api.Rect, api.Errno) {
	return greatest(s, g, func(r api.Rect) api.Rect {
		side := min(r.W, r.H)
		return api.Rect{X: r.X, Y: r.Y, W: side, H: side}
	})
}

// greatest returns the shape of a widest rectangle that has the most cells, of several the first.
func greatest(s []string, g int, shape func(r api.Rect) api.Rect) (api.Rect, api.Errno) {
	if !validAt(s, g) {
		return api.Rect{}, api.ErrArg
	}
	var best api.Rect
	eachWidest(s, g, func(r api.Rect) {
		if c := shape(r); c.W*c.H > best.W*best.H {
			best = c
		}
	})
	if best.W == 0 {
		return api.Rect{}, api.ErrNone
	}
	return best, api.OK
}

// Maximal returns the usable rectangles that lie within no other one.
func Maximal(s []string, g int) ([]api.Rect, api.Errno) {
	t, e := NewTable(s, g)
	if e != api.OK {
		return nil, e
	}
	usable := func(r api.Rect) bool {
		n, e := t.Count(r)
		return e == api.OK && n == r.W*r.H
	}
	var maximal []api.Rect
	eachWidest(s, g, func(r api.Rect) {
		if !slices.ContainsFunc(longer(r), usable) {
			maximal = append(maximal, r)
		}
	})
	slices.SortFunc(maximal, compareRects)
	return maximal, api.OK
}

// longer returns the rectangles with one more row or column than r. If r lies
// within another usable rectangle, then so does one of these: it is usable too.
func longer(r api.Rect) []api.Rect {
	return []api.Rect{
		{X: r.X - 1, Y: r.Y, W: r.W + 1, H: r.H},
		{X: r.X, Y: r.Y - 1, W: r.W, H: r.H + 1},
		{X: r.X, Y: r.Y, W: r.W + 1, H: r.H},
		{X: r.X, Y: r.Y, W: r.W, H: r.H + 1},
	}
}

// compareRects tells the order of rectangles.
func compareRects(a, b api.Rect) int {
	return cmp.Or(cmp.Compare(a.Y, b.Y), cmp.Compare(a.X, b.X), cmp.Compare(a.W, b.W), cmp.Compare(a.H, b.H))
}

// eachWidest visits, for each first cell and each height, the widest usable
// rectangle: by rising Y, then rising X, then rising H, so that W does not rise.
func eachWidest(s []string, g int, visit func(r api.Rect)) {
	reach := reaches(s, g)
	each(extent(s), func(c cell) {
		w := len(s[0])
		for y := c.y; y < len(s); y++ {
			w = min(w, reach[y][c.x])
			if w == 0 {
				return
			}
			visit(api.Rect{X: c.x, Y: c.y, W: w, H: y - c.y + 1})
		}
	})
}

// reaches returns how many usable cells follow each other from a cell to the right, row by row.
func reaches(s []string, g int) [][]int {
	usable := usableAt(s, g)
	var all [][]int
	for y, row := range s {
		reach := make([]int, len(row)+1)
		for x := len(row) - 1; x >= 0; x-- {
			if usable(cell{x, y}) {
				reach[x] = reach[x+1] + 1
			}
		}
		all = append(all, reach)
	}
	return all
}
