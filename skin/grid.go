package skin

import "trank/api"

// cell is a place of the infinite grid, of which a skin covers a part.
type cell struct{ x, y int }

func (c cell) plus(d cell) cell  { return cell{c.x + d.x, c.y + d.y} }
func (c cell) minus(d cell) cell { return cell{c.x - d.x, c.y - d.y} }

// sides are the steps from a cell to its neighbours.
func sides() []cell { return []cell{{0, -1}, {-1, 0}, {1, 0}, {0, 1}} }

// around are the steps from a cell to all that touch it, at a corner too.
func around() []cell { return append(sides(), cell{-1, -1}, cell{1, -1}, cell{-1, 1}, cell{1, 1}) }

// extent is the rectangle of all cells of a skin.
func extent(s []string) api.Rect { return api.Rect{W: len(s[0]), H: len(s)} }

func validRect(r api.Rect) bool { return r.X >= 0 && r.Y >= 0 && r.W >= 1 && r.H >= 1 }

// fits reports whether a valid rectangle lies within the extent. It sums
// nothing, for the numbers may be as great as an int.
func fits(r, extent api.Rect) bool { return r.X <= extent.W-r.W && r.Y <= extent.H-r.H }

// has reports whether c is a cell of a rectangle near the skin.
func has(r api.Rect, c cell) bool {
	return c.x >= r.X && c.x < r.X+r.W && c.y >= r.Y && c.y < r.Y+r.H
}

// grown is the least rectangle that has the cells of r and c; at first r has none.
func grown(r api.Rect, c cell) api.Rect {
	if r.W == 0 {
		return api.Rect{X: c.x, Y: c.y, W: 1, H: 1}
	}
	left, top := min(r.X, c.x), min(r.Y, c.y)
	right, bottom := max(r.X+r.W, c.x+1), max(r.Y+r.H, c.y+1)
	return api.Rect{X: left, Y: top, W: right - left, H: bottom - top}
}

// each visits the cells of a rectangle in the order of cells.
func each(r api.Rect, visit func(c cell)) {
	for y := r.Y; y < r.Y+r.H; y++ {
		for x := r.X; x < r.X+r.W; x++ {
			visit(cell{x, y})
		}
	}
}

// drawn returns the skin whose cells have these grades.
func drawn(width, height int, grade func(c cell) byte) []string {
	s := make([]string, 0, height)
	for y := range height {
		row := make([]byte, 0, width)
		for x := range width {
			row = append(row, grade(cell{x, y}))
		}
		s = append(s, string(row))
	}
	return s
}

// usableAt returns which cells of the grid are usable: none beyond the skin.
func usableAt(s []string, g int) func(c cell) bool {
	all, least := extent(s), byte('0'+g)
	return func(c cell) bool { return has(all, c) && s[c.y][c.x] >= least }
}

// classes returns the classes of open cells that are connected by the steps,
// by the order of their first cells in the rectangle.
func classes(r api.Rect, steps []cell, open func(c cell) bool) [][]cell {
	seen := map[cell]bool{}
	var all [][]cell
	each(r, func(c cell) {
		if open(c) && !seen[c] {
			class := reached(c, steps, open, seen)
			all = append(all, class)
		}
	})
	return all
}

// reached returns the open cells that the steps lead to from an open one, and notes them in seen.
func reached(from cell, steps []cell, open func(c cell) bool, seen map[cell]bool) []cell {
	seen[from] = true
	cells := []cell{from}
	for i := 0; i < len(cells); i++ {
		for _, d := range steps {
			next := cells[i].plus(d)
			if open(next) && !seen[next] {
				seen[next] = true
				cells = append(cells, next)
			}
		}
	}
	return cells
}
