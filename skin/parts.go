package skin

import "trank/api"

// Part is a connected part of the usable cells.
type Part struct {
	Cells, Edge, Holes int
	Box                api.Rect
}

// Parts returns the connected parts of the usable cells.
func Parts(s []string, g int) ([]Part, api.Errno) {
	if !validAt(s, g) {
		return nil, api.ErrArg
	}
	var parts []Part
	for _, cells := range classes(extent(s), sides(), usableAt(s, g)) {
		parts = append(parts, measured(cells))
	}
	return parts, api.OK
}

// measured returns the part that has these cells.
func measured(cells []cell) Part {
	in := map[cell]bool{}
	p := Part{Cells: len(cells)}
	for _, c := range cells {
		in[c] = true
		p.Box = grown(p.Box, c)
	}
	steps := sides()
	for _, c := range cells {
		for _, d := range steps {
			if !in[c.plus(d)] {
				p.Edge++
			}
		}
	}
	p.Holes = holes(p.Box, in)
	return p
}

// holes counts the finite classes of the cells that are not in a part with that box.
func holes(box api.Rect, in map[cell]bool) int {
	// The frame around the box stands for all that lies beyond: it is in the one class that is not finite.
	framed := api.Rect{X: box.X - 1, Y: box.Y - 1, W: box.W + 2, H: box.H + 2}
	out := func(c cell) bool { return has(framed, c) && !in[c] }
	return len(classes(framed, around(), out)) - 1
}
