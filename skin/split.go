package skin

import "trank/api"

// A corner, where four cells meet, has the name of the cell to its right and
// below. It is concave if just three of the four are usable. A division needs a
// line from each concave corner, and a chord, a line from one concave corner to
// another, serves both at once. So the fewest rectangles come of a greatest set
// of chords that do not meet each other, and of a line from each concave corner
// that is left, up to where it meets a chord of the set or an edge.

// division is the usable cells of a skin with the lines between them.
type division struct {
	all    api.Rect
	usable func(c cell) bool
	above  map[cell]bool // the cells with a line along their upper side
	before map[cell]bool // the cells with a line along their left side
	passed map[cell]bool // the corners on a vertical chord
}

// Fewest returns the least number of rectangles of a division.
func Fewest(s []string, g int) (int, api.Errno) {
	division, e := Split(s, g)
	return len(division), e
}

// Split returns a division with the least number of rectangles.
func Split(s []string, g int) ([]api.Rect, api.Errno) {
	if !validAt(s, g) {
		return nil, api.ErrArg
	}
	d := division{extent(s), usableAt(s, g), map[cell]bool{}, map[cell]bool{}, map[cell]bool{}}
	across, down := d.lines(cell{1, 0}), d.lines(cell{0, 1})
	for _, chord := range keptDown(d.chords(across), d.chords(down)) {
		d.drawDown(chord)
	}
	// The chords across that belong to the set are drawn whole: they meet none that is drawn.
	for _, line := range across {
		d.drawAcross(line)
	}
	return d.rectangles(), api.OK
}

// lines returns the lines of corners, one step from each to the next, that have
// usable cells on both sides and are as long as that allows.
func (d division) lines(step cell) [][]cell {
	inner := func(c cell) bool { return d.usable(c) && d.usable(cell{c.x - step.y, c.y - step.x}) }
	var all [][]cell
	each(d.all, func(c cell) {
		if !inner(c) || inner(c.minus(step)) {
			return
		}
		line := []cell{c}
		for inner(c) {
			c = c.plus(step)
			line = append(line, c)
		}
		all = append(all, line)
	})
	return all
}

func (d division) concave(corner cell) bool {
	n := 0
	each(api.Rect{X: corner.x - 1, Y: corner.y - 1, W: 2, H: 2}, func(c cell) {
		if d.usable(c) {
			n++
		}
	})
	return n == 3
}

// chords returns the lines that lead from one concave corner to another.
func (d division) chords(lines [][]cell) [][]cell {
	var chords [][]cell
	for _, line := range lines {
		if d.concave(line[0]) && d.concave(line[len(line)-1]) {
			chords = append(chords, line)
		}
	}
	return chords
}

func (d division) drawDown(chord []cell) {
	for _, c := range chord {
		d.passed[c] = true
	}
	for _, c := range chord[:len(chord)-1] {
		d.before[c] = true
	}
}

// drawAcross draws a line from each end that is a concave corner up to the first vertical chord.
func (d division) drawAcross(line []cell) {
	last := len(line) - 1
	if d.concave(line[0]) {
		for i := 0; i < last && !d.passed[line[i]]; i++ {
			d.above[line[i]] = true
		}
	}
	if d.concave(line[last]) {
		for i := last; i > 0 && !d.passed[line[i]]; i-- {
			d.above[line[i-1]] = true
		}
	}
}

// rectangles returns what the lines divide the usable cells into, in the order of rectangles.
func (d division) rectangles() []api.Rect {
	beginsColumn := func(c cell) bool { return d.before[c] || !d.usable(c) || !d.usable(cell{c.x - 1, c.y}) }
	beginsRow := func(c cell) bool { return d.above[c] || !d.usable(c) || !d.usable(cell{c.x, c.y - 1}) }
	var all []api.Rect
	each(d.all, func(c cell) {
		if !d.usable(c) || !beginsColumn(c) || !beginsRow(c) {
			return
		}
		r := api.Rect{X: c.x, Y: c.y, W: 1, H: 1}
		for !beginsColumn(cell{r.X + r.W, r.Y}) {
			r.W++
		}
		for !beginsRow(cell{r.X, r.Y + r.H}) {
			r.H++
		}
		all = append(all, r)
	})
	return all
}

// keptDown returns the vertical chords of a greatest set of chords that do not
// meet each other. By König's theorem these are the ones to which no alternating
// path of a greatest matching, of chords that meet, leads from a chord across
// that has no partner.
func keptDown(across, down [][]cell) [][]cell {
	led := ledTo(meetings(across, down), len(down))
	var kept [][]cell
	for j, chord := range down {
		if !led[j] {
			kept = append(kept, chord)
		}
	}
	return kept
}

// meetings returns, for each chord across, the indices of the vertical ones that it meets.
func meetings(across, down [][]cell) [][]int {
	through := map[cell]int{}
	for j, chord := range down {
		for _, c := range chord {
			through[c] = j
		}
	}
	meets := make([][]int, len(across))
	for i, chord := range across {
		for _, c := range chord {
			if j, found := through[c]; found {
				meets[i] = append(meets[i], j)
			}
		}
	}
	return meets
}

// ledTo makes a greatest matching and returns to which vertical chords, of n,
// its alternating paths lead from the chords across that have no partner.
func ledTo(meets [][]int, n int) []bool {
	partner, seen := make([]int, n), make([]bool, n)
	for j := range partner {
		partner[j] = -1
	}
	var match func(i int) bool
	match = func(i int) bool {
		for _, j := range meets[i] {
			if seen[j] {
				continue
			}
			seen[j] = true
			if partner[j] < 0 || match(partner[j]) {
				partner[j] = i
				return true
			}
		}
		return false
	}
	var single []int
	for i := range meets {
		clear(seen)
		if !match(i) {
			single = append(single, i)
		}
	}
	// Now that no more can be matched, the same search only marks where it leads.
	clear(seen)
	for _, i := range single {
		match(i)
	}
	return seen
}
