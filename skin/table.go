package skin

import "trank/api"

// Table counts usable cells of rectangles.
type Table struct {
	// sums[y][x] is how many usable cells lie in the first y rows and the first x columns.
	sums [][]int
}

// NewTable returns the table of a skin.
func NewTable(s []string, g int) (*Table, api.Errno) {
	if !validAt(s, g) {
		return nil, api.ErrArg
	}
	usable := usableAt(s, g)
	sums := [][]int{make([]int, len(s[0])+1)}
	for y := range s {
		row, n := []int{0}, 0
		for x, above := range sums[y][1:] {
			if usable(cell{x, y}) {
				n++
			}
			row = append(row, above+n)
		}
		sums = append(sums, row)
	}
	return &Table{sums}, api.OK
}

// Count returns how many cells of r are usable.
func (t *Table) Count(r api.Rect) (int, api.Errno) {
	if t == nil || len(t.sums) == 0 {
		return 0, api.ErrNil
	}
	if !validRect(r) {
		return 0, api.ErrArg
	}
	if !fits(r, api.Rect{W: len(t.sums[0]) - 1, H: len(t.sums) - 1}) {
		return 0, api.ErrRange
	}
	top, bottom := t.sums[r.Y], t.sums[r.Y+r.H]
	left, right := r.X, r.X+r.W
	return bottom[right] - bottom[left] - top[right] + top[left], api.OK
}
