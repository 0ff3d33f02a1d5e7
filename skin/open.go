package skin

import "trank/api"

// Erode gives each cell the least grade around it.
func Erode(s []string, k int) ([]string, api.Errno) {
	return swept(s, k, func(a, b byte) byte { return min(a, b) })
}

// Dilate gives each cell the greatest grade around it.
func Dilate(s []string, k int) ([]string, api.Errno) {
	return swept(s, k, func(a, b byte) byte { return max(a, b) })
}

// Open erodes and dilates.
func Open(s []string, k int) ([]string, api.Errno) {
	eroded, e := Erode(s, k)
	if e != api.OK {
		return nil, e
	}
	return Dilate(eroded, k)
}

// swept gives each cell what the pick makes of all grades in the square around it.
func swept(s []string, k int, pick func(a, b byte) byte) ([]string, api.Errno) {
	if !Valid(s) || k < 0 || k > api.MaxSide {
		return nil, api.ErrArg
	}
	// A square is a column of rows: sweep along the rows, and, turned, along the columns.
	t := turned(sweptRows(s, k, pick))
	return Turn(sweptRows(t, k, pick), -1)
}

func sweptRows(s []string, k int, pick func(a, b byte) byte) []string {
	width := len(s[0])
	return drawn(width, len(s), func(c cell) byte {
		grade := s[c.y][c.x]
		// One step beyond the edge tells as much as many.
		for x := max(c.x-k, -1); x <= min(c.x+k, width); x++ {
			if x >= 0 && x < width {
				grade = pick(grade, s[c.y][x])
			} else {
				// Beyond the edge is grade 0, which the greatest grade does not notice.
				grade = pick(grade, '0')
			}
		}
		return grade
	})
}
