package skin

import (
	"slices"

	"trank/api"
)

// Turn returns the skin turned clockwise by k quarter turns.
func Turn(s []string, k int) ([]string, api.Errno) {
	if !Valid(s) {
		return nil, api.ErrArg
	}
	turns := (k%4 + 4) % 4
	t := slices.Clone(s)
	for range turns {
		t = turned(t)
	}
	return t, api.OK
}

// turned is a valid skin after one quarter turn clockwise.
func turned(s []string) []string {
	bottom := len(s) - 1
	return drawn(len(s), len(s[0]), func(c cell) byte { return s[bottom-c.x][c.y] })
}

// Mirror returns the skin with each row reversed.
func Mirror(s []string) ([]string, api.Errno) {
	if !Valid(s) {
		return nil, api.ErrArg
	}
	right := len(s[0]) - 1
	return drawn(len(s[0]), len(s), func(c cell) byte { return s[c.y][right-c.x] }), api.OK
}

// Crop returns the cells of r.
func Crop(s []string, r api.Rect) ([]string, api.Errno) {
	if e := within(s, r); e != api.OK {
		return nil, e
	}
	return drawn(r.W, r.H, func(c cell) byte { return s[r.Y+c.y][r.X+c.x] }), api.OK
}

// Punch returns the skin without the cells of r.
func Punch(s []string, r api.Rect) ([]string, api.Errno) {
	if e := within(s, r); e != api.OK {
		return nil, e
	}
	return drawn(len(s[0]), len(s), func(c cell) byte {
		if has(r, c) {
			return '0'
		}
		return s[c.y][c.x]
	}), api.OK
}

// within returns the error of a function that takes a skin and a rectangle of it.
func within(s []string, r api.Rect) api.Errno {
	switch {
	case !Valid(s) || !validRect(r):
		return api.ErrArg
	case !fits(r, extent(s)):
		return api.ErrRange
	}
	return api.OK
}

// Trim returns the least rectangle that has all leather.
func Trim(s []string) (api.Rect, api.Errno) {
	if !Valid(s) {
		return api.Rect{}, api.ErrArg
	}
	leather := usableAt(s, 1)
	var box api.Rect
	each(extent(s), func(c cell) {
		if leather(c) {
			box = grown(box, c)
		}
	})
	if box.W == 0 {
		return api.Rect{}, api.ErrNone
	}
	return box, api.OK
}
