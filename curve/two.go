package curve

import (
	"cmp"
	"slices"

	"trank/api"
	"trank/frac"
)

// Sum returns the pointwise sum.
func Sum(a, b []api.Point) ([]api.Point, api.Errno) {
	numbers, e := breaks(a, b)
	if e != api.OK {
		return nil, e
	}
	s := new(steps)
	atA, atB := s.along(a), s.along(b)
	return s.plot(numbers, func(x api.Frac) api.Point {
		return api.Point{X: x, Y: s.take(frac.Add, atA(x), atB(x))}
	})
}

// Series returns the curve of two strips in series.
func Series(a, b []api.Point) ([]api.Point, api.Errno) {
	if !Valid(a) || !Valid(b) {
		return nil, api.ErrArg
	}
	backA, _ := Inverse(a)
	backB, _ := Inverse(b)
	sum, e := Sum(backA, backB)
	if e != api.OK {
		return nil, e
	}
	return Inverse(sum)
}

// Compose returns the function a(b(x)).
func Compose(a, b []api.Point) ([]api.Point, api.Errno) {
	back, e := Inverse(b)
	if e != api.OK {
		return nil, e
	}
	// What a takes is what b gives: both break at an X of a and of the inverse of b.
	numbers, e := breaks(a, back)
	if e != api.OK {
		return nil, e
	}
	s := new(steps)
	atA, solveB := s.along(a), s.along(back)
	return s.plot(numbers, func(t api.Frac) api.Point {
		return api.Point{X: solveB(t), Y: atA(t)}
	})
}

// Upper returns the pointwise maximum.
func Upper(a, b []api.Point) ([]api.Point, api.Errno) { return envelope(a, b, greater) }

// Lower returns the pointwise minimum.
func Lower(a, b []api.Point) ([]api.Point, api.Errno) { return envelope(a, b, lesser) }

func envelope(a, b []api.Point, pick func(p, q api.Frac) api.Frac) ([]api.Point, api.Errno) {
	numbers, _, e := grid(a, b)
	if e != api.OK {
		return nil, e
	}
	s := new(steps)
	atA, atB := s.along(a), s.along(b)
	return s.plot(numbers, func(u api.Frac) api.Point {
		return api.Point{X: u, Y: pick(atA(u), atB(u))}
	})
}

// Crossings returns where two curves cross.
func Crossings(a, b []api.Point) ([]api.Frac, api.Errno) {
	numbers, sides, e := grid(a, b)
	if e != api.OK {
		return nil, e
	}
	var crossings []api.Frac
	for i := 1; i+1 < len(numbers); i++ {
		// The grid has a meeting between any two opposite sides: here it is this number.
		if sides[i-1]*sides[i+1] < 0 {
			crossings = append(crossings, numbers[i])
		}
	}
	return crossings, api.OK
}

// Under reports whether a is nowhere above b.
func Under(a, b []api.Point) (bool, api.Errno) {
	numbers, e := breaks(a, b)
	if e != api.OK {
		return false, e
	}
	s := new(steps)
	atA, atB := s.along(a), s.along(b)
	under := true
	for _, x := range numbers {
		// No early end: a later value may have an error.
		if compare(atA(x), atB(x)) > 0 {
			under = false
		}
	}
	return ended(s, under)
}

// Same reports whether two curves are the same function.
func Same(a, b []api.Point) (bool, api.Errno) {
	if !Valid(a) || !Valid(b) {
		return false, api.ErrArg
	}
	normA, e := Norm(a)
	if e != api.OK {
		return false, e
	}
	normB, e := Norm(b)
	if e != api.OK {
		return false, e
	}
	return slices.Equal(normA, normB), api.OK
}

// breaks returns the different X of both curves in their common domain, in rising order.
func breaks(a, b []api.Point) ([]api.Frac, api.Errno) {
	if !Valid(a) || !Valid(b) {
		return nil, api.ErrArg
	}
	end := lesser(last(a).X, last(b).X)
	var numbers []api.Frac
	for _, p := range slices.Concat(a, b) {
		if compare(p.X, end) <= 0 {
			numbers = append(numbers, p.X)
		}
	}
	slices.SortFunc(numbers, compare)
	numbers = slices.Compact(numbers)
	if len(numbers) > api.MaxPoints {
		return nil, api.ErrSize
	}
	return numbers, api.OK
}

// grid returns the breaks of both curves and where they meet between two of
// them, in rising order; and for each of these whether b is below a (-1), meets
// it (0) or is above it (1).
func grid(a, b []api.Point) ([]api.Frac, []int, api.Errno) {
	xs, e := breaks(a, b)
	if e != api.OK {
		return nil, nil, e
	}
	s := new(steps)
	gaps := s.gaps(a, b, xs)
	var numbers []api.Frac
	var sides []int
	for i, x := range xs {
		numbers, sides = append(numbers, x), append(sides, side(gaps[i]))
		if i+1 < len(xs) && side(gaps[i])*side(gaps[i+1]) < 0 {
			u := s.meeting(x, xs[i+1], gaps[i], gaps[i+1])
			numbers, sides = append(numbers, u), append(sides, 0)
		}
	}
	if s.failed != api.OK {
		return nil, nil, s.failed
	}
	if len(numbers) > api.MaxPoints {
		return nil, nil, api.ErrSize
	}
	return numbers, sides, api.OK
}

// gaps returns, for each number, what b is above a there.
func (s *steps) gaps(a, b []api.Point, numbers []api.Frac) []api.Frac {
	atA, atB := s.along(a), s.along(b)
	gaps := make([]api.Frac, 0, len(numbers))
	for _, x := range numbers {
		gaps = append(gaps, s.take(frac.Sub, atB(x), atA(x)))
	}
	return gaps
}

// meeting is where the line from the gap dx at x to the gap dz at z is zero.
func (s *steps) meeting(x, z, dx, dz api.Frac) api.Frac {
	part := s.take(frac.Div, dx, s.take(frac.Sub, dx, dz))
	return s.take(frac.Add, x, s.take(frac.Mul, part, s.take(frac.Sub, z, x)))
}

func side(gap api.Frac) int { return cmp.Compare(gap.Num, 0) }
