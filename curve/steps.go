package curve

import (
	"slices"

	"trank/api"
	"trank/frac"
)

// steps makes calls of frac, one after another, and keeps the first error.
// After an error it makes no further call, so that a formula can be written as
// a whole and be asked for its error at the end.
type steps struct{ failed api.Errno }

func (s *steps) take(call func(a, b api.Frac) (api.Frac, api.Errno), a, b api.Frac) api.Frac {
	if s.failed != api.OK {
		return api.Frac{}
	}
	f, e := call(a, b)
	s.failed = e
	return f
}

// ended is the end of a function: its result, unless a step failed.
func ended[T any](s *steps, result T) (T, api.Errno) {
	if s.failed != api.OK {
		var none T
		return none, s.failed
	}
	return result, api.OK
}

// slope is that of the line from p to q.
func (s *steps) slope(p, q api.Point) api.Frac {
	return s.take(frac.Div, s.take(frac.Sub, q.Y, p.Y), s.take(frac.Sub, q.X, p.X))
}

// along returns the curve as a function on its domain.
func (s *steps) along(c []api.Point) func(x api.Frac) api.Frac {
	return func(x api.Frac) api.Frac {
		i, found := slices.BinarySearchFunc(c, x, func(p api.Point, x api.Frac) int { return compare(p.X, x) })
		if found {
			return c[i].Y
		}
		p := c[i-1]
		return s.take(frac.Add, p.Y, s.take(frac.Mul, s.take(frac.Sub, x, p.X), s.slope(p, c[i])))
	}
}

// plot returns the normal curve through the points that belong to the numbers.
func (s *steps) plot(numbers []api.Frac, point func(x api.Frac) api.Point) ([]api.Point, api.Errno) {
	points := make([]api.Point, 0, len(numbers))
	for _, x := range numbers {
		points = append(points, point(x))
	}
	if s.failed != api.OK {
		return nil, s.failed
	}
	return Norm(points)
}

// compare needs no error: what it is given is valid, or follows a step that failed.
func compare(a, b api.Frac) int {
	order, _ := frac.Cmp(a, b)
	return order
}

func lesser(a, b api.Frac) api.Frac {
	if compare(a, b) <= 0 {
		return a
	}
	return b
}

func greater(a, b api.Frac) api.Frac {
	if compare(a, b) >= 0 {
		return a
	}
	return b
}

func aboveZero(f api.Frac) bool { return frac.Valid(f) && f.Num > 0 }

// whole is n as a fraction; n is small.
func whole(n int) api.Frac {
	f, _ := frac.Whole(n)
	return f
}
