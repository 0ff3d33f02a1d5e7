package curve

import "trank/api"

// Convex returns the greatest convex function that is nowhere above c.
func Convex(c []api.Point) ([]api.Point, api.Errno) { return hull(c, lesser) }

// Concave returns the least concave function that is nowhere below c.
func Concave(c []api.Point) ([]api.Point, api.Errno) { return hull(c, greater) }

// hull goes from each corner to the point whose slope the pick prefers to all others.
func hull(c []api.Point, pick func(s, t api.Frac) api.Frac) ([]api.Point, api.Errno) {
	if !Valid(c) {
		return nil, api.ErrArg
	}
	s := new(steps)
	for i := range c {
		s.slopesFrom(c[i], c[i+1:])
	}
	if s.failed != api.OK {
		return nil, s.failed
	}
	corners := []api.Point{c[0]}
	for rest := c[1:]; len(rest) > 0; {
		next := preferred(s.slopesFrom(last(corners), rest), pick)
		corners = append(corners, rest[next])
		rest = rest[next+1:]
	}
	return corners, api.OK
}

func (s *steps) slopesFrom(p api.Point, rest []api.Point) []api.Frac {
	var slopes []api.Frac
	for _, q := range rest {
		slopes = append(slopes, s.slope(p, q))
	}
	return slopes
}

// preferred is the index of the slope that the pick prefers; of equal ones the last,
// for the others lie on the line to it and are no corners.
func preferred(slopes []api.Frac, pick func(s, t api.Frac) api.Frac) int {
	best := 0
	for i, t := range slopes {
		if pick(slopes[best], t) == t {
			best = i
		}
	}
	return best
}
