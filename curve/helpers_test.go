package curve_test

import (
	"fmt"
	"math"
	"math/big"
	"math/rand"
	"slices"
	"testing"

	"trank/api"
	"trank/frac"
)

const most = api.MaxPart

type curve1 func(c []api.Point) ([]api.Point, api.Errno)
type curve2 func(a, b []api.Point) ([]api.Point, api.Errno)
type value func(c []api.Point, x api.Frac) (api.Frac, api.Errno)

func fr(n, d int) api.Frac { return api.Frac{Num: n, Den: d} }

func fracs(l ...int) []api.Frac {
	var all []api.Frac
	for _, n := range l {
		all = append(all, fr(n, 1))
	}
	return all
}

func pt(x, y api.Frac) api.Point { return api.Point{X: x, Y: y} }

// through returns (0,0) and these points.
func through(l ...api.Point) []api.Point { return append([]api.Point{pt(fr(0, 1), fr(0, 1))}, l...) }

// whole returns (0,0) and these points of whole numbers.
func whole(xy ...int) []api.Point {
	c := through()
	for i := 0; i < len(xy); i += 2 {
		c = append(c, pt(fr(xy[i], 1), fr(xy[i+1], 1)))
	}
	return c
}

// line returns the points (0,0), (dx,dy), (2dx,2dy) .. of n segments.
func line(n, dx, dy int) []api.Point {
	c := through()
	for i := 1; i <= n; i++ {
		c = append(c, pt(fr(i*dx, 1), fr(i*dy, 1)))
	}
	return c
}

// steep has a slope that is not representable.
func steep() []api.Point { return through(pt(fr(1, 10), fr(most, 1))) }

// invalid are slices that every function must refuse.
func invalid() map[string][]api.Point {
	good := whole(1, 1, 2, 2, 3, 3)
	with := func(i int, p api.Point) []api.Point {
		c := slices.Clone(good)
		c[i] = p
		return c
	}
	l := map[string][]api.Point{
		"nil":                        nil,
		"empty":                      {},
		"one point":                  whole(),
		"one point elsewhere":        whole(1, 1)[1:],
		"49 points":                  line(48, 1, 1),
		"1000 points":                line(999, 1, 1),
		"begins at (1, 1)":           good[1:],
		"begins at (1, 0)":           with(0, pt(fr(1, 2), fr(0, 1))),
		"begins at (0, 1)":           with(0, pt(fr(0, 1), fr(1, 2))),
		"begins at (-1, 0)":          with(0, pt(fr(-1, 1), fr(0, 1))),
		"begins at (0, -1)":          with(0, pt(fr(0, 1), fr(-1, 1))),
		"begins with another zero X": with(0, pt(fr(0, 2), fr(0, 1))),
		"begins with another zero Y": with(0, pt(fr(0, 1), fr(0, -1))),
		"begins with no fraction":    with(0, api.Point{}),
		"same X":                     with(2, pt(fr(1, 1), fr(2, 1))),
		"same Y":                     with(2, pt(fr(2, 1), fr(1, 1))),
		"same point":                 with(2, pt(fr(1, 1), fr(1, 1))),
		"same last X":                with(3, pt(fr(2, 1), fr(3, 1))),
		"same last Y":                with(3, pt(fr(3, 1), fr(2, 1))),
		"falling X":                  with(2, pt(fr(1, 2), fr(2, 1))),
		"falling Y":                  with(2, pt(fr(2, 1), fr(1, 2))),
		"falling last X":             with(3, pt(fr(3, 2), fr(3, 1))),
		"falling last Y":             with(3, pt(fr(3, 1), fr(3, 2))),
		"second X of zero":           with(1, pt(fr(0, 1), fr(1, 1))),
		"second Y of zero":           with(1, pt(fr(1, 1), fr(0, 1))),
		"negative X":                 with(1, pt(fr(-1, 1), fr(1, 1))),
		"negative Y":                 with(1, pt(fr(1, 1), fr(-1, 1))),
	}
	for _, f := range notFractions() {
		for i := range 4 {
			l[fmt.Sprint("X ", i, f)] = with(i, pt(f, good[i].Y))
			l[fmt.Sprint("Y ", i, f)] = with(i, pt(good[i].X, f))
		}
	}
	return l
}

func notFractions() []api.Frac {
	return []api.Frac{
		{}, fr(1, 0), fr(0, 2), fr(0, -1), fr(1, -1), fr(2, 4), fr(4, 2), fr(6, 2), fr(2, 2), fr(-3, 3), fr(most+1, 1), fr(1, most+1), fr(2*most+1, most),
		fr(math.MinInt, 1), fr(math.MaxInt, 1), fr(1, math.MinInt), fr(1, math.MaxInt), fr(math.MinInt, math.MinInt), fr(math.MaxInt, math.MaxInt),
	}
}

// randomCurve has up to n points; how fine and how long its steps are differs from curve to curve.
func randomCurve(random *rand.Rand, n int) []api.Point {
	long, fine := random.Intn(7), random.Intn(3)
	if random.Intn(3) == 0 {
		long, fine = random.Intn(30), random.Intn(22)
	}
	step := func() api.Frac {
		f, _ := frac.New(1+random.Intn(1<<long), 1+random.Intn(1<<fine))
		return f
	}
	n = 2 + random.Intn(n-1)
	c := through(pt(step(), step()))
	for range n - 2 {
		end := c[len(c)-1]
		x, eX := frac.Add(end.X, step())
		y, eY := frac.Add(end.Y, step())
		if eX != api.OK || eY != api.OK {
			break
		}
		c = append(c, pt(x, y))
	}
	return c
}

// randomNumber is in the domain of c in most cases; it may be a point's X.
func randomNumber(random *rand.Rand, c []api.Point) api.Frac {
	p := c[random.Intn(len(c))]
	switch random.Intn(8) {
	case 0:
		return p.X
	case 1:
		f, _ := frac.New(random.Intn(2*most)-most, 1+random.Intn(most)>>random.Intn(30))
		return orZero(f)
	}
	f, _ := frac.New(random.Intn(1<<10), 1<<10>>random.Intn(11))
	f, _ = frac.Mul(p.X, orZero(f))
	return orZero(f)
}

func orZero(f api.Frac) api.Frac {
	if !frac.Valid(f) {
		return fr(0, 1)
	}
	return f
}

func wantFrac(t *testing.T, what string, got api.Frac, e api.Errno, want api.Frac, wantE api.Errno) {
	t.Helper()
	if got != want || e != wantE {
		t.Errorf("%s: %v, error %d; want %v, error %d", what, got, e, want, wantE)
	}
}

func wantList[T comparable](t *testing.T, what string, got []T, e api.Errno, want []T, wantE api.Errno) {
	t.Helper()
	if !slices.Equal(got, want) || e != wantE {
		t.Errorf("%s: %v, error %d; want %v, error %d", what, got, e, want, wantE)
	}
}

func wantBool(t *testing.T, what string, got bool, e api.Errno, want bool, wantE api.Errno) {
	t.Helper()
	if got != want || e != wantE {
		t.Errorf("%s: %v, error %d; want %v, error %d", what, got, e, want, wantE)
	}
}

// seen counts the errors that a test of random curves expected, so that none of them is left out by chance.
type seen map[api.Errno]int

func (s seen) all(t *testing.T, errors ...api.Errno) {
	t.Helper()
	for _, e := range errors {
		if s[e] < 8 {
			t.Errorf("the curves led to error %d in %d cases only: %v", e, s[e], s)
		}
	}
}

// The oracle: the document's formulas on rational numbers without limits.

type dot struct{ x, y *big.Rat }

func rat(f api.Frac) *big.Rat { return big.NewRat(int64(f.Num), int64(f.Den)) }

func dots(c []api.Point) []dot {
	var l []dot
	for _, p := range c {
		l = append(l, dot{rat(p.X), rat(p.Y)})
	}
	return l
}

func turned(c []dot) []dot {
	var l []dot
	for _, p := range c {
		l = append(l, dot{p.y, p.x})
	}
	return l
}

func end(c []dot) dot { return c[len(c)-1] }

func lower(a, b *big.Rat) *big.Rat {
	if a.Cmp(b) < 0 {
		return a
	}
	return b
}

func representable(r *big.Rat) bool {
	limit := big.NewInt(most)
	return r.Num().CmpAbs(limit) <= 0 && r.Denom().Cmp(limit) <= 0
}

func toFrac(r *big.Rat) api.Frac { return fr(int(r.Num().Int64()), int(r.Denom().Int64())) }

// tally remembers whether some step was not representable.
type tally struct{ over bool }

func (o *tally) keep(r *big.Rat) *big.Rat {
	o.over = o.over || !representable(r)
	return r
}

func (o *tally) add(a, b *big.Rat) *big.Rat { return o.keep(new(big.Rat).Add(a, b)) }
func (o *tally) sub(a, b *big.Rat) *big.Rat { return o.keep(new(big.Rat).Sub(a, b)) }
func (o *tally) mul(a, b *big.Rat) *big.Rat { return o.keep(new(big.Rat).Mul(a, b)) }
func (o *tally) div(a, b *big.Rat) *big.Rat { return o.keep(new(big.Rat).Quo(a, b)) }

func (o *tally) slope(p, q dot) *big.Rat { return o.div(o.sub(q.y, p.y), o.sub(q.x, p.x)) }

func (o *tally) at(c []dot, x *big.Rat) *big.Rat {
	for i, p := range c {
		if p.x.Cmp(x) == 0 {
			return p.y
		}
		if x.Cmp(c[i+1].x) < 0 {
			return o.add(p.y, o.mul(o.sub(x, p.x), o.slope(p, c[i+1])))
		}
	}
	panic("not in the domain")
}

func (o *tally) norm(c []dot) []dot {
	l := c[:1:1]
	for i := 1; i < len(c); i++ {
		slope := o.slope(c[i-1], c[i])
		if i == len(c)-1 || slope.Cmp(o.slope(c[i], c[i+1])) != 0 {
			l = append(l, c[i])
		}
	}
	return l
}

// points is the result of a function that returns a curve.
func (o *tally) points(c []dot) ([]api.Point, api.Errno) {
	if o.over {
		return nil, api.ErrRange
	}
	var l []api.Point
	for _, p := range c {
		l = append(l, pt(toFrac(p.x), toFrac(p.y)))
	}
	return l, api.OK
}

func (o *tally) number(r *big.Rat) (api.Frac, api.Errno) {
	if o.over {
		return api.Frac{}, api.ErrRange
	}
	return toFrac(r), api.OK
}

// breaks returns the numbers of P2.5.
func breaks(a, b []dot) []*big.Rat {
	limit := lower(end(a).x, end(b).x)
	var l []*big.Rat
	for _, p := range slices.Concat(a, b) {
		if p.x.Cmp(limit) <= 0 {
			l = append(l, p.x)
		}
	}
	slices.SortFunc(l, (*big.Rat).Cmp)
	return slices.CompactFunc(l, func(a, b *big.Rat) bool { return a.Cmp(b) == 0 })
}

// exact is the value at x by the two weights of its neighbours, whether that is representable or not.
func exact(c []dot, x *big.Rat) *big.Rat {
	free := new(tally)
	i := 1
	for x.Cmp(c[i].x) > 0 {
		i++
	}
	p, q := c[i-1], c[i]
	left, right := free.mul(p.y, free.sub(q.x, x)), free.mul(q.y, free.sub(x, p.x))
	return free.div(free.add(left, right), free.sub(q.x, p.x))
}

// between returns the numbers and those at thirds between them, so that two piecewise-linear functions with no more corners differ at one if they differ.
func between(l []*big.Rat) []*big.Rat {
	free := new(tally)
	third := big.NewRat(1, 3)
	all := l[:1:1]
	for i := 1; i < len(l); i++ {
		step := free.mul(free.sub(l[i], l[i-1]), third)
		first := free.add(l[i-1], step)
		all = append(all, first, free.add(first, step), l[i])
	}
	return all
}
