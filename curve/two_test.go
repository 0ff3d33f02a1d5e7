package curve_test

import (
	"fmt"
	"math/big"
	"math/rand"
	"slices"
	"testing"

	"trank/api"
	"trank/curve"
)

// halves returns (0,0) and n points of Y = X, from first/2 on, in steps of step/2.
func halves(n, first, step int) []api.Point {
	c := through()
	for i := range n {
		x := toFrac(big.NewRat(int64(first+i*step), 2))
		c = append(c, pt(x, x))
	}
	return c
}

// sameAs appends points of Y = X.
func sameAs(c []api.Point, l ...api.Frac) []api.Point {
	for _, x := range l {
		c = append(c, pt(x, x))
	}
	return c
}

// cliff has n + 27 breaks with one whose slope at 481/20 is not representable.
func cliff(n int) (a, b []api.Point) {
	a = sameAs(line(24, 1, 1), fr(481, 20), fr(25, 1))
	b = append(sameAs(halves(n, 1, 2), fr(24, 1)), pt(fr(241, 10), fr(most, 1)))
	return a, b
}

// sized are pairs of curves with about as many breaks as are allowed; all their functions count the same, for they count Y = X.
func sized() []struct {
	what string
	a, b []api.Point
	e    api.Errno
} {
	full, over := line(47, 1, 1), sameAs(halves(24, 1, 2), fr(24, 1))
	beyondA, beyondB := cliff(22)
	withinA, withinB := cliff(21)
	return []struct {
		what string
		a, b []api.Point
		e    api.Errno
	}{
		{"48 in common", full, full, api.OK},
		{"48 of one", full, whole(100, 100), api.OK},
		{"48 of both", line(24, 1, 1), halves(24, 1, 2), api.OK},
		{"49 of both", line(24, 1, 1), over, api.ErrSize},
		{"49 with the end", full, sameAs(whole(1, 1), fr(93, 2), fr(100, 1)), api.ErrSize},
		{"48 and others beyond", full, sameAs(through(), fr(1, 4), fr(46, 1)), api.OK},
		{"50 and the end within", full, sameAs(through(), fr(1, 4), fr(3, 4), fr(93, 2)), api.ErrSize},
		{"2 and others beyond", full, whole(1, 1), api.OK},
		{"94", full, sameAs(halves(46, 1, 2), fr(47, 1)), api.ErrSize},
		{"49 before an error of frac", beyondA, beyondB, api.ErrSize},
		{"48 and an error of frac", withinA, withinB, api.ErrRange},
	}
}

// randomPair has curves whose breaks lie among each other; of some, both have the same X, and of some they are many.
func randomPair(random *rand.Rand) (a, b []api.Point) {
	switch random.Intn(12) {
	case 0:
		return wholeCurve(random, api.MaxPoints), wholeCurve(random, api.MaxPoints)
	case 1, 2, 3, 4, 5:
		return wholeCurve(random, 8), wholeCurve(random, 8)
	case 6, 7:
		n, shift := 2+random.Intn(29), random.Intn(3)
		return nearCurve(random, n, 0), nearCurve(random, n, shift)
	}
	return randomCurve(random, 8), randomCurve(random, 8)
}

func wholeCurve(random *rand.Rand, n int) []api.Point {
	c, long := whole(), 2+random.Intn(4)
	for range 1 + random.Intn(n-1) {
		end := c[len(c)-1]
		c = append(c, pt(fr(end.X.Num+1+random.Intn(long), 1), fr(end.Y.Num+1+random.Intn(long), 1)))
	}
	return c
}

// nearCurve is one of curves that meet often, at their points and between them.
func nearCurve(random *rand.Rand, n, shift int) []api.Point {
	c := whole()
	for i := 1; i <= n; i++ {
		c = append(c, pt(fr(2*i, 1), fr(8*i+random.Intn(3), 1)))
	}
	if shift > 0 {
		c[n].X.Num += shift
	}
	return c
}

// P2.5

func TestSumExamples(t *testing.T) {
	for _, c := range []struct {
		a, b, want []api.Point
		e          api.Errno
	}{
		{whole(4, 2), whole(2, 2), whole(2, 3), api.OK},
		{whole(2, 2), whole(4, 2), whole(2, 3), api.OK},
		{whole(2, 1, 4, 4), whole(4, 2), whole(2, 2, 4, 6), api.OK},
		{whole(2, 1, 4, 4), whole(1, 1, 4, 2), through(pt(fr(1, 1), fr(3, 2)), pt(fr(2, 1), fr(7, 3)), pt(fr(4, 1), fr(6, 1))), api.OK},
		{whole(2, 1, 4, 4), whole(2, 4, 4, 6), whole(4, 10), api.OK}, // made normal
		{whole(1, 1, 2, 2, 3, 3), whole(2, 4, 3, 5), whole(2, 6, 3, 8), api.OK},
		{whole(2, 1, 4, 4), whole(1, 1), through(pt(fr(1, 1), fr(3, 2))), api.OK},
		{whole(1, most), whole(1, 1), nil, api.ErrRange}, // in Add
		{whole(1, most/2), whole(1, most/2), whole(1, most), api.OK},
		{whole(2, most/2), whole(1, 1), through(pt(fr(1, 1), fr(most/4+1, 1))), api.OK},
		{whole(1, 1, most, 2), whole(most, 1), nil, api.ErrRange}, // in At
		{steep(), steep(), nil, api.ErrRange},
		{through(pt(fr(1, most), fr(1, most)), pt(fr(1, 1), fr(1, 1))), through(pt(fr(1, most), fr(1, most)), pt(fr(1, 1), fr(2, 1))), nil, api.ErrRange}, // in Norm
	} {
		got, e := curve.Sum(c.a, c.b)
		wantList(t, fmt.Sprint("Sum ", c.a, c.b), got, e, c.want, c.e)
	}
}

func sumOracle(a, b []dot) ([]api.Point, api.Errno) {
	numbers, o := breaks(a, b), new(tally)
	if len(numbers) > api.MaxPoints {
		return nil, api.ErrSize
	}
	var sum []dot
	for _, x := range numbers {
		sum = append(sum, dot{x, o.add(o.at(a, x), o.at(b, x))})
	}
	return o.points(o.norm(sum))
}

func TestSumAndSeriesOfRandomCurves(t *testing.T) {
	random, seenSum, seenSeries := rand.New(rand.NewSource(20)), seen{}, seen{}
	for range 3000 {
		a, b := randomPair(random)
		want, wantE := sumOracle(dots(a), dots(b))
		got, e := curve.Sum(a, b)
		wantList(t, fmt.Sprint("Sum ", a, b), got, e, want, wantE)
		seenSum[wantE]++
		want, wantE = sumOracle(turned(dots(a)), turned(dots(b)))
		for i, p := range want {
			want[i] = pt(p.Y, p.X)
		}
		got, e = curve.Series(a, b)
		wantList(t, fmt.Sprint("Series ", a, b), got, e, want, wantE)
		seenSeries[wantE]++
	}
	seenSum.all(t, api.OK, api.ErrSize, api.ErrRange)
	seenSeries.all(t, api.OK, api.ErrSize, api.ErrRange)
}

func TestSumIsExact(t *testing.T) {
	random := rand.New(rand.NewSource(21))
	for range 400 {
		a, b := randomPair(random)
		sum, e := curve.Sum(a, b)
		if e != api.OK {
			continue
		}
		numbers := breaks(dots(a), dots(b))
		if end(dots(sum)).x.Cmp(numbers[len(numbers)-1]) != 0 {
			t.Errorf("Sum %v %v: %v has another end", a, b, sum)
		}
		for _, x := range between(numbers) {
			if new(big.Rat).Add(exact(dots(a), x), exact(dots(b), x)).Cmp(exact(dots(sum), x)) != 0 {
				t.Errorf("Sum %v %v: %v differs at %v", a, b, sum, x)
			}
		}
	}
}

func TestSeriesExamples(t *testing.T) {
	for _, c := range []struct {
		a, b, want []api.Point
		e          api.Errno
	}{
		{whole(4, 2), whole(2, 2), whole(6, 2), api.OK},
		{whole(2, 2), whole(4, 2), whole(6, 2), api.OK},
		{whole(2, 1, 4, 4), whole(4, 2), through(pt(fr(4, 1), fr(1, 1)), pt(fr(20, 3), fr(2, 1))), api.OK},
		{whole(1, 1, 3, 2), whole(2, 1, 3, 2), whole(6, 2), api.OK}, // made normal
		{whole(4, 2), whole(100, 100), whole(6, 2), api.OK},
		{whole(most, 1), whole(1, 1), nil, api.ErrRange},
		{steep(), whole(1, 1), nil, api.ErrRange},
	} {
		got, e := curve.Series(c.a, c.b)
		wantList(t, fmt.Sprint("Series ", c.a, c.b), got, e, c.want, c.e)
	}
}

// P2.13

func TestDeMorgan(t *testing.T) {
	random := rand.New(rand.NewSource(22))
	for range 3000 {
		a, b := randomPair(random)
		backA, _ := curve.Inverse(a)
		backB, _ := curve.Inverse(b)
		sum, sumE := curve.Sum(backA, backB)
		series, e := curve.Series(a, b)
		if e != sumE {
			t.Errorf("Series %v %v: error %d; want that of Sum, %d", a, b, e, sumE)
		}
		if e != api.OK {
			continue
		}
		back, e := curve.Inverse(series)
		wantList(t, fmt.Sprint("Inverse of Series ", a, b), back, e, sum, api.OK)
		back, e = curve.Inverse(sum)
		wantList(t, fmt.Sprint("Series ", a, b), series, api.OK, back, e)
	}
}

// P2.5, P2.6, P2.7, P2.8: the number of breaks

func TestSizes(t *testing.T) {
	for _, c := range sized() {
		for _, pair := range [][2][]api.Point{{c.a, c.b}, {c.b, c.a}} {
			a, b := pair[0], pair[1]
			var sum, series, one []api.Point
			if c.e == api.OK {
				e := a[len(a)-1].X
				if l := b[len(b)-1].X; rat(l).Cmp(rat(e)) < 0 {
					e = l
				}
				double := toFrac(new(big.Rat).Add(rat(e), rat(e)))
				sum, series, one = through(pt(e, double)), through(pt(double, e)), through(pt(e, e))
			}
			got, e := curve.Sum(a, b)
			wantList(t, "Sum of "+c.what, got, e, sum, c.e)
			got, e = curve.Series(a, b)
			wantList(t, "Series of "+c.what, got, e, series, c.e)
			got, e = curve.Compose(a, b)
			wantList(t, "Compose of "+c.what, got, e, one, c.e)
			got, e = curve.Upper(a, b)
			wantList(t, "Upper of "+c.what, got, e, one, c.e)
			got, e = curve.Lower(a, b)
			wantList(t, "Lower of "+c.what, got, e, one, c.e)
			crossings, e := curve.Crossings(a, b)
			wantList(t, "Crossings of "+c.what, crossings, e, nil, c.e)
			under, e := curve.Under(a, b)
			wantBool(t, "Under of "+c.what, under, e, c.e == api.OK, c.e)
		}
	}
}

// P2.6

func TestComposeExamples(t *testing.T) {
	for _, c := range []struct {
		a, b, want []api.Point
		e          api.Errno
	}{
		{whole(2, 1, 4, 4), whole(2, 2), whole(2, 1), api.OK},
		{whole(2, 1, 4, 4), whole(4, 4), whole(2, 1, 4, 4), api.OK},
		{whole(4, 4), whole(2, 1, 4, 4), whole(2, 1, 4, 4), api.OK},
		{whole(2, 1, 4, 4), whole(1, 4), through(pt(fr(1, 2), fr(1, 1)), pt(fr(1, 1), fr(4, 1))), api.OK},
		{whole(2, 1, 4, 4), whole(1, 100), through(pt(fr(1, 50), fr(1, 1)), pt(fr(1, 25), fr(4, 1))), api.OK}, // b leaves the domain of a
		{whole(2, 1, 4, 4), whole(2, 4, 6, 6), through(pt(fr(1, 1), fr(1, 1)), pt(fr(2, 1), fr(4, 1))), api.OK},
		{whole(2, 1, 4, 4), whole(1, 2, 7, 4), whole(1, 1, 7, 4), api.OK},
		{whole(2, 1, 4, 4), whole(1, 2, 4, 4), whole(4, 4), api.OK}, // made normal
		{whole(2, 1, 4, 5), whole(1, 2, 5, 4), whole(5, 5), api.OK}, // likewise
		{whole(1, 5), whole(10, 1), whole(10, 5), api.OK},
		{whole(10, 1), whole(1, 5), through(pt(fr(1, 1), fr(1, 2))), api.OK},
		{steep(), through(pt(fr(1, 1), fr(1, 20))), nil, api.ErrRange},                // in At(a, t)
		{whole(1, 1), steep(), nil, api.ErrRange},                                     // in Solve(b, t)
		{whole(1, 1000000), through(pt(fr(1, 1000000), fr(1, 1))), nil, api.ErrRange}, // in Norm
	} {
		got, e := curve.Compose(c.a, c.b)
		wantList(t, fmt.Sprint("Compose ", c.a, c.b), got, e, c.want, c.e)
	}
}

func composeOracle(a, b []dot) ([]api.Point, api.Errno) {
	numbers, o := breaks(a, turned(b)), new(tally)
	if len(numbers) > api.MaxPoints {
		return nil, api.ErrSize
	}
	var composed []dot
	for _, t := range numbers {
		composed = append(composed, dot{o.at(turned(b), t), o.at(a, t)})
	}
	return o.points(o.norm(composed))
}

func TestComposeOfRandomCurves(t *testing.T) {
	random, seen := rand.New(rand.NewSource(23)), seen{}
	for range 3000 {
		a, b := randomPair(random)
		want, wantE := composeOracle(dots(a), dots(b))
		got, e := curve.Compose(a, b)
		wantList(t, fmt.Sprint("Compose ", a, b), got, e, want, wantE)
		seen[wantE]++
	}
	seen.all(t, api.OK, api.ErrSize, api.ErrRange)
}

func TestComposeIsExact(t *testing.T) {
	random := rand.New(rand.NewSource(24))
	for range 400 {
		a, b := randomPair(random)
		composed, e := curve.Compose(a, b)
		if e != api.OK {
			continue
		}
		var numbers []*big.Rat
		for _, y := range breaks(dots(a), turned(dots(b))) {
			numbers = append(numbers, exact(turned(dots(b)), y))
		}
		if end(dots(composed)).x.Cmp(numbers[len(numbers)-1]) != 0 {
			t.Errorf("Compose %v %v: %v has another end", a, b, composed)
		}
		for _, x := range between(numbers) {
			if exact(dots(a), exact(dots(b), x)).Cmp(exact(dots(composed), x)) != 0 {
				t.Errorf("Compose %v %v: %v differs at %v", a, b, composed, x)
			}
		}
	}
}

// P2.7

func TestEnvelopeExamples(t *testing.T) {
	c := whole(2, 1, 4, 4)
	for _, c := range []struct {
		a, b, upper, lower []api.Point
		crossings          []api.Frac
	}{
		{whole(4, 2), c, c, whole(4, 2), nil},
		{whole(4, 3), c, through(pt(fr(8, 3), fr(2, 1)), c[2]), through(c[1], pt(fr(8, 3), fr(2, 1)), pt(fr(4, 1), fr(3, 1))), []api.Frac{fr(8, 3)}},
		{c, c, c, c, nil},
		{whole(1, 1), whole(1, 2), whole(1, 2), whole(1, 1), nil},
		{whole(1, 1, 2, 2), whole(1, 2, 2, 4), whole(2, 4), whole(2, 2), nil},                                     // made normal
		{whole(1, 1, 2, 3), whole(1, 2, 2, 3), whole(1, 2, 2, 3), whole(1, 1, 2, 3), nil},                         // they meet at the end
		{whole(1, 1, 2, 3, 3, 4), whole(1, 2, 2, 3, 3, 5), whole(1, 2, 2, 3, 3, 5), whole(1, 1, 2, 3, 3, 4), nil}, // they touch
		{whole(1, 1, 2, 3, 3, 5), whole(1, 2, 2, 3, 3, 4), whole(1, 2, 2, 3, 3, 5), whole(1, 1, 2, 3, 3, 4), fracs(2)},
		{whole(1, 2, 2, 3, 3, 4), whole(1, 1, 2, 3, 3, 5), whole(1, 2, 2, 3, 3, 5), whole(1, 1, 2, 3, 3, 4), fracs(2)},
		{whole(1, 1, 2, 3, 3, 4, 4, 6), whole(1, 2, 2, 3, 3, 4, 4, 5), whole(1, 2, 3, 4, 4, 6), whole(1, 1, 2, 3, 4, 5), nil}, // they are one from 2 to 3
		{whole(2, 4), whole(1, 1, 2, 4, 4, 5), whole(2, 4), whole(1, 1, 2, 4), nil},                                           // beyond the end they would cross
		{whole(1, 1, 2, 3, 3, 5, 4, 6, 5, 7), whole(1, 2, 2, 3, 3, 4, 4, 6, 5, 8), whole(1, 2, 2, 3, 3, 5, 4, 6, 5, 8), whole(1, 1, 2, 3, 3, 4, 4, 6, 5, 7), fracs(2, 4)},
		{whole(3, 3), whole(1, 2, 2, 3, 3, 4), whole(1, 2, 3, 4), whole(3, 3), nil},
		{whole(1, 1, 40001, 100001), whole(1, 40001, 40001, 60001), whole(1, 40001, 20001, 50001, 40001, 100001), whole(1, 1, 20001, 50001, 40001, 60001), fracs(20001)}, // the product of the gap and the step is not representable, nor is it needed
		{whole(1, 1, 3, 9), whole(1, 2, 3, 8), through(pt(fr(1, 1), fr(2, 1)), pt(fr(2, 1), fr(5, 1)), pt(fr(3, 1), fr(9, 1))), through(pt(fr(1, 1), fr(1, 1)), pt(fr(2, 1), fr(5, 1)), pt(fr(3, 1), fr(8, 1))), fracs(2)},
	} {
		for _, pair := range [][2][]api.Point{{c.a, c.b}, {c.b, c.a}} {
			a, b := pair[0], pair[1]
			got, e := curve.Upper(a, b)
			wantList(t, fmt.Sprint("Upper ", a, b), got, e, c.upper, api.OK)
			got, e = curve.Lower(a, b)
			wantList(t, fmt.Sprint("Lower ", a, b), got, e, c.lower, api.OK)
			crossings, e := curve.Crossings(a, b)
			wantList(t, fmt.Sprint("Crossings ", a, b), crossings, e, c.crossings, api.OK)
		}
	}
}

// Both values are computed at each number of the grid: where they cross, that of a is representable, and all steps to it; not so a step to that of b.
func TestEnvelopeComputesBothValues(t *testing.T) {
	const p, q = 40009, 40001
	a := through(pt(fr(1, p), fr(1, 2*p)), pt(fr(1, 1), fr(q-1, q)), pt(fr(2, 1), fr(3*q-1, q)))
	b := sameAs(through(), fr(1, p), fr(2, 1))
	u := fr(q+1, q)
	if y, e := curve.At(a, u); y != u || e != api.OK {
		t.Errorf("At %v %v: %v, error %d", a, u, y, e)
	}
	if y, e := curve.At(b, u); e != api.ErrRange {
		t.Errorf("At %v %v: %v, error %d", b, u, y, e)
	}
	for _, pair := range [][2][]api.Point{{a, b}, {b, a}} {
		got, e := curve.Upper(pair[0], pair[1])
		wantList(t, fmt.Sprint("Upper ", pair), got, e, nil, api.ErrRange)
		crossings, e := curve.Crossings(pair[0], pair[1])
		wantList(t, fmt.Sprint("Crossings ", pair), crossings, e, []api.Frac{u}, api.OK)
	}
}

// zigzag returns curves that cross between each two of their n points but (0,0); a last gap of the sign and size that is given.
func zigzag(n, fine, lastGap, lastFine int) (a, b []api.Point) {
	a, b = line(n, 1, 1), line(n, 1, 1)
	for i := 1; i <= n; i++ {
		gap := big.NewRat(1, int64(fine))
		if i%2 == 0 {
			gap.Neg(gap)
		}
		if i == n {
			gap = big.NewRat(int64(lastGap), int64(lastFine))
		}
		b[i].Y = toFrac(gap.Add(gap, rat(b[i].Y)))
	}
	return a, b
}

func TestGridSizes(t *testing.T) {
	for _, c := range []struct {
		n, fine, lastGap, lastFine, crossings int
		e                                     api.Errno
	}{
		{2, 4, -1, 4, 1, api.OK},
		{2, 4, 1, 4, 0, api.OK},
		{23, 4, 1, 4, 22, api.OK},
		{24, 4, 0, 1, 22, api.OK},
		{24, 4, -1, 4, 23, api.OK},              // 25 breaks and 23 between: 48
		{25, 4, -1, 4, 23, api.ErrSize},         // 26 and 23
		{25, 4, 0, 1, 23, api.ErrSize},          // 26 and 23
		{25, 4, 1, 4, 24, api.ErrSize},          // 26 and 24
		{47, 4, 1, 4, 46, api.ErrSize},          // 48 and 46
		{3, 64, 1, 37000001, 2, api.ErrRange},   // in Sub(d(x), d(z))
		{25, 64, 1, 37000001, 24, api.ErrRange}, // before ErrSize, which follows the grid
		{25, 64, 1, 64, 24, api.ErrSize},
	} {
		a, b := zigzag(c.n, c.fine, c.lastGap, c.lastFine)
		crossings, e := curve.Crossings(a, b)
		if e != c.e || e == api.OK && len(crossings) != c.crossings || e != api.OK && len(crossings) > 0 {
			t.Errorf("%v: %v, error %d", c, crossings, e)
		}
		for _, call := range []curve2{curve.Upper, curve.Lower} {
			if l, e := call(a, b); e != c.e || (len(l) > 0) != (e == api.OK) {
				t.Errorf("%v: %v, error %d", c, l, e)
			}
		}
	}
}

// gridOracle returns the grid and the crossings among its numbers.
func gridOracle(a, b []dot) (grid, crossings []*big.Rat, e api.Errno) {
	numbers, o := breaks(a, b), new(tally)
	if len(numbers) > api.MaxPoints {
		return nil, nil, api.ErrSize
	}
	var d []*big.Rat
	for _, x := range numbers {
		d = append(d, o.sub(o.at(b, x), o.at(a, x)))
	}
	for i, x := range numbers {
		grid = append(grid, x)
		last := i == len(numbers)-1
		if i > 0 && !last && d[i].Sign() == 0 && d[i-1].Sign()*d[i+1].Sign() < 0 {
			crossings = append(crossings, x)
		}
		if !last && d[i].Sign()*d[i+1].Sign() < 0 {
			u := o.add(x, o.mul(o.div(d[i], o.sub(d[i], d[i+1])), o.sub(numbers[i+1], x)))
			grid, crossings = append(grid, u), append(crossings, u)
		}
	}
	if o.over {
		return nil, nil, api.ErrRange
	}
	if len(grid) > api.MaxPoints {
		return nil, nil, api.ErrSize
	}
	return grid, crossings, api.OK
}

// envelopeOracle picks the value with that sign of its difference from the other.
func envelopeOracle(a, b []dot, sign int) ([]api.Point, api.Errno) {
	grid, _, e := gridOracle(a, b)
	if e != api.OK {
		return nil, e
	}
	o := new(tally)
	var envelope []dot
	for _, u := range grid {
		y, other := o.at(a, u), o.at(b, u)
		if other.Cmp(y) == sign {
			y = other
		}
		envelope = append(envelope, dot{u, y})
	}
	return o.points(o.norm(envelope))
}

func TestEnvelopesOfRandomCurves(t *testing.T) {
	random, seenUpper, seenLower, seenCrossings, onlyCrossings := rand.New(rand.NewSource(25)), seen{}, seen{}, seen{}, 0
	for range 3000 {
		a, b := randomPair(random)
		upper, upperE := envelopeOracle(dots(a), dots(b), 1)
		got, e := curve.Upper(a, b)
		wantList(t, fmt.Sprint("Upper ", a, b), got, e, upper, upperE)
		seenUpper[upperE]++
		lower, lowerE := envelopeOracle(dots(a), dots(b), -1)
		got, e = curve.Lower(a, b)
		wantList(t, fmt.Sprint("Lower ", a, b), got, e, lower, lowerE)
		seenLower[lowerE]++
		_, numbers, gridE := gridOracle(dots(a), dots(b))
		var want []api.Frac
		for _, u := range numbers {
			want = append(want, toFrac(u))
		}
		crossings, e := curve.Crossings(a, b)
		wantList(t, fmt.Sprint("Crossings ", a, b), crossings, e, want, gridE)
		seenCrossings[gridE]++
		if gridE == api.OK && upperE != api.OK {
			onlyCrossings++
		}
	}
	seenUpper.all(t, api.OK, api.ErrSize, api.ErrRange)
	seenLower.all(t, api.OK, api.ErrSize, api.ErrRange)
	seenCrossings.all(t, api.OK, api.ErrSize, api.ErrRange)
	if onlyCrossings < 5 {
		t.Error("the grid was without an error, but not the envelope, in", onlyCrossings)
	}
}

func TestEnvelopesAreExact(t *testing.T) {
	random := rand.New(rand.NewSource(26))
	for range 400 {
		a, b := randomPair(random)
		upper, upperE := curve.Upper(a, b)
		lower, lowerE := curve.Lower(a, b)
		grid, _, _ := gridOracle(dots(a), dots(b))
		if upperE != api.OK || lowerE != api.OK {
			continue
		}
		if u, l, x := end(dots(upper)).x, end(dots(lower)).x, grid[len(grid)-1]; u.Cmp(x) != 0 || l.Cmp(x) != 0 {
			t.Errorf("Upper, Lower %v %v: %v and %v have other ends", a, b, upper, lower)
		}
		for _, x := range between(grid) {
			values := []*big.Rat{exact(dots(a), x), exact(dots(b), x)}
			if slices.MaxFunc(values, (*big.Rat).Cmp).Cmp(exact(dots(upper), x)) != 0 {
				t.Errorf("Upper %v %v: %v differs at %v", a, b, upper, x)
			}
			if slices.MinFunc(values, (*big.Rat).Cmp).Cmp(exact(dots(lower), x)) != 0 {
				t.Errorf("Lower %v %v: %v differs at %v", a, b, lower, x)
			}
		}
	}
}

// Crossings are where the sign is another one just before than just after.
func TestCrossingsAreChangesOfSides(t *testing.T) {
	random := rand.New(rand.NewSource(27))
	for range 400 {
		a, b := randomPair(random)
		got, e := curve.Crossings(a, b)
		grid, _, _ := gridOracle(dots(a), dots(b))
		if e != api.OK {
			continue
		}
		side := func(x *big.Rat) int { return exact(dots(b), x).Cmp(exact(dots(a), x)) }
		var want []api.Frac
		dense := between(grid)
		for i := 3; i < len(dense)-1; i += 3 {
			if side(dense[i-1])*side(dense[i+1]) < 0 {
				want = append(want, toFrac(dense[i]))
			}
		}
		wantList(t, fmt.Sprint("Crossings ", a, b), got, e, want, api.OK)
	}
}

// P2.14

func TestEnvelopesHoldBoth(t *testing.T) {
	random, checked := rand.New(rand.NewSource(28)), 0
	for range 3000 {
		a, b := randomPair(random)
		upper, upperE := curve.Upper(a, b)
		other, e := curve.Upper(b, a)
		wantList(t, fmt.Sprint("Upper ", b, a), other, e, upper, upperE)
		lower, lowerE := curve.Lower(a, b)
		other, e = curve.Lower(b, a)
		wantList(t, fmt.Sprint("Lower ", b, a), other, e, lower, lowerE)
		if upperE != api.OK || lowerE != api.OK {
			continue
		}
		for _, c := range [][]api.Point{a, b} {
			if under, e := curve.Under(lower, c); e == api.OK && !under {
				t.Errorf("Lower %v %v: %v is not under %v", a, b, lower, c)
			}
			short, e := curve.Cut(c, upper[len(upper)-1].X)
			if e != api.OK {
				t.Errorf("Cut %v: error %d", c, e)
			}
			if under, e := curve.Under(short, upper); e == api.OK && !under {
				t.Errorf("Upper %v %v: %v is not above %v", a, b, upper, short)
			} else if e == api.OK {
				checked++
			}
		}
	}
	if checked < 1000 {
		t.Error("checked only", checked)
	}
}

// P2.8

func TestUnderExamples(t *testing.T) {
	c := whole(2, 1, 4, 4)
	high := append(whole(2, 1), pt(fr(5, 2), fr(most, 1))) // the last slope is not representable
	for _, c := range []struct {
		a, b []api.Point
		want bool
		e    api.Errno
	}{
		{c, c, true, api.OK},
		{whole(4, 2), c, true, api.OK},
		{c, whole(4, 2), false, api.OK},
		{whole(4, 3), c, false, api.OK}, // they cross
		{c, whole(4, 3), false, api.OK},
		{c, whole(2, 1), true, api.OK}, // on the common domain
		{whole(2, 1), c, true, api.OK},
		{whole(3, 2), c, false, api.OK},
		{whole(5, 1), whole(2, 1, 4, 4), true, api.OK},
		{whole(2, 4), whole(1, 2, 2, 4, 3, 5), true, api.OK},
		{whole(1, 1, 2, 3), whole(1, 1, 2, 2), false, api.OK}, // at the end only
		{whole(1, 2, 2, 3), whole(1, 1, 2, 3), false, api.OK}, // within only
		{whole(2, 2), whole(1, 1, 2, 2), true, api.OK},
		{whole(1, 5, 2, 6), high, false, api.OK},
		{through(pt(fr(9, 4), fr(1, 9))), high, false, api.ErrRange},
		{through(pt(fr(1, 1), fr(5, 1)), pt(fr(9, 4), fr(6, 1))), high, false, api.ErrRange}, // though a is above b before
		{high, through(pt(fr(1, 1), fr(5, 1)), pt(fr(9, 4), fr(6, 1))), false, api.ErrRange},
		{steep(), steep(), true, api.OK}, // no slope is needed
	} {
		got, e := curve.Under(c.a, c.b)
		wantBool(t, fmt.Sprint("Under ", c.a, c.b), got, e, c.want, c.e)
	}
}

func underOracle(a, b []dot) (bool, api.Errno) {
	numbers, o, under := breaks(a, b), new(tally), true
	if len(numbers) > api.MaxPoints {
		return false, api.ErrSize
	}
	for _, x := range numbers {
		left, right := o.at(a, x), o.at(b, x)
		under = under && left.Cmp(right) <= 0
	}
	if o.over {
		return false, api.ErrRange
	}
	return under, api.OK
}

func TestUnderOfRandomCurves(t *testing.T) {
	random, seen, yes := rand.New(rand.NewSource(29)), seen{}, 0
	for range 3000 {
		a, b := randomPair(random)
		want, wantE := underOracle(dots(a), dots(b))
		got, e := curve.Under(a, b)
		wantBool(t, fmt.Sprint("Under ", a, b), got, e, want, wantE)
		seen[wantE]++
		if want {
			yes++
		}
	}
	seen.all(t, api.OK, api.ErrSize, api.ErrRange)
	if yes < 100 || seen[api.OK]-yes < 100 {
		t.Error("too few cases of one kind:", yes, seen)
	}
}

func TestSameExamples(t *testing.T) {
	for _, c := range []struct {
		a, b []api.Point
		want bool
		e    api.Errno
	}{
		{whole(2, 1, 4, 4), whole(2, 1, 4, 4), true, api.OK},
		{whole(2, 1, 4, 4), whole(2, 1, 4, 5), false, api.OK},
		{whole(2, 1, 4, 4), whole(2, 1, 3, 4), false, api.OK},
		{whole(2, 1, 4, 4), whole(2, 1), false, api.OK}, // another domain
		{whole(1, 1, 2, 2), whole(1, 1), false, api.OK}, // likewise
		{whole(1, 1, 2, 2), whole(2, 2), true, api.OK},
		{whole(2, 2), whole(1, 1, 2, 2), true, api.OK},
		{whole(1, 1, 3, 3), whole(2, 2, 3, 3), true, api.OK},
		{whole(1, 1, 2, 2, 3, 4), whole(2, 2, 3, 4), true, api.OK},
		{whole(1, 2, 2, 3), whole(1, 1, 2, 3), false, api.OK},
		{line(47, 1, 2), line(46, 1, 2), false, api.OK},
		{line(46, 47, 94), line(47, 46, 92), true, api.OK},
		{steep(), steep(), false, api.ErrRange},
		{steep(), whole(1, 1), false, api.ErrRange},
		{whole(1, 1), steep(), false, api.ErrRange},
	} {
		got, e := curve.Same(c.a, c.b)
		wantBool(t, fmt.Sprint("Same ", c.a, c.b), got, e, c.want, c.e)
	}
}

func TestSameOfRandomCurves(t *testing.T) {
	random, seen, yes := rand.New(rand.NewSource(30)), seen{}, 0
	for range 3000 {
		a, _ := randomPair(random)
		b := variant(random, a)
		o := new(tally)
		normA, _ := o.points(o.norm(dots(a)))
		normB, wantE := o.points(o.norm(dots(b)))
		want := wantE == api.OK && slices.Equal(normA, normB)
		got, e := curve.Same(a, b)
		wantBool(t, fmt.Sprint("Same ", a, b), got, e, want, wantE)
		seen[wantE]++
		if want {
			yes++
		}
	}
	seen.all(t, api.OK, api.ErrRange)
	if yes < 100 || seen[api.OK]-yes < 100 {
		t.Error("too few cases of one kind:", yes, seen)
	}
}

// variant returns c with a point more, which lies on it or not.
func variant(random *rand.Rand, c []api.Point) []api.Point {
	if len(c) == api.MaxPoints {
		return c
	}
	i := 1 + random.Intn(len(c)-1)
	middle := new(big.Rat).Mul(new(big.Rat).Add(rat(c[i-1].X), rat(c[i].X)), big.NewRat(1, 2))
	y := exact(dots(c), middle)
	if random.Intn(3) == 0 {
		y = new(big.Rat).Mul(new(big.Rat).Add(y, rat(c[i].Y)), big.NewRat(1, 2))
	}
	if !representable(middle) || !representable(y) {
		return c
	}
	return slices.Insert(slices.Clone(c), i, pt(toFrac(middle), toFrac(y)))
}
