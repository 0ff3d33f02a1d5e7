package curve_test

import (
	"fmt"
	"math/big"
	"math/rand"
	"slices"
	"testing"

	"trank/api"
	"trank/curve"
	"trank/frac"
)

// P2.1

func TestValid(t *testing.T) {
	for _, c := range [][]api.Point{
		whole(1, 1),
		whole(4, 2),
		whole(2, 1, 4, 4),
		whole(1, 1, 2, 2, 3, 3), // not normal
		whole(most, most),
		line(47, 1, 1),
		steep(),
		through(pt(fr(1, most), fr(1, most))),
		through(pt(fr(1, most), fr(1, most)), pt(fr(1, most-1), fr(1, most-1))),
		through(pt(fr(most-2, most-1), fr(1, 3)), pt(fr(most-1, most), fr(1, 2))),
	} {
		if !curve.Valid(c) {
			t.Error(c, "is valid")
		}
	}
	for what, c := range invalid() {
		if curve.Valid(c) {
			t.Error(what, "is not valid")
		}
	}
}

func TestRandomCurvesAreValid(t *testing.T) {
	random := rand.New(rand.NewSource(1))
	for range 500 {
		if c := randomCurve(random, api.MaxPoints); !curve.Valid(c) {
			t.Error(c, "is valid")
		}
	}
}

func TestSlopesExamples(t *testing.T) {
	for _, c := range []struct {
		c    []api.Point
		want []api.Frac
		e    api.Errno
	}{
		{whole(2, 1, 4, 4), []api.Frac{fr(1, 2), fr(3, 2)}, api.OK},
		{whole(4, 2), []api.Frac{fr(1, 2)}, api.OK},
		{whole(1, 1, 2, 2, 3, 5), fracs(1, 1, 3), api.OK},
		{line(47, 2, 6), slices.Repeat(fracs(3), 47), api.OK},
		{through(pt(fr(1, 10), fr(most/10, 1))), fracs(most), api.OK},
		{steep(), nil, api.ErrRange},
		{through(pt(fr(most, 1), fr(1, 2))), nil, api.ErrRange},
		{through(pt(fr(1, most), fr(1, 1)), pt(fr(1, most-1), fr(2, 1))), nil, api.ErrRange}, // in a Sub
		{append(whole(1, 1, 2, 2), pt(fr(21, 10), fr(most, 1))), nil, api.ErrRange},
	} {
		got, e := curve.Slopes(c.c)
		wantList(t, fmt.Sprint("Slopes ", c.c), got, e, c.want, c.e)
	}
}

func TestSlopesOfRandomCurves(t *testing.T) {
	random, seen := rand.New(rand.NewSource(2)), seen{}
	for range 2000 {
		c, o := randomCurve(random, 12), new(tally)
		var want []api.Frac
		for i, q := range dots(c)[1:] {
			if slope := o.slope(dots(c)[i], q); !o.over {
				want = append(want, toFrac(slope))
			}
		}
		wantE := api.OK
		if o.over {
			want, wantE = nil, api.ErrRange
		}
		got, e := curve.Slopes(c)
		wantList(t, fmt.Sprint("Slopes ", c), got, e, want, wantE)
		seen[wantE]++
	}
	seen.all(t, api.OK, api.ErrRange)
}

func TestNormExamples(t *testing.T) {
	for _, c := range []struct {
		c, want []api.Point
		e       api.Errno
	}{
		{whole(2, 1, 4, 4), whole(2, 1, 4, 4), api.OK},
		{whole(4, 2), whole(4, 2), api.OK},
		{whole(1, 1, 2, 2), whole(2, 2), api.OK},
		{whole(1, 1, 2, 2, 3, 3), whole(3, 3), api.OK},
		{line(47, 3, 2), whole(141, 94), api.OK},
		{whole(1, 1, 2, 2, 3, 4), whole(2, 2, 3, 4), api.OK},
		{whole(1, 2, 2, 3, 3, 4), whole(1, 2, 3, 4), api.OK},
		{whole(1, 2, 2, 3, 3, 5), whole(1, 2, 2, 3, 3, 5), api.OK}, // the same slope, but not of neighbours
		{whole(1, 1, 2, 2, 3, 4, 5, 8, 6, 9, 7, 10), whole(2, 2, 5, 8, 7, 10), api.OK},
		{steep(), nil, api.ErrRange},
	} {
		got, e := curve.Norm(c.c)
		wantList(t, fmt.Sprint("Norm ", c.c), got, e, c.want, c.e)
	}
}

func TestNormOfRandomCurves(t *testing.T) {
	random, seen := rand.New(rand.NewSource(3)), seen{}
	for range 2000 {
		c, o := randomCurve(random, 12), new(tally)
		want, wantE := o.points(o.norm(dots(c)))
		got, e := curve.Norm(c)
		wantList(t, fmt.Sprint("Norm ", c), got, e, want, wantE)
		seen[wantE]++
		if len(want) < len(c) {
			seen[api.OK]++
		}
	}
	seen.all(t, api.OK, api.ErrRange)
}

// P2.2

func TestAtExamples(t *testing.T) {
	c := whole(2, 1, 4, 4)
	half := append(whole(1, 1, 2, 2), pt(fr(21, 10), fr(most, 1))) // the last slope is not representable
	for _, c := range []struct {
		c       []api.Point
		x, want api.Frac
		e       api.Errno
	}{
		{c, fr(0, 1), fr(0, 1), api.OK},
		{c, fr(1, 1), fr(1, 2), api.OK},
		{c, fr(2, 1), fr(1, 1), api.OK},
		{c, fr(3, 1), fr(5, 2), api.OK},
		{c, fr(4, 1), fr(4, 1), api.OK},
		{c, fr(5, 1), fr(0, 0), api.ErrRange},
		{c, fr(41, 10), fr(0, 0), api.ErrRange},
		{c, fr(400000001, 100000000), fr(0, 0), api.ErrRange},
		{c, fr(-1, 1), fr(0, 0), api.ErrRange},
		{c, fr(-1, most), fr(0, 0), api.ErrRange},
		{c, fr(most, 1), fr(0, 0), api.ErrRange},
		{half, fr(3, 2), fr(3, 2), api.OK},
		{half, fr(2, 1), fr(2, 1), api.OK},
		{half, fr(21, 10), fr(most, 1), api.OK},
		{half, fr(41, 20), fr(0, 0), api.ErrRange},
		{steep(), fr(0, 1), fr(0, 1), api.OK},
		{steep(), fr(1, 10), fr(most, 1), api.OK},
		{steep(), fr(1, 20), fr(0, 0), api.ErrRange}, // of the slope: the value itself is representable
		{steep(), fr(1, 5), fr(0, 0), api.ErrRange},
		{whole(most, 1), fr(most-1, 1), fr(most-1, most), api.OK},
		{whole(most, 1), fr(1, 2), fr(0, 0), api.ErrRange}, // in Mul
	} {
		got, e := curve.At(c.c, c.x)
		wantFrac(t, fmt.Sprint("At ", c.c, c.x), got, e, c.want, c.e)
	}
}

func atOracle(c []dot, x *big.Rat) (api.Frac, api.Errno) {
	o := new(tally)
	if x.Sign() < 0 || x.Cmp(end(c).x) > 0 {
		return api.Frac{}, api.ErrRange
	}
	return o.number(o.at(c, x))
}

func TestAtAndSolveOfRandomCurves(t *testing.T) {
	random, seenAt, seenSolve := rand.New(rand.NewSource(4)), seen{}, seen{}
	for range 20000 {
		c := randomCurve(random, 8)
		x := randomNumber(random, c)
		want, wantE := atOracle(dots(c), rat(x))
		got, e := curve.At(c, x)
		wantFrac(t, fmt.Sprint("At ", c, x), got, e, want, wantE)
		seenAt[wantE]++
		want, wantE = atOracle(turned(dots(c)), rat(x))
		got, e = curve.Solve(c, x)
		wantFrac(t, fmt.Sprint("Solve ", c, x), got, e, want, wantE)
		seenSolve[wantE]++
	}
	seenAt.all(t, api.OK, api.ErrRange)
	seenSolve.all(t, api.OK, api.ErrRange)
}

func TestAtIsExact(t *testing.T) {
	random := rand.New(rand.NewSource(5))
	for range 5000 {
		c := randomCurve(random, 8)
		x := randomNumber(random, c)
		if y, e := curve.At(c, x); e == api.OK && rat(y).Cmp(exact(dots(c), rat(x))) != 0 {
			t.Errorf("At %v %v: %v", c, x, y)
		}
	}
}

func TestSolveExamples(t *testing.T) {
	c := whole(2, 1, 4, 4)
	for _, c := range []struct {
		c       []api.Point
		y, want api.Frac
		e       api.Errno
	}{
		{c, fr(0, 1), fr(0, 1), api.OK},
		{c, fr(1, 2), fr(1, 1), api.OK},
		{c, fr(1, 1), fr(2, 1), api.OK},
		{c, fr(5, 2), fr(3, 1), api.OK},
		{c, fr(4, 1), fr(4, 1), api.OK},
		{whole(4, 2), fr(2, 1), fr(4, 1), api.OK},
		{whole(4, 2), fr(3, 1), fr(0, 0), api.ErrRange}, // not in the range, though in the domain
		{whole(2, 4), fr(3, 1), fr(3, 2), api.OK},       // not in the domain, though in the range
		{c, fr(-1, 2), fr(0, 0), api.ErrRange},
		{steep(), fr(most, 1), fr(1, 10), api.OK},
		{steep(), fr(most/2, 1), fr(0, 0), api.ErrRange},
	} {
		got, e := curve.Solve(c.c, c.y)
		wantFrac(t, fmt.Sprint("Solve ", c.c, c.y), got, e, c.want, c.e)
	}
}

// P2.3, P2.12

func TestInverse(t *testing.T) {
	random := rand.New(rand.NewSource(6))
	l := [][]api.Point{whole(2, 1, 4, 4), whole(1, 1, 2, 2), steep(), line(47, 1, 2)}
	for range 500 {
		l = append(l, randomCurve(random, api.MaxPoints))
	}
	for _, c := range l {
		var want []api.Point
		for _, p := range c {
			want = append(want, pt(p.Y, p.X))
		}
		got, e := curve.Inverse(c)
		wantList(t, fmt.Sprint("Inverse ", c), got, e, want, api.OK)
		again, e := curve.Inverse(got)
		wantList(t, fmt.Sprint("Inverse of Inverse ", c), again, e, c, api.OK)
	}
}

func TestSolveOfAtIsTheNumber(t *testing.T) {
	random, solved := rand.New(rand.NewSource(7)), 0
	for range 5000 {
		c := randomCurve(random, 12)
		x := randomNumber(random, c)
		y, e := curve.At(c, x)
		if e != api.OK {
			continue
		}
		back, e := curve.Solve(c, y)
		if e == api.OK {
			solved++
			wantFrac(t, fmt.Sprint("Solve of At ", c, x), back, e, x, api.OK)
		}
	}
	if solved < 1000 {
		t.Error("solved only", solved)
	}
}

// P2.4

func TestScaleExamples(t *testing.T) {
	c := whole(2, 1, 4, 4)
	for _, c := range []struct {
		c      []api.Point
		kx, ky api.Frac
		want   []api.Point
		e      api.Errno
	}{
		{c, fr(1, 1), fr(1, 1), c, api.OK},
		{c, fr(3, 1), fr(1, 1), whole(6, 1, 12, 4), api.OK},
		{c, fr(1, 1), fr(3, 1), whole(2, 3, 4, 12), api.OK},
		{c, fr(1, 2), fr(3, 4), through(pt(fr(1, 1), fr(3, 4)), pt(fr(2, 1), fr(3, 1))), api.OK},
		{whole(1, 1, 2, 2), fr(2, 1), fr(2, 1), whole(2, 2, 4, 4), api.OK}, // not made normal
		{steep(), fr(1, 1), fr(1, 1), steep(), api.OK},
		{c, fr(most/4, 1), fr(most/4, 1), whole(most/2, most/4, most, most), api.OK},
		{c, fr(most/4+1, 1), fr(1, 1), nil, api.ErrRange},
		{c, fr(1, 1), fr(most/4+1, 1), nil, api.ErrRange},
		{whole(1, 1, 2, 2, 3, 3), fr(1, most), fr(1, most), through(pt(fr(1, most), fr(1, most)), pt(fr(1, most/2), fr(1, most/2)), pt(fr(3, most), fr(3, most))), api.OK},
		{c, fr(0, 1), fr(1, 1), nil, api.ErrArg},
		{c, fr(1, 1), fr(0, 1), nil, api.ErrArg},
		{c, fr(-1, 1), fr(1, 1), nil, api.ErrArg},
		{c, fr(1, 1), fr(-1, 1), nil, api.ErrArg},
		{c, fr(-1, 1), fr(-1, 1), nil, api.ErrArg},
		{c, fr(most, 1), fr(0, 1), nil, api.ErrArg},     // before ErrRange
		{c, fr(-1, most), fr(most, 1), nil, api.ErrArg}, // likewise
	} {
		got, e := curve.Scale(c.c, c.kx, c.ky)
		wantList(t, fmt.Sprint("Scale ", c.c, c.kx, c.ky), got, e, c.want, c.e)
	}
}

func TestScaleOfRandomCurves(t *testing.T) {
	random, seen := rand.New(rand.NewSource(8)), seen{}
	for range 3000 {
		c, o := randomCurve(random, 8), new(tally)
		kx, _ := frac.New(1+random.Intn(most)>>random.Intn(30), 1+random.Intn(most)>>random.Intn(30))
		ky, _ := frac.New(1+random.Intn(most)>>random.Intn(30), 1+random.Intn(most)>>random.Intn(30))
		var scaled []dot
		for _, p := range dots(c) {
			scaled = append(scaled, dot{o.mul(p.x, rat(kx)), o.mul(p.y, rat(ky))})
		}
		want, wantE := o.points(scaled)
		got, e := curve.Scale(c, kx, ky)
		wantList(t, fmt.Sprint("Scale ", c, kx, ky), got, e, want, wantE)
		seen[wantE]++
	}
	seen.all(t, api.OK, api.ErrRange)
}

func TestCutExamples(t *testing.T) {
	c := whole(2, 1, 4, 4)
	for _, c := range []struct {
		c    []api.Point
		x    api.Frac
		want []api.Point
		e    api.Errno
	}{
		{c, fr(1, 1), through(pt(fr(1, 1), fr(1, 2))), api.OK},
		{c, fr(2, 1), whole(2, 1), api.OK},
		{c, fr(3, 1), through(c[1], pt(fr(3, 1), fr(5, 2))), api.OK},
		{c, fr(4, 1), c, api.OK},
		{c, fr(1, most), nil, api.ErrRange}, // its value is not representable
		{whole(1, 1, 2, 2, 3, 3), fr(5, 2), through(pt(fr(1, 1), fr(1, 1)), pt(fr(2, 1), fr(2, 1)), pt(fr(5, 2), fr(5, 2))), api.OK}, // not made normal
		{line(47, 1, 1), fr(93, 2), append(line(46, 1, 1), pt(fr(93, 2), fr(93, 2))), api.OK},
		{steep(), fr(1, 10), steep(), api.OK},
		{steep(), fr(1, 20), nil, api.ErrRange},
		{c, fr(5, 1), nil, api.ErrRange},
		{c, fr(400000001, 100000000), nil, api.ErrRange},
		{c, fr(0, 1), nil, api.ErrArg},
		{c, fr(-1, 1), nil, api.ErrArg},
		{c, fr(-most, 1), nil, api.ErrArg},
	} {
		got, e := curve.Cut(c.c, c.x)
		wantList(t, fmt.Sprint("Cut ", c.c, c.x), got, e, c.want, c.e)
	}
}

func TestCutOfRandomCurves(t *testing.T) {
	random, seen := rand.New(rand.NewSource(9)), seen{}
	for range 5000 {
		c := randomCurve(random, 12)
		x := randomNumber(random, c)
		var want []api.Point
		y, wantE := atOracle(dots(c), rat(x))
		if x.Num <= 0 {
			wantE = api.ErrArg
		}
		if wantE == api.OK {
			for _, p := range c {
				if rat(p.X).Cmp(rat(x)) < 0 {
					want = append(want, p)
				}
			}
			want = append(want, pt(x, y))
		}
		got, e := curve.Cut(c, x)
		wantList(t, fmt.Sprint("Cut ", c, x), got, e, want, wantE)
		seen[wantE]++
	}
	seen.all(t, api.OK, api.ErrArg, api.ErrRange)
}

func TestJoinExamples(t *testing.T) {
	for _, c := range []struct {
		a, b, want []api.Point
		e          api.Errno
	}{
		{whole(2, 1, 4, 4), whole(1, 5), whole(2, 1, 4, 4, 5, 9), api.OK},
		{whole(1, 5), whole(2, 1, 4, 4), whole(1, 5, 3, 6, 5, 9), api.OK},
		{whole(1, 1), whole(1, 1), whole(1, 1, 2, 2), api.OK}, // not made normal
		{steep(), whole(1, 1), nil, api.ErrRange},
		{whole(1, 1), steep(), nil, api.ErrRange},
		{whole(most-1, 1), whole(1, 1), whole(most-1, 1, most, 2), api.OK},
		{whole(most, 1), whole(1, 1), nil, api.ErrRange},
		{whole(1, most), whole(1, 1), nil, api.ErrRange},
		{line(24, 1, 2), line(23, 1, 2), line(47, 1, 2), api.OK}, // 25 and 24 points: 48
		{line(1, 1, 2), line(46, 1, 2), line(47, 1, 2), api.OK},
		{line(24, 1, 2), line(24, 1, 2), nil, api.ErrSize},
		{line(47, 1, 2), line(1, 1, 2), nil, api.ErrSize},
		{line(1, 1, 2), line(47, 1, 2), nil, api.ErrSize},
		{line(47, 1, 2), line(47, 1, 2), nil, api.ErrSize},
		{line(47, 1, 1), whole(most, most), nil, api.ErrSize}, // before ErrRange
		{line(47, 1, 1), whole(1, 0), nil, api.ErrArg},        // before ErrSize
		{whole(0, 1), line(47, 1, 1), nil, api.ErrArg},        // likewise
		{line(48, 1, 1), whole(1, 1), nil, api.ErrArg},        // likewise
	} {
		got, e := curve.Join(c.a, c.b)
		wantList(t, fmt.Sprint("Join ", c.a, c.b), got, e, c.want, c.e)
	}
}

func TestJoinOfRandomCurves(t *testing.T) {
	random, seen := rand.New(rand.NewSource(10)), seen{}
	for range 3000 {
		a, b, o := randomCurve(random, 30), randomCurve(random, 30), new(tally)
		joined, last := dots(a), end(dots(a))
		for _, p := range dots(b)[1:] {
			joined = append(joined, dot{o.add(last.x, p.x), o.add(last.y, p.y)})
		}
		want, wantE := o.points(joined)
		if len(a)+len(b) > 49 {
			want, wantE = nil, api.ErrSize
		}
		got, e := curve.Join(a, b)
		wantList(t, fmt.Sprint("Join ", a, b), got, e, want, wantE)
		seen[wantE]++
	}
	seen.all(t, api.OK, api.ErrSize, api.ErrRange)
}

// P2.10

func TestWorkExamples(t *testing.T) {
	c := whole(2, 1, 4, 4)
	for _, c := range []struct {
		c       []api.Point
		x, want api.Frac
		e       api.Errno
	}{
		{c, fr(0, 1), fr(0, 1), api.OK},
		{c, fr(1, 1), fr(1, 4), api.OK},
		{c, fr(2, 1), fr(1, 1), api.OK},
		{c, fr(3, 1), fr(11, 4), api.OK},
		{c, fr(4, 1), fr(6, 1), api.OK},
		{c, fr(5, 1), fr(0, 0), api.ErrRange},
		{c, fr(400000001, 100000000), fr(0, 0), api.ErrRange},
		{c, fr(-1, 1), fr(0, 0), api.ErrRange},
		{steep(), fr(0, 1), fr(0, 1), api.OK},
		{steep(), fr(1, 10), fr(most/20, 1), api.OK}, // the whole segment needs no slope
		{steep(), fr(1, 20), fr(0, 0), api.ErrRange},
		{whole(2, most), fr(2, 1), fr(most, 1), api.OK},
		{whole(1, 600000000, 2, most), fr(1, 1), fr(300000000, 1), api.OK}, // twice the last Y is not representable, nor is it needed
		{whole(3, most-1), fr(3, 1), fr(0, 0), api.ErrRange},               // in Mul
		{whole(1, most/2, 2, most), fr(2, 1), fr(0, 0), api.ErrRange},      // in Add(q, s), though the area is representable
	} {
		got, e := curve.Work(c.c, c.x)
		wantFrac(t, fmt.Sprint("Work ", c.c, c.x), got, e, c.want, c.e)
	}
}

func TestWorkOfRandomCurves(t *testing.T) {
	random, seen := rand.New(rand.NewSource(11)), seen{}
	for range 10000 {
		c := randomCurve(random, 8)
		x := randomNumber(random, c)
		want, wantE := workOracle(dots(c), rat(x))
		got, e := curve.Work(c, x)
		wantFrac(t, fmt.Sprint("Work ", c, x), got, e, want, wantE)
		seen[wantE]++
	}
	seen.all(t, api.OK, api.ErrRange)
}

func workOracle(c []dot, x *big.Rat) (api.Frac, api.Errno) {
	if x.Sign() < 0 || x.Cmp(end(c).x) > 0 {
		return api.Frac{}, api.ErrRange
	}
	o, two, w := new(tally), big.NewRat(2, 1), new(big.Rat)
	for i, q := range c[1:] {
		p := c[i]
		if q.x.Cmp(x) <= 0 {
			w = o.add(w, o.mul(o.div(o.add(p.y, q.y), two), o.sub(q.x, p.x)))
		} else if p.x.Cmp(x) < 0 {
			w = o.add(w, o.mul(o.div(o.add(p.y, o.at(c, x)), two), o.sub(x, p.x)))
		}
	}
	return o.number(w)
}

// A finer sum of strips, by values at all points and at halves between them, is the same area.
func TestWorkIsTheArea(t *testing.T) {
	random, free := rand.New(rand.NewSource(12)), new(tally)
	for range 3000 {
		c := randomCurve(random, 8)
		x := randomNumber(random, c)
		got, e := curve.Work(c, x)
		if e != api.OK {
			continue
		}
		var numbers []*big.Rat
		for _, p := range dots(c) {
			if p.x.Cmp(rat(x)) < 0 {
				numbers = append(numbers, p.x)
			}
		}
		area := new(big.Rat)
		numbers = between(append(numbers, rat(x)))
		for i, z := range numbers[1:] {
			middle := free.div(free.add(numbers[i], z), big.NewRat(2, 1))
			area = free.add(area, free.mul(exact(dots(c), middle), free.sub(z, numbers[i])))
		}
		if rat(got).Cmp(area) != 0 {
			t.Errorf("Work %v %v: %v, want %v", c, x, got, area)
		}
	}
}
