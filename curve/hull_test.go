package curve_test

import (
	"fmt"
	"math/big"
	"math/rand"
	"slices"
	"testing"

	"trank/api"
	"trank/curve"
)

// P2.9

func TestHullExamples(t *testing.T) {
	arc := whole()
	for i := 1; i < api.MaxPoints; i++ {
		arc = append(arc, pt(fr(i, 1), fr(i*i, 1)))
	}
	for _, c := range []struct{ c, convex, concave []api.Point }{
		{whole(1, 2, 2, 3, 3, 6), whole(2, 3, 3, 6), whole(3, 6)},
		{whole(4, 2), whole(4, 2), whole(4, 2)},
		{whole(2, 1, 4, 4), whole(2, 1, 4, 4), whole(4, 4)},
		{whole(2, 3, 4, 4), whole(4, 4), whole(2, 3, 4, 4)},
		{whole(1, 1, 2, 2, 3, 3), whole(3, 3), whole(3, 3)},
		{line(47, 2, 3), whole(94, 141), whole(94, 141)},
		{whole(1, 1, 2, 2, 3, 4, 4, 6), whole(2, 2, 4, 6), whole(4, 6)},
		{whole(1, 2, 2, 4, 3, 5, 4, 6), whole(4, 6), whole(2, 4, 4, 6)},
		{whole(1, 3, 2, 4, 3, 5, 4, 8), whole(3, 5, 4, 8), whole(1, 3, 4, 8)},
		{whole(1, 1, 2, 4, 3, 5, 4, 8), whole(1, 1, 3, 5, 4, 8), whole(4, 8)},
		{whole(1, 1, 2, 4, 3, 7, 4, 8), whole(1, 1, 4, 8), whole(3, 7, 4, 8)},
		{whole(2, 1, 3, 4, 5, 5, 6, 8, 8, 9), whole(2, 1, 8, 9), whole(6, 8, 8, 9)}, // (5,5) and (3,4) lie on these lines
		{arc, arc, through(arc[47])},
	} {
		got, e := curve.Convex(c.c)
		wantList(t, fmt.Sprint("Convex ", c.c), got, e, c.convex, api.OK)
		got, e = curve.Concave(c.c)
		wantList(t, fmt.Sprint("Concave ", c.c), got, e, c.concave, api.OK)
	}
}

func TestHullErrors(t *testing.T) {
	for _, c := range [][]api.Point{
		steep(),
		append(whole(1, 1), pt(fr(11, 10), fr(most, 1))),
		append(whole(1, 1), pt(fr(40001, 40000), fr(40000, 1)), pt(fr(2, 1), fr(40001, 1))),
		through(pt(fr(1, 1), fr(1, 1)), pt(fr(40001, 40000), fr(30012, 30011))),               // between points that are no neighbours only
		through(pt(fr(1, most), fr(1, most)), pt(fr(1, most-1), fr(1, most-1))),               // in Sub only
		through(pt(fr(1, most), fr(1, most)), pt(fr(1, 2), fr(1, 2)), pt(fr(2, 3), fr(2, 3))), // in Sub of points that are no neighbours
		through(pt(fr(1, most), fr(1, most)), pt(fr(1, 2), fr(3, 4)), pt(fr(2, 3), fr(4, 5)), pt(fr(3, 1), fr(7, 1))),
	} {
		for _, call := range []curve1{curve.Convex, curve.Concave} {
			got, e := call(c)
			wantList(t, fmt.Sprint("hull of ", c), got, e, nil, api.ErrRange)
		}
	}
}

// hullOracle leaves out each point that lies on some chord, or on its side of that sign.
func hullOracle(c []dot, side int) ([]api.Point, api.Errno) {
	o := new(tally)
	corner := make([]bool, len(c))
	for k := range corner {
		corner[k] = true
	}
	for i, p := range c {
		var slopes []*big.Rat // to the points after p
		for _, q := range c[i+1:] {
			chord := o.slope(p, q)
			for k, slope := range slopes {
				if order := slope.Cmp(chord); order == side || order == 0 {
					corner[i+1+k] = false
				}
			}
			slopes = append(slopes, chord)
		}
	}
	var corners []dot
	for k, p := range c {
		if corner[k] {
			corners = append(corners, p)
		}
	}
	return o.points(corners)
}

// wavy has corners on both sides, and many points that lie on lines.
func wavy(random *rand.Rand, n int) []api.Point {
	c, dx, dy := whole(), 1, 1
	for range n {
		if random.Intn(2) == 0 {
			dx, dy = 1+random.Intn(3), 1+random.Intn(3)
		}
		end := c[len(c)-1]
		c = append(c, pt(fr(end.X.Num+dx, 1), fr(end.Y.Num+dy, 1)))
	}
	return c
}

func hullCurve(random *rand.Rand) []api.Point {
	switch random.Intn(10) {
	case 0:
		return wavy(random, 1+random.Intn(api.MaxPoints-1))
	case 1, 2, 3:
		return wavy(random, 1+random.Intn(9))
	}
	return randomCurve(random, 7)
}

func TestHullsOfRandomCurves(t *testing.T) {
	random, seen := rand.New(rand.NewSource(40)), seen{}
	for range 500 {
		c := hullCurve(random)
		want, wantE := hullOracle(dots(c), 1)
		got, e := curve.Convex(c)
		wantList(t, fmt.Sprint("Convex ", c), got, e, want, wantE)
		want, wantE = hullOracle(dots(c), -1)
		got, e = curve.Concave(c)
		wantList(t, fmt.Sprint("Concave ", c), got, e, want, wantE)
		seen[wantE]++
	}
	seen.all(t, api.OK, api.ErrRange)
}

// P2.15

func TestHullsHoldTheCurve(t *testing.T) {
	random := rand.New(rand.NewSource(41))
	for range 1000 {
		c := hullCurve(random)
		convex, e := curve.Convex(c)
		if e != api.OK {
			continue
		}
		concave, e := curve.Concave(c)
		if e != api.OK {
			t.Errorf("Concave %v: error %d, but none of Convex", c, e)
			continue
		}
		if under, e := curve.Under(convex, c); e == api.OK && !under {
			t.Errorf("Convex %v: %v is not under it", c, convex)
		}
		if under, e := curve.Under(c, concave); e == api.OK && !under {
			t.Errorf("Concave %v: %v is not above it", c, concave)
		}
		for _, p := range dots(c) {
			if exact(dots(convex), p.x).Cmp(p.y) > 0 || exact(dots(concave), p.x).Cmp(p.y) < 0 {
				t.Errorf("hulls of %v: %v and %v do not hold %v", c, convex, concave, p)
			}
		}
		wantTurns(t, c, convex, 1)
		wantTurns(t, c, concave, -1)
		again, e := curve.Convex(convex)
		wantList(t, fmt.Sprint("Convex of Convex ", c), again, e, convex, api.OK)
		again, e = curve.Concave(concave)
		wantList(t, fmt.Sprint("Concave of Concave ", c), again, e, concave, api.OK)
	}
}

func wantTurns(t *testing.T, c, hull []api.Point, side int) {
	t.Helper()
	slopes, e := curve.Slopes(hull)
	if e != api.OK {
		t.Errorf("Slopes of a hull of %v: error %d", c, e)
	}
	for i := 1; i < len(slopes); i++ {
		if rat(slopes[i]).Cmp(rat(slopes[i-1])) != side {
			t.Errorf("a hull of %v: %v has the slopes %v", c, hull, slopes)
		}
	}
	for _, p := range hull {
		if !slices.Contains(c, p) {
			t.Errorf("a hull of %v: %v is none of its points", c, p)
		}
	}
	if hull[0] != c[0] || hull[len(hull)-1] != c[len(c)-1] {
		t.Errorf("a hull of %v: %v lacks an end", c, hull)
	}
}

// P2.11

func TestIsotoneExamples(t *testing.T) {
	for _, c := range []struct {
		l    []int
		want []api.Frac
	}{
		{nil, nil},
		{[]int{}, nil},
		{[]int{0}, fracs(0)},
		{[]int{7}, fracs(7)},
		{[]int{1, 1}, fracs(1, 1)},
		{[]int{1, 2}, fracs(1, 2)},
		{[]int{2, 1}, []api.Frac{fr(3, 2), fr(3, 2)}},
		{[]int{3, 1, 2, 5, 4}, []api.Frac{fr(2, 1), fr(2, 1), fr(2, 1), fr(9, 2), fr(9, 2)}},
		{[]int{1, 3, 2, 2}, []api.Frac{fr(1, 1), fr(7, 3), fr(7, 3), fr(7, 3)}},
		{[]int{3, 2, 1}, fracs(2, 2, 2)},
		{[]int{1, 2, 0}, fracs(1, 1, 1)}, // the mean of the last two is that of the first: one run or two
		{[]int{1, 5, 4, 0, 9}, fracs(1, 3, 3, 3, 9)},
		{[]int{4, 5, 4, 0, 9}, []api.Frac{fr(13, 4), fr(13, 4), fr(13, 4), fr(13, 4), fr(9, 1)}},
		{[]int{4, 4, 1}, fracs(3, 3, 3)},
		{[]int{0, 10, 0, 10, 0}, []api.Frac{fr(0, 1), fr(5, 1), fr(5, 1), fr(5, 1), fr(5, 1)}},
		{[]int{1000000, 0}, fracs(500000, 500000)},
		{[]int{0, 1000000}, fracs(0, 1000000)},
		{slices.Repeat([]int{1000000}, 48), slices.Repeat(fracs(1000000), 48)},
		{append([]int{1000000}, make([]int, 47)...), slices.Repeat([]api.Frac{fr(62500, 3)}, 48)},
	} {
		got, e := curve.Isotone(c.l)
		wantList(t, fmt.Sprint("Isotone ", c.l), got, e, c.want, api.OK)
	}
}

func TestIsotoneErrors(t *testing.T) {
	for _, c := range []struct {
		l    []int
		want api.Errno
	}{
		{[]int{-1}, api.ErrArg},
		{[]int{1000001}, api.ErrArg},
		{[]int{1, 2, -1}, api.ErrArg},
		{[]int{-1, 2, 1}, api.ErrArg},
		{[]int{1, 1000001, 2}, api.ErrArg},
		{[]int{-1 << 63}, api.ErrArg},
		{[]int{1<<63 - 1, 1}, api.ErrArg},
		{append(make([]int, 47), -1), api.ErrArg},
		{make([]int, 49), api.ErrSize},
		{make([]int, 1000), api.ErrSize},
		{append(make([]int, 48), -1), api.ErrSize}, // before ErrArg of the same slice
	} {
		got, e := curve.Isotone(c.l)
		wantList(t, fmt.Sprint("Isotone ", c.l), got, e, nil, c.want)
	}
}

func mean(l []int) *big.Rat {
	sum := 0
	for _, n := range l {
		sum += n
	}
	return big.NewRat(int64(sum), int64(len(l)))
}

// isotoneOracle: f[i] is the greatest, for all j up to i, of the least, for all k from i on, of the means from j to k.
func isotoneOracle(l []int) []api.Frac {
	var f []api.Frac
	for i := range l {
		var greatest *big.Rat
		for j := range i + 1 {
			least := mean(l[j : i+1])
			for k := i + 1; k < len(l); k++ {
				least = lower(least, mean(l[j:k+1]))
			}
			if greatest == nil || least.Cmp(greatest) > 0 {
				greatest = least
			}
		}
		f = append(f, toFrac(greatest))
	}
	return f
}

func randomMeasures(random *rand.Rand, n int) []int {
	l := make([]int, random.Intn(n+1))
	limit := []int{2, 10, 1000001}[random.Intn(3)]
	for i := range l {
		l[i] = min(1000000, random.Intn(limit)+i*random.Intn(1+limit/20))
	}
	return l
}

func TestIsotoneOfRandomMeasures(t *testing.T) {
	random := rand.New(rand.NewSource(42))
	for i := range 1500 {
		l := randomMeasures(random, 9)
		if i%100 == 0 {
			l = randomMeasures(random, api.MaxPoints)
		}
		got, e := curve.Isotone(l)
		wantList(t, fmt.Sprint("Isotone ", l), got, e, isotoneOracle(l), api.OK)
	}
}

func squares(f []*big.Rat, l []int) *big.Rat {
	sum := new(big.Rat)
	for i, n := range l {
		d := new(big.Rat).Sub(f[i], big.NewRat(int64(n), 1))
		sum.Add(sum, d.Mul(d, d))
	}
	return sum
}

// The least sum of squares of all non-decreasing sequences of means of runs: each bit of ends says whether a run ends there.
func TestIsotoneIsTheLeast(t *testing.T) {
	random := rand.New(rand.NewSource(43))
	for range 300 {
		l := randomMeasures(random, 7)
		got, _ := curve.Isotone(l)
		var f []*big.Rat
		for _, n := range got {
			f = append(f, rat(n))
		}
		if len(l) == 0 {
			continue
		}
		least := squares(f, l)
		for ends := range 1 << (len(l) - 1) {
			if other := means(l, ends); slices.IsSortedFunc(other, (*big.Rat).Cmp) && squares(other, l).Cmp(least) < 0 {
				t.Errorf("Isotone %v: %v, but %v is nearer", l, got, other)
			}
		}
	}
}

func means(l []int, ends int) []*big.Rat {
	var f []*big.Rat
	for i := range l {
		if i == len(l)-1 || ends>>i&1 == 1 {
			run := l[len(f) : i+1]
			f = append(f, slices.Repeat([]*big.Rat{mean(run)}, len(run))...)
		}
	}
	return f
}

// P2.16

func TestIsotoneKeepsTheSum(t *testing.T) {
	random := rand.New(rand.NewSource(44))
	for range 1000 {
		l := randomMeasures(random, api.MaxPoints)
		got, _ := curve.Isotone(l)
		sum, want := new(big.Rat), 0
		for i, n := range l {
			sum.Add(sum, rat(got[i]))
			want += n
			if i > 0 && rat(got[i-1]).Cmp(rat(got[i])) > 0 {
				t.Errorf("Isotone %v: %v decreases", l, got)
			}
		}
		if sum.Cmp(big.NewRat(int64(want), 1)) != 0 {
			t.Errorf("Isotone %v: %v has another sum", l, got)
		}
		slices.Sort(l)
		got, e := curve.Isotone(l)
		wantList(t, fmt.Sprint("Isotone ", l), got, e, fracs(l...), api.OK)
	}
}
