package grade_test

import (
	"math/big"
	"math/rand"
	"testing"

	"trank/api"
	"trank/grade"
)

// P4.5: Sizes.
func TestSizesOfExamples(t *testing.T) {
	for _, c := range []struct {
		p      grade.Pattern
		lo, hi api.Frac
		e      api.Errno
	}{
		{example(), fr(0, 1), fr(15, 1), api.OK}, {pat(1), fr(0, 1), fr(40, 1), api.OK}, {pat(16), fr(0, 1), fr(40, 1), api.OK},
		{pat(1, rl(0, 0, -3, 1)), fr(0, 1), fr(3, 1), api.OK}, {pat(1, rl(0, 0, 3, -1)), fr(3, 1), fr(40, 1), api.OK},
		{pat(1, rl(0, 0, -3, 1), rl(0, 0, 4, -1)), api.Frac{}, api.Frac{}, api.ErrLoop}, {pat(1, rl(0, 0, -3, 1), rl(0, 0, 3, -1)), fr(3, 1), fr(3, 1), api.OK},
		{pat(1, rl(0, 0, 1, 0)), api.Frac{}, api.Frac{}, api.ErrLoop}, {pat(1, rl(0, 0, 0, 0)), fr(0, 1), fr(40, 1), api.OK},
		{pat(1, rl(0, 0, 0, 1)), fr(0, 1), fr(0, 1), api.OK}, {pat(1, rl(0, 0, 1, 1)), api.Frac{}, api.Frac{}, api.ErrLoop}, {pat(1, rl(0, 0, 0, 100)), fr(0, 1), fr(0, 1), api.OK},
		{pat(1, rl(0, 0, 40, -1)), fr(40, 1), fr(40, 1), api.OK}, {pat(1, rl(0, 0, 41, -1)), api.Frac{}, api.Frac{}, api.ErrLoop}, {pat(1, rl(0, 0, 1000, -25)), fr(40, 1), fr(40, 1), api.OK},
		{pat(1, rl(0, 0, 1000, -1)), api.Frac{}, api.Frac{}, api.ErrLoop}, {pat(1, rl(0, 0, 1000, 1)), api.Frac{}, api.Frac{}, api.ErrLoop},
		{pat(1, rl(0, 0, -40, 1)), fr(0, 1), fr(40, 1), api.OK}, {pat(1, rl(0, 0, -41, 1)), fr(0, 1), fr(40, 1), api.OK}, {pat(1, rl(0, 0, 0, -1)), fr(0, 1), fr(40, 1), api.OK}, {pat(1, rl(0, 0, -1, -1)), fr(0, 1), fr(40, 1), api.OK},
		{pat(1, rl(0, 0, 1, -3), rl(0, 0, -1, 3)), fr(1, 3), fr(1, 3), api.OK}, {pat(1, rl(0, 0, 1, -100), rl(0, 0, -1, 99)), fr(1, 100), fr(1, 99), api.OK}, {pat(1, rl(0, 0, 1, -99), rl(0, 0, -1, 100)), api.Frac{}, api.Frac{}, api.ErrLoop},
		{pat(2, rl(0, 1, 5, 0)), api.Frac{}, api.Frac{}, api.ErrLoop}, {pat(2, rl(0, 1, -5, 2)), fr(0, 1), fr(5, 2), api.OK}, {pat(3, rl(1, 2, 7, -3), rl(2, 1, 0, 0)), fr(7, 3), fr(40, 1), api.OK},
		{pat(3, rl(2, 2, 7, -3), rl(1, 1, -9, 2)), fr(7, 3), fr(9, 2), api.OK},
	} {
		lo, hi, e := grade.Sizes(c.p)
		wantFrac(t, "Sizes: lo", lo, e, c.lo, c.e)
		wantFrac(t, "Sizes: hi", hi, e, c.hi, c.e)
	}
}

// The Den of an end may be 1600.
func TestSizesOfRings(t *testing.T) {
	for c := 12999; c <= 13003; c++ {
		for d := -1600; d <= -1590; d++ {
			lo, hi, e := grade.Sizes(ring(c, d))
			wantFrac(t, "lo", lo, e, toFrac(big.NewRat(int64(-c), int64(d))), api.OK)
			wantFrac(t, "hi", hi, e, fr(40, 1), api.OK)
		}
	}
	for c := -10003; c <= -9999; c++ {
		for d := 1590; d <= 1600; d++ {
			lo, hi, e := grade.Sizes(ring(c, d))
			wantFrac(t, "lo", lo, e, fr(0, 1), api.OK)
			wantFrac(t, "hi", hi, e, toFrac(big.NewRat(int64(-c), int64(d))), api.OK)
		}
	}
}

// Two ends may be neighbours, so that no fraction with a Den of at most 1600
// lies between them; and the loops of a conflict too.
func TestSizesOfNeighbours(t *testing.T) {
	for c := 12900; c <= 13100; c++ {
		for den := 50; den <= 100; den++ {
			n := c * den / 1600
			p := ring(c, -1600)
			p.Rules = append(p.Rules, rl(7, 7, -n-1, den))
			lo, hi, e := grade.Sizes(p)
			wantFrac(t, "lo", lo, e, toFrac(big.NewRat(int64(c), 1600)), api.OK)
			wantFrac(t, "hi", hi, e, toFrac(big.NewRat(int64(n+1), int64(den))), api.OK)
			if n*1600 == c*den {
				continue
			}
			p.Rules[16].C = -n
			lo, hi, e = grade.Sizes(p)
			wantFrac(t, "lo", lo, e, api.Frac{}, api.ErrLoop)
			wantFrac(t, "hi", hi, e, api.Frac{}, api.ErrLoop)
		}
	}
}

// lineEnds are the ends that the loops' lines leave of the sizes; nil if nothing is left.
func lineEnds(lines [][2]int) (lo, hi *big.Rat) {
	lo, hi = ratOf(0), ratOf(40)
	for _, l := range lines {
		c, d := l[0], l[1]
		if d == 0 && c > 0 {
			return nil, nil
		}
		if d == 0 {
			continue
		}
		root := big.NewRat(int64(-c), int64(d))
		if d < 0 && root.Cmp(lo) > 0 {
			lo = root
		}
		if d > 0 && root.Cmp(hi) < 0 {
			hi = root
		}
	}
	if lo.Cmp(hi) > 0 {
		return nil, nil
	}
	return lo, hi
}

func loopLines(p grade.Pattern) [][2]int {
	all := map[[2]int]bool{}
	eachLoop(p, func(loop []int) {
		c, d := line(p, loop)
		all[[2]int{c, d}] = true
	})
	var l [][2]int
	for x := range all {
		l = append(l, x)
	}
	return l
}

// P4.5: Sizes, from all loops.
func TestSizes(t *testing.T) {
	cases := seen{}
	for _, p := range samples(1200) {
		lo, hi, e := grade.Sizes(p)
		wantLo, wantHi := lineEnds(loopLines(p))
		if wantLo == nil {
			wantFrac(t, "lo", lo, e, api.Frac{}, api.ErrLoop)
			wantFrac(t, "hi", hi, e, api.Frac{}, api.ErrLoop)
			cases["none"]++
			continue
		}
		wantFrac(t, "lo", lo, e, toFrac(wantLo), api.OK)
		wantFrac(t, "hi", hi, e, toFrac(wantHi), api.OK)
		switch {
		case lo == hi:
			cases["one size"]++
		case lo == fr(0, 1) && hi == fr(40, 1):
			cases["all"]++
		case lo != fr(0, 1) && hi != fr(40, 1):
			cases["some"]++
		}
	}
	cases.all(t, "none", "one size", "all", "some")
}

// P4.11: of a size, Least is OK if and only if Sizes is OK and the size lies from lo to hi; the ends are sizes.
func TestSizesAreThoseOfLeast(t *testing.T) {
	random := rand.New(rand.NewSource(49))
	for _, p := range append(samples(300), great()...) {
		lo, hi, sizesE := grade.Sizes(p)
		sizes := append(someSizes(), randomSize(random), randomSize(random), randomSize(random))
		if sizesE == api.OK {
			if lo.Den > 1600 || hi.Den > 1600 {
				t.Errorf("%v: %v, %v", p, lo, hi)
			}
			sizes = append(sizes, lo, hi)
			sizes = append(sizes, beside(lo)...)
			sizes = append(sizes, beside(hi)...)
		}
		for _, s := range sizes {
			_, e := grade.Least(p, s)
			inside := sizesE == api.OK && rat(lo).Cmp(rat(s)) <= 0 && rat(s).Cmp(rat(hi)) <= 0
			if inside != (e == api.OK) {
				t.Errorf("%v: from %v to %v, error %d; at %v Least: error %d", p, lo, hi, sizesE, s, e)
			}
		}
	}
}

// beside are sizes next to s.
func beside(s api.Frac) []api.Frac {
	var l []api.Frac
	for _, den := range []int{10000, 9973, 9999} {
		for _, more := range []int{0, 1} {
			n := s.Num*den/s.Den + more
			if n <= 40*den {
				l = append(l, toFrac(big.NewRat(int64(n), int64(den))))
			}
		}
	}
	return l
}

// P4.5: Ends.
func TestEndsOfExamples(t *testing.T) {
	low, high, e := grade.Ends(example())
	if wantLoop(t, example(), high); len(low) != 0 || len(high) != 3 || e != api.OK {
		t.Error(low, high, e)
	}
	low, high, e = grade.Ends(pat(1, rl(0, 0, -3, 1), rl(0, 0, 3, -1)))
	wantList(t, "low", low, e, []int{1}, api.OK)
	wantList(t, "high", high, e, []int{0}, api.OK)
	low, high, e = grade.Ends(pat(1, rl(0, 0, -3, 1), rl(0, 0, 4, -1)))
	wantList(t, "low", low, e, nil, api.ErrLoop)
	wantList(t, "high", high, e, nil, api.ErrLoop)
	low, high, e = grade.Ends(pat(1, rl(0, 0, 0, -1), rl(0, 0, -40, 1)))
	wantList(t, "low at 0", low, e, nil, api.OK)
	wantList(t, "high at 40", high, e, nil, api.OK)
	low, high, e = grade.Ends(pat(1, rl(0, 0, 0, 1)))
	wantList(t, "low at 0", low, e, nil, api.OK)
	wantList(t, "high at 0", high, e, []int{0}, api.OK)
	low, high, e = grade.Ends(pat(1, rl(0, 0, 40, -1)))
	wantList(t, "low at 40", low, e, []int{0}, api.OK)
	wantList(t, "high at 40", high, e, nil, api.OK)
}

// P4.12: what Ends returns are loops with the weight 0 at the ends.
func TestEnds(t *testing.T) {
	cases := seen{}
	for _, p := range append(samples(800), great()...) {
		lo, hi, sizesE := grade.Sizes(p)
		low, high, e := grade.Ends(p)
		if e != sizesE || e != api.OK && len(low)+len(high) > 0 {
			t.Errorf("%v: %v, %v, error %d; Sizes: error %d", p, low, high, e, sizesE)
		}
		if e != api.OK {
			cases["none"]++
			continue
		}
		if (len(low) == 0) != (lo == fr(0, 1)) || (len(high) == 0) != (hi == fr(40, 1)) {
			t.Errorf("%v: from %v to %v, but %v, %v", p, lo, hi, low, high)
		}
		if len(low) > 0 {
			wantEnd(t, p, low, lo, -1)
			cases["low"]++
		}
		if len(high) > 0 {
			wantEnd(t, p, high, hi, 1)
			cases["high"]++
		}
	}
	cases.all(t, "none", "low", "high")
}

func wantEnd(t *testing.T, p grade.Pattern, loop []int, at api.Frac, sign int) {
	t.Helper()
	wantLoop(t, p, loop)
	if _, d := line(p, loop); weigh(p, loop, rat(at)).Sign() != 0 || d*sign <= 0 {
		t.Errorf("%v: the loop %v with the d %d weighs %v at %v", p, loop, d, weigh(p, loop, rat(at)), at)
	}
}

// P4.6: Conflict.
func TestConflictOfExamples(t *testing.T) {
	got, e := grade.Conflict(pat(1, rl(0, 0, -3, 1), rl(0, 0, 4, -1)))
	if len(got) != 2 || len(got[0]) != 1 || len(got[1]) != 1 || got[0][0]+got[1][0] != 1 || e != api.OK {
		t.Error(got, e)
	}
	for _, r := range []grade.Rule{rl(0, 0, 1, 0), rl(0, 0, 1, 1), rl(0, 0, 41, -1), rl(0, 0, 1000, -100), rl(0, 0, 1, 100)} {
		p := pat(1, rl(0, 0, -1, 0), r)
		got, e = grade.Conflict(p)
		if _, _, sizesE := grade.Sizes(p); sizesE == api.OK {
			if len(got) > 0 || e != api.ErrNone {
				t.Error(got, e)
			}
			continue
		}
		if len(got) != 1 || len(got[0]) != 1 || got[0][0] != 1 || e != api.OK {
			t.Error(r, got, e)
		}
	}
	for _, p := range []grade.Pattern{example(), pat(1), pat(1, rl(0, 0, -3, 1), rl(0, 0, 3, -1))} {
		if got, e = grade.Conflict(p); len(got) > 0 || e != api.ErrNone {
			t.Error(got, e)
		}
	}
}

// P4.6, P4.12: at each real size one of the loops of Conflict has a weight above 0.
func TestConflict(t *testing.T) {
	cases := seen{}
	for _, p := range append(samples(1200), great()...) {
		_, _, sizesE := grade.Sizes(p)
		got, e := grade.Conflict(p)
		if sizesE == api.OK {
			if len(got) > 0 || e != api.ErrNone {
				t.Errorf("%v: %v, error %d", p, got, e)
			}
			cases["none"]++
			continue
		}
		if len(got) < 1 || len(got) > 2 || e != api.OK {
			t.Errorf("%v: %v, error %d", p, got, e)
		}
		var lines [][2]int
		for _, loop := range got {
			wantLoop(t, p, loop)
			c, d := line(p, loop)
			lines = append(lines, [2]int{c, d})
		}
		if lo, hi := lineEnds(lines); lo != nil {
			t.Errorf("%v: the loops %v leave %v to %v", p, got, lo, hi)
		}
		cases[[]string{"no loop", "one loop", "two loops"}[len(got)]]++
	}
	cases.all(t, "none", "one loop", "two loops")
}
