package grade_test

import (
	"math/big"
	"math/rand"
	"testing"

	"trank/api"
	"trank/frac"
	"trank/grade"
)

// P4.2: Least.
func TestLeastOfExamples(t *testing.T) {
	for _, c := range []struct {
		p     grade.Pattern
		s     api.Frac
		want  []api.Frac
		wantE api.Errno
	}{
		{example(), fr(7, 1), fracs(0, 24, 36), api.OK}, {example(), fr(0, 1), fracs(0, 10, 15), api.OK}, {example(), fr(15, 1), fracs(0, 40, 60), api.OK},
		{example(), fr(1, 3), []api.Frac{fr(0, 1), fr(32, 3), fr(16, 1)}, api.OK}, {example(), fr(150001, 10000), nil, api.ErrLoop}, {example(), fr(16, 1), nil, api.ErrLoop},
		{pat(1), fr(3, 1), fracs(0), api.OK}, {pat(3), fr(3, 1), fracs(0, 0, 0), api.OK}, {pat(2, rl(1, 0, -5, 0)), fr(3, 1), fracs(0, 0), api.OK},
		{pat(2, rl(0, 1, 0, 0)), fr(3, 1), fracs(0, 0), api.OK}, {pat(2, rl(0, 1, 1, 0)), fr(3, 1), nil, api.ErrLoop}, {pat(2, rl(0, 1, -1, 0)), fr(3, 1), fracs(0, 0), api.OK},
		{pat(1, rl(0, 0, -3, 1)), fr(3, 1), fracs(0), api.OK}, {pat(1, rl(0, 0, -3, 1)), fr(30001, 10000), nil, api.ErrLoop},
		{pat(3, rl(1, 2, 4, 0), rl(2, 1, -4, 0)), fr(3, 1), fracs(0, 4, 0), api.OK}, {pat(3, rl(1, 2, 4, 0), rl(2, 1, -3, 0)), fr(3, 1), nil, api.ErrLoop},
		{pat(2, rl(1, 1, -5, 0), rl(1, 0, 5, 0)), fr(3, 1), fracs(0, 5), api.OK}, {pat(3, rl(2, 2, 1, 0)), fr(3, 1), nil, api.ErrLoop},
	} {
		got, e := grade.Least(c.p, c.s)
		wantList(t, "Least", got, e, c.want, c.wantE)
	}
}

// The elements of Least are always representable: 15 times the greatest weights, with the finest sizes.
func TestLeastAtTheLimit(t *testing.T) {
	for _, d := range []int{100, 99, 97} {
		for _, s := range []api.Frac{fr(40, 1), fr(399999, 10000), fr(399997, 10000), fr(398919, 9973)} {
			p := great()[0]
			for k := range p.Rules {
				p.Rules[k].D = d
			}
			got, e := grade.Least(p, s)
			if w := weigh(p, numbers(p)[:15], rat(s)); e != api.OK || rat(got[15]).Cmp(w) != 0 {
				t.Error(d, s, got, e)
			}
			p.Rules = append(p.Rules, rl(0, 15, -1000, -100))
			if got, e = grade.Least(p, s); e != api.ErrLoop {
				t.Error(d, s, got, e)
			}
		}
	}
}

// P4.2, P4.10: Least is the greatest weight of the chains to 0, and satisfies p.
func TestLeast(t *testing.T) {
	random := rand.New(rand.NewSource(43))
	cases := seen{}
	for _, p := range samples(500) {
		for range 3 {
			s := randomSize(random)
			got, e := grade.Least(p, s)
			if hasLoop(p, s) {
				wantList(t, "Least", got, e, nil, api.ErrLoop)
				cases["loop"]++
				continue
			}
			var want []api.Frac
			for i := range p.N {
				want = append(want, toFrac(bestChain(p, s, i, 0)))
			}
			wantList(t, "Least", got, e, want, api.OK)
			if !satisfies(p, s, got) {
				t.Errorf("%v at %v: %v does not satisfy it", p, s, got)
			}
			cases["least"]++
		}
	}
	cases.all(t, "loop", "least")
}

// anyAssignment satisfies p at s: where any numbers lift each other, less what they lift element 0 to.
func anyAssignment(t *testing.T, random *rand.Rand, p grade.Pattern, s api.Frac) []*big.Rat {
	t.Helper()
	top := 1 + random.Intn(1<<random.Intn(14))
	start, x := make([]*big.Rat, p.N), make([]*big.Rat, p.N)
	for i := range start {
		start[i] = big.NewRat(int64(random.Intn(top)), int64(1+random.Intn(3)))
	}
	for a := range x {
		x[a] = start[a]
		for b := range start {
			g, ok, e := grade.Gap(p, s, a, b)
			if e != api.OK {
				t.Errorf("%v at %v: Gap: error %d", p, s, e)
			}
			if up := new(big.Rat).Add(start[b], rat(orZero(g))); ok && up.Cmp(x[a]) > 0 {
				x[a] = up
			}
		}
	}
	for i := range start {
		start[i] = new(big.Rat).Sub(x[i], x[0])
	}
	return start
}

func orZero(f api.Frac) api.Frac {
	if !frac.Valid(f) {
		return fr(0, 1)
	}
	return f
}

// satisfiesAll is satisfies for elements that need not be representable.
func satisfiesAll(p grade.Pattern, s api.Frac, x []*big.Rat) bool {
	for _, k := range numbers(p) {
		r := ruleOf(p, k)
		if new(big.Rat).Sub(x[r.A], x[r.B]).Cmp(weigh(p, []int{k}, rat(s))) < 0 {
			return false
		}
	}
	return x[0].Sign() == 0
}

// P4.10: each element of every assignment that satisfies p at s is at least that of Least.
func TestNothingIsBelowLeast(t *testing.T) {
	random := rand.New(rand.NewSource(44))
	for _, p := range append(samples(100), great()...) {
		for range 4 {
			s := randomSize(random)
			least, e := grade.Least(p, s)
			if e != api.OK {
				continue
			}
			if !satisfies(p, s, least) {
				t.Errorf("%v at %v: %v does not satisfy it", p, s, least)
			}
			x := anyAssignment(t, random, p, s)
			if !satisfiesAll(p, s, x) {
				t.Errorf("%v at %v: %v was to satisfy it", p, s, x)
			}
			for i := range x {
				if x[i].Cmp(rat(least[i])) < 0 {
					t.Errorf("%v at %v: %v is below %v", p, s, x, least)
				}
			}
		}
	}
}

// P4.14: if no D is negative, Least grows with s.
func TestLeastGrows(t *testing.T) {
	random := rand.New(rand.NewSource(45))
	pairs := 0
	for _, p := range append(samples(200), great()...) {
		for k, r := range p.Rules {
			p.Rules[k].D = max(r.D, -r.D)
			if random.Intn(2) == 0 {
				p.Rules[k].C = -max(r.C, -r.C)
			}
		}
		s, u := randomSize(random), randomSize(random)
		if rat(s).Cmp(rat(u)) > 0 {
			s, u = u, s
		}
		low, lowE := grade.Least(p, s)
		high, highE := grade.Least(p, u)
		if lowE != api.OK || highE != api.OK {
			continue
		}
		pairs++
		for i := range low {
			if rat(low[i]).Cmp(rat(high[i])) > 0 {
				t.Errorf("%v: %v at %v, %v at %v", p, low, s, high, u)
			}
		}
	}
	if pairs < 50 {
		t.Error(pairs)
	}
}

// P4.4: Loop.
func TestLoopOfExamples(t *testing.T) {
	got, e := grade.Loop(example(), fr(16, 1))
	if wantLoop(t, example(), got); len(got) != 3 || e != api.OK {
		t.Error(got, e)
	}
	got, e = grade.Loop(example(), fr(15, 1))
	wantList(t, "Loop", got, e, nil, api.ErrNone)
	got, e = grade.Loop(pat(1, rl(0, 0, -3, 1), rl(0, 0, 4, -1)), fr(4, 1))
	wantList(t, "Loop", got, e, []int{0}, api.OK)
	got, e = grade.Loop(pat(1, rl(0, 0, -3, 1), rl(0, 0, 4, -1)), fr(3, 1))
	wantList(t, "Loop", got, e, []int{1}, api.OK)
	got, e = grade.Loop(pat(1), fr(3, 1))
	wantList(t, "Loop", got, e, nil, api.ErrNone)
	got, e = grade.Loop(pat(2, rl(0, 1, 1, 0)), fr(3, 1))
	if wantLoop(t, pat(2, rl(0, 1, 1, 0)), got); len(got) != 2 || e != api.OK {
		t.Error("a loop by a ground rule:", got, e)
	}
	around := pat(16, rl(0, 15, 1, 0))
	for i := range 15 {
		around.Rules = append(around.Rules, rl(i+1, i, 0, 0))
	}
	got, e = grade.Loop(around, fr(3, 1))
	wantLoop(t, around, got)
	if c, d := line(around, got); c != 1 || d != 0 || e != api.OK {
		t.Error(got, e)
	}
	around.Rules[0].C = 0
	got, e = grade.Loop(around, fr(3, 1))
	wantList(t, "Loop", got, e, nil, api.ErrNone)
}

// P4.4, P4.12: what Loop returns is a loop whose weight is above 0; P4.11: it returns one if and only if Least does not.
func TestLoop(t *testing.T) {
	random := rand.New(rand.NewSource(46))
	cases := seen{}
	small := samples(300)
	for i, p := range append(small, great()...) {
		for _, s := range append(someSizes(), randomSize(random), randomSize(random)) {
			got, e := grade.Loop(p, s)
			_, leastE := grade.Least(p, s)
			if i < len(small) && i%3 == 0 && hasLoop(p, s) != (e == api.OK) {
				t.Errorf("%v at %v: %v, error %d", p, s, got, e)
			}
			if e != api.OK {
				wantList(t, "Loop", got, e, nil, api.ErrNone)
				if leastE != api.OK {
					t.Errorf("%v at %v: no loop, but Least: error %d", p, s, leastE)
				}
				cases["none"]++
				continue
			}
			wantLoop(t, p, got)
			if leastE != api.ErrLoop || weigh(p, got, rat(s)).Sign() <= 0 {
				t.Errorf("%v at %v: the loop %v of the weight %v; Least: error %d", p, s, got, weigh(p, got, rat(s)), leastE)
			}
			cases["loop"]++
		}
	}
	cases.all(t, "loop", "none")
}

// P4.7: Tight.
func TestTightOfExamples(t *testing.T) {
	got, e := grade.Tight(example(), fr(7, 1))
	wantList(t, "Tight", got, e, []int{0, 1}, api.OK)
	got, e = grade.Tight(example(), fr(15, 1))
	wantList(t, "Tight", got, e, []int{0, 1, 2}, api.OK)
	got, e = grade.Tight(example(), fr(16, 1))
	wantList(t, "Tight", got, e, nil, api.ErrLoop)
	got, e = grade.Tight(pat(2), fr(7, 1))
	wantList(t, "Tight", got, e, nil, api.OK)
	got, e = grade.Tight(pat(2, rl(1, 1, -7, 1), rl(1, 1, -8, 1), rl(1, 0, 0, 0), rl(0, 1, 0, 0), rl(1, 0, -1, 0)), fr(7, 1))
	wantList(t, "Tight", got, e, []int{0, 2, 3}, api.OK)
}

func TestTight(t *testing.T) {
	random := rand.New(rand.NewSource(47))
	for _, p := range append(samples(300), great()...) {
		s := randomSize(random)
		least, e := grade.Least(p, s)
		var want []int
		if e == api.OK {
			for k, r := range p.Rules {
				if new(big.Rat).Sub(rat(least[r.A]), rat(least[r.B])).Cmp(weigh(p, []int{k}, rat(s))) == 0 {
					want = append(want, k)
				}
			}
		}
		got, tightE := grade.Tight(p, s)
		wantList(t, "Tight", got, tightE, want, e)
	}
}

// P4.7: Chain.
func TestChainOfExamples(t *testing.T) {
	for _, c := range []struct {
		p     grade.Pattern
		s     int
		i     int
		want  []int
		wantE api.Errno
	}{
		{example(), 7, 0, nil, api.OK}, {example(), 7, 1, []int{0}, api.OK}, {example(), 7, 2, []int{1, 0}, api.OK}, {example(), 15, 2, []int{1, 0}, api.OK},
		{example(), 16, 0, nil, api.ErrLoop}, {example(), 16, 2, nil, api.ErrLoop}, {example(), 7, 3, nil, api.ErrArg}, {example(), 7, -1, nil, api.ErrArg}, {example(), 16, 3, nil, api.ErrArg},
		{pat(3), 7, 2, []int{-2}, api.OK}, {pat(3, rl(1, 2, 5, 0)), 7, 1, []int{0, -2}, api.OK}, {pat(1), 7, 0, nil, api.OK}, {pat(1, rl(0, 0, -7, 1)), 7, 0, nil, api.OK},
	} {
		got, e := grade.Chain(c.p, fr(c.s, 1), c.i)
		wantList(t, "Chain", got, e, c.want, c.wantE)
	}
}

// P4.12: what Chain returns is a chain with the weight of the element.
func TestChain(t *testing.T) {
	random := rand.New(rand.NewSource(48))
	for _, p := range append(samples(300), great()...) {
		for range 3 {
			s := randomSize(random)
			least, leastE := grade.Least(p, s)
			for i := range p.N {
				got, e := grade.Chain(p, s, i)
				if e != leastE || len(got) > 0 && (e != api.OK || i == 0) {
					t.Errorf("%v at %v, %d: %v, error %d; want error %d", p, s, i, got, e, leastE)
				}
				if e != api.OK {
					continue
				}
				wantSequence(t, p, got, i, 0)
				if weigh(p, got, rat(s)).Cmp(rat(least[i])) != 0 {
					t.Errorf("%v at %v, %d: the chain %v weighs %v; want %v", p, s, i, got, weigh(p, got, rat(s)), least[i])
				}
			}
		}
	}
}
