package grade_test

import (
	"math/big"
	"math/rand"
	"slices"
	"testing"

	"trank/api"
	"trank/grade"
)

// P4.2: Greatest.
func TestGreatestOfExamples(t *testing.T) {
	for _, c := range []struct {
		p       grade.Pattern
		s, most api.Frac
		want    []api.Frac
		wantE   api.Errno
	}{
		{example(), fr(7, 1), fr(100, 1), fracs(0, 48, 60), api.OK}, {example(), fr(7, 1), fr(60, 1), fracs(0, 48, 60), api.OK}, {example(), fr(7, 1), fr(50, 1), fracs(0, 38, 50), api.OK},
		{example(), fr(7, 1), fr(36, 1), fracs(0, 24, 36), api.OK}, {example(), fr(7, 1), fr(3599, 100), nil, api.ErrShort}, {example(), fr(7, 1), fr(0, 1), nil, api.ErrShort},
		{example(), fr(7, 1), fr(1000000, 1), fracs(0, 48, 60), api.OK}, {example(), fr(16, 1), fr(100, 1), nil, api.ErrLoop}, {example(), fr(16, 1), fr(0, 1), nil, api.ErrLoop},
		{pat(1), fr(7, 1), fr(0, 1), fracs(0), api.OK}, {pat(1), fr(7, 1), fr(1000000, 1), fracs(0), api.OK}, {pat(3), fr(7, 1), fr(0, 1), fracs(0, 0, 0), api.OK},
		{pat(3), fr(7, 1), fr(99999999, 100), []api.Frac{fr(0, 1), fr(99999999, 100), fr(99999999, 100)}, api.OK}, {pat(3), fr(1, 9973), fr(1, 100), []api.Frac{fr(0, 1), fr(1, 100), fr(1, 100)}, api.OK},
		{pat(3, rl(0, 1, -5, 0)), fr(7, 1), fr(9, 1), fracs(0, 5, 9), api.OK}, {pat(3, rl(1, 2, 5, 0)), fr(7, 1), fr(9, 1), fracs(0, 9, 4), api.OK}, {pat(3, rl(1, 2, 5, 0)), fr(7, 1), fr(4, 1), nil, api.ErrShort},
		{pat(3, rl(1, 2, -5, 0)), fr(7, 1), fr(9, 1), fracs(0, 9, 9), api.OK}, {pat(3, rl(0, 1, -5, 0), rl(1, 2, -1, 0)), fr(7, 1), fr(9, 1), fracs(0, 5, 6), api.OK},
		{pat(3, rl(1, 2, 0, 1)), fr(1, 9973), fr(7, 100), []api.Frac{fr(0, 1), fr(7, 100), fr(7*9973-100, 997300)}, api.OK},
	} {
		got, e := grade.Greatest(c.p, c.s, c.most)
		wantList(t, "Greatest", got, e, c.want, c.wantE)
	}
}

// ErrRange if an element of the result is not representable, first or last.
func TestGreatestOutOfRange(t *testing.T) {
	for _, r := range []grade.Rule{rl(1, 2, 0, 1), rl(2, 1, 0, 1), rl(2, 1, 1, 1)} {
		got, e := grade.Greatest(pat(3, r), fr(1, 9973), fr(99999999, 100))
		wantList(t, "Greatest", got, e, nil, api.ErrRange)
		got, e = grade.Greatest(pat(3, r), fr(1, 9973), fr(100501, 100))
		wantList(t, "Greatest", got, e, nil, api.ErrRange)
		if got, e = grade.Greatest(pat(3, r), fr(1, 9973), fr(99999, 100)); e != api.OK {
			t.Error(got, e)
		}
		got, e = grade.Greatest(pat(3, r, rl(2, 1, 10, 0)), fr(1, 9973), fr(1, 100))
		wantList(t, "Greatest", got, e, nil, map[bool]api.Errno{true: api.ErrLoop, false: api.ErrShort}[r.A == 1])
	}
}

// greatestOf brings all elements down from most, until the rules hold.
func greatestOf(p grade.Pattern, s, most api.Frac) []*big.Rat {
	x := make([]*big.Rat, p.N)
	for i := range x {
		x[i] = rat(most)
	}
	x[0] = ratOf(0)
	for changed := true; changed; {
		changed = false
		for _, k := range numbers(p) {
			r := ruleOf(p, k)
			if up := new(big.Rat).Sub(x[r.A], weigh(p, []int{k}, rat(s))); up.Cmp(x[r.B]) < 0 {
				x[r.B], changed = up, true
			}
		}
	}
	return x
}

// P4.2: Greatest satisfies p, and no element can be greater.
func TestGreatest(t *testing.T) {
	random := rand.New(rand.NewSource(50))
	cases := seen{}
	for _, p := range append(samples(400), great()...) {
		for range 5 {
			s, most := randomSize(random), randomMost(random)
			got, e := grade.Greatest(p, s, most)
			want, wantE := greatestOrError(p, s, most)
			wantList(t, "Greatest", got, e, want, wantE)
			cases[[]string{5: "range", 10: "loop", 11: "short", 0: "greatest", 15: ""}[e]]++
			if e == api.OK && !satisfies(p, s, got) {
				t.Errorf("%v at %v up to %v: %v does not satisfy it", p, s, most, got)
			}
		}
	}
	cases.all(t, "range", "loop", "short", "greatest")
}

func randomMost(random *rand.Rand) api.Frac {
	if random.Intn(4) == 0 {
		return toFrac(big.NewRat(int64(99999999-random.Intn(1000)), 100))
	}
	den := 1 + random.Intn(100)>>random.Intn(7)
	return toFrac(big.NewRat(int64(random.Intn(1+(1000000>>random.Intn(20))*den)), int64(den)))
}

func greatestOrError(p grade.Pattern, s, most api.Frac) ([]api.Frac, api.Errno) {
	least, e := grade.Least(p, s)
	if e != api.OK {
		return nil, e
	}
	for _, f := range least {
		if rat(f).Cmp(rat(most)) > 0 {
			return nil, api.ErrShort
		}
	}
	var l []api.Frac
	for _, f := range greatestOf(p, s, most) {
		if toFrac(f) == (api.Frac{}) {
			return nil, api.ErrRange
		}
		l = append(l, toFrac(f))
	}
	return l, api.OK
}

// P4.2: ErrArg of most.
func TestErrArgOfMost(t *testing.T) {
	for _, most := range notMosts() {
		for _, s := range []int{7, 16} {
			got, e := grade.Greatest(example(), fr(s, 1), most)
			wantList(t, "Greatest", got, e, nil, api.ErrArg)
		}
	}
}

// P4.3: Gap.
func TestGapOfExamples(t *testing.T) {
	none := pat(4, rl(1, 2, 5, 1), rl(3, 3, -5, 0))
	for _, c := range []struct {
		p    grade.Pattern
		s    int
		a, b int
		want api.Frac
		ok   bool
		e    api.Errno
	}{
		{example(), 7, 2, 0, fr(36, 1), true, api.OK}, {example(), 7, 0, 2, fr(-60, 1), true, api.OK}, {example(), 7, 1, 2, fr(-36, 1), true, api.OK}, {example(), 7, 0, 1, fr(-48, 1), true, api.OK},
		{example(), 7, 0, 0, fr(0, 1), true, api.OK}, {example(), 7, 2, 2, fr(0, 1), true, api.OK}, {example(), 16, 2, 2, api.Frac{}, false, api.ErrLoop},
		{example(), 7, 3, 0, api.Frac{}, false, api.ErrArg}, {example(), 7, 0, 3, api.Frac{}, false, api.ErrArg}, {example(), 7, -1, 0, api.Frac{}, false, api.ErrArg}, {example(), 16, 0, -1, api.Frac{}, false, api.ErrArg},
		{none, 7, 1, 2, fr(12, 1), true, api.OK}, {none, 7, 2, 1, api.Frac{}, false, api.OK}, {none, 7, 0, 1, api.Frac{}, false, api.OK}, {none, 7, 1, 3, api.Frac{}, false, api.OK},
		{none, 7, 1, 0, fr(12, 1), true, api.OK}, {none, 7, 2, 0, fr(0, 1), true, api.OK}, {none, 7, 3, 3, fr(0, 1), true, api.OK}, {none, 7, 0, 0, fr(0, 1), true, api.OK},
	} {
		got, ok, e := grade.Gap(c.p, fr(c.s, 1), c.a, c.b)
		wantFrac(t, "Gap", got, e, c.want, c.e)
		wantBool(t, "Gap", ok, e, c.ok, c.e)
	}
}

// P4.3: Gap is the greatest weight of a chain.
func TestGap(t *testing.T) {
	random := rand.New(rand.NewSource(51))
	cases := seen{}
	for _, p := range samples(300) {
		s := randomSize(random)
		loop := hasLoop(p, s)
		for a := range p.N {
			for b := range p.N {
				got, ok, e := grade.Gap(p, s, a, b)
				want := bestChain(p, s, a, b)
				switch {
				case loop:
					wantFrac(t, "Gap", got, e, api.Frac{}, api.ErrLoop)
					wantBool(t, "Gap", ok, e, false, api.ErrLoop)
					cases["loop"]++
				case want == nil:
					wantFrac(t, "Gap", got, e, api.Frac{}, api.OK)
					wantBool(t, "Gap", ok, e, false, api.OK)
					cases["none"]++
				default:
					wantFrac(t, "Gap", got, e, toFrac(want), api.OK)
					wantBool(t, "Gap", ok, e, true, api.OK)
					cases["gap"]++
				}
			}
		}
	}
	cases.all(t, "loop", "none", "gap")
}

// P4.3: no gap is less, and none of the assignments has a greater one: the gaps are reached.
func TestGapIsReached(t *testing.T) {
	random := rand.New(rand.NewSource(52))
	for _, p := range great() {
		s := randomSize(random)
		least, e := grade.Least(p, s)
		if e != api.OK {
			continue
		}
		for i := range p.N {
			got, ok, e := grade.Gap(p, s, i, 0)
			wantFrac(t, "Gap to 0", got, e, least[i], api.OK)
			wantBool(t, "Gap to 0", ok, e, true, api.OK)
		}
		x := anyAssignment(t, random, p, s)
		for a := range p.N {
			for b := range p.N {
				g, ok, _ := grade.Gap(p, s, a, b)
				if ok && new(big.Rat).Sub(x[a], x[b]).Cmp(rat(g)) < 0 {
					t.Errorf("%v at %v: the gap of %d and %d is %v; but %v", p, s, a, b, g, x)
				}
			}
		}
	}
}

// The weights of the greatest chains downwards are representable too.
func TestGapAtTheLimit(t *testing.T) {
	p, s := great()[1], fr(399999, 10000)
	got, ok, e := grade.Gap(p, s, 0, 15)
	wantFrac(t, "Gap", got, e, toFrac(weigh(p, numbers(p)[:15], rat(s))), api.OK)
	wantBool(t, "Gap", ok, e, true, api.OK)
}

// P4.8: Implied.
func TestImpliedOfExamples(t *testing.T) {
	p := pat(2, rl(1, 0, 5, 0), rl(1, 0, 3, 0))
	three := pat(3, rl(1, 0, 4, 0), rl(2, 1, 5, 0), rl(2, 0, 9, 0), rl(2, 0, 10, 0), rl(2, 2, -1, 0), rl(1, 0, 0, 0), rl(0, 1, -50, 0))
	for _, c := range []struct {
		p    grade.Pattern
		k    int
		want bool
		e    api.Errno
	}{
		{p, 0, false, api.OK}, {p, 1, true, api.OK}, {p, 2, false, api.ErrArg}, {p, -1, false, api.ErrArg}, {pat(2), 0, false, api.ErrArg},
		{three, 0, false, api.OK}, {three, 1, false, api.OK}, {three, 2, true, api.OK}, {three, 3, false, api.OK}, {three, 4, true, api.OK}, {three, 5, true, api.OK}, {three, 6, false, api.OK},
		{pat(1, rl(0, 0, 0, 0)), 0, true, api.OK}, {pat(1, rl(0, 0, 1, 0)), 0, false, api.ErrLoop}, {pat(1, rl(0, 0, 1, 0)), 1, false, api.ErrArg}, {pat(3, rl(1, 2, 0, 0), rl(1, 2, 0, 0)), 0, true, api.OK},
		{pat(3, rl(2, 1, -1000, 0)), 0, false, api.OK}, {pat(3, rl(2, 0, 0, 0)), 0, true, api.OK},
	} {
		got, e := grade.Implied(c.p, fr(7, 1), c.k)
		wantBool(t, "Implied", got, e, c.want, c.e)
	}
}

// impliedIn is P4.8 as it says it, from all chains.
func impliedIn(p grade.Pattern, s api.Frac, k int) bool {
	r := p.Rules[k]
	left := pat(p.N, slices.Delete(slices.Clone(p.Rules), k, k+1)...)
	best := bestChain(left, s, r.A, r.B)
	return best != nil && best.Cmp(weigh(p, []int{k}, rat(s))) >= 0
}

func TestImplied(t *testing.T) {
	random := rand.New(rand.NewSource(53))
	cases := seen{}
	for _, p := range samples(400) {
		s := randomSize(random)
		loop := hasLoop(p, s)
		for k := range p.Rules {
			got, e := grade.Implied(p, s, k)
			if loop {
				wantBool(t, "Implied", got, e, false, api.ErrLoop)
				cases["loop"]++
				continue
			}
			wantBool(t, "Implied", got, e, impliedIn(p, s, k), api.OK)
			cases[map[bool]string{true: "implied", false: "not"}[got]]++
		}
	}
	cases.all(t, "loop", "implied", "not")
}

// P4.8: Core.
func TestCoreOfExamples(t *testing.T) {
	for _, c := range []struct {
		p    grade.Pattern
		want []int
		e    api.Errno
	}{
		{pat(2, rl(1, 0, 5, 0), rl(1, 0, 3, 0)), []int{0}, api.OK}, {pat(2, rl(1, 0, 3, 0), rl(1, 0, 5, 0)), []int{1}, api.OK}, {pat(2, rl(1, 0, 5, 0), rl(1, 0, 5, 0)), []int{0}, api.OK},
		{pat(2), nil, api.OK}, {pat(2, rl(1, 0, 0, 0), rl(1, 1, 0, 0)), nil, api.OK}, {example(), []int{0, 1, 2}, api.OK}, {pat(1, rl(0, 0, 1, 0)), nil, api.ErrLoop},
		{pat(3, rl(1, 2, 0, 0), rl(2, 1, 0, 0), rl(1, 0, 4, 0), rl(2, 0, 4, 0)), []int{0, 1, 2}, api.OK}, {pat(3, repeated(64, rl(1, 2, -3, 0))...), []int{0}, api.OK},
		{pat(4, rl(1, 2, 0, 0), rl(2, 3, 0, 0), rl(3, 1, 0, 0), rl(1, 3, 0, 0), rl(3, 2, 0, 0), rl(2, 1, 0, 0)), []int{0, 1, 2}, api.OK},
	} {
		got, e := grade.Core(c.p, fr(7, 1))
		wantList(t, "Core", got, e, c.want, c.e)
	}
}

func TestCore(t *testing.T) {
	random := rand.New(rand.NewSource(54))
	for _, p := range samples(300) {
		s := randomSize(random)
		got, e := grade.Core(p, s)
		if hasLoop(p, s) {
			wantList(t, "Core", got, e, nil, api.ErrLoop)
			continue
		}
		wantList(t, "Core", got, e, coreOf(p, s), api.OK)
	}
}

func coreOf(p grade.Pattern, s api.Frac) []int {
	left, kept := pat(p.N, slices.Clone(p.Rules)...), []int{}
	for k := len(p.Rules) - 1; k >= 0; k-- {
		if impliedIn(left, s, k) {
			left.Rules = slices.Delete(left.Rules, k, k+1)
		} else {
			kept = append([]int{k}, kept...)
		}
	}
	return kept
}

// P4.13: p with the rules of Core alone is Equal to p, and no rule of it is implied in it.
func TestCoreIsEqual(t *testing.T) {
	random := rand.New(rand.NewSource(55))
	cases := seen{}
	for _, p := range append(samples(300), great()...) {
		s := randomSize(random)
		core, e := grade.Core(p, s)
		if e != api.OK {
			continue
		}
		if !slices.IsSorted(core) {
			t.Errorf("%v at %v: the core %v does not rise", p, s, core)
		}
		q := pat(p.N)
		for _, k := range core {
			q.Rules = append(q.Rules, p.Rules[k])
		}
		equal, e := grade.Equal(p, q, s)
		wantBool(t, "Equal", equal, e, true, api.OK)
		for k := range q.Rules {
			implied, e := grade.Implied(q, s, k)
			wantBool(t, "Implied in the core", implied, e, false, api.OK)
			cases["kept"]++
		}
		if len(core) < len(p.Rules) {
			cases["removed"]++
		}
	}
	cases.all(t, "kept", "removed")
}

// P4.9: Equal.
func TestEqualOfExamples(t *testing.T) {
	p, bad := example(), pat(1, rl(0, 0, 1, 0))
	for _, c := range []struct {
		p, q grade.Pattern
		s    int
		want bool
		e    api.Errno
	}{
		{p, p, 7, true, api.OK}, {p, p, 16, false, api.ErrLoop}, {p, pat(3), 7, false, api.OK}, {p, pat(4), 7, false, api.OK}, {pat(3), pat(4), 7, false, api.OK}, {pat(4), pat(3), 7, false, api.OK}, {pat(1), pat(1), 7, true, api.OK},
		{p, pat(3, p.Rules[2], p.Rules[0], p.Rules[1]), 7, true, api.OK}, {p, pat(3, rl(1, 0, 24, 0), rl(2, 1, 12, 0), rl(0, 2, -60, 0)), 7, true, api.OK}, {p, pat(3, rl(1, 0, 24, 0), rl(2, 1, 12, 0), rl(0, 2, -60, 0)), 8, false, api.OK},
		{p, pat(3, append(p.Rules, rl(2, 0, 36, 0), rl(1, 1, -9, 1), rl(0, 1, -48, 0))...), 7, true, api.OK}, {p, pat(3, append(p.Rules, rl(2, 0, 37, 0))...), 7, false, api.OK}, {p, pat(3, append(p.Rules, rl(0, 1, -47, 0))...), 7, false, api.OK},
		{p, pat(3, p.Rules[:2]...), 7, false, api.OK}, {bad, p, 7, false, api.ErrLoop}, {p, bad, 7, false, api.ErrLoop}, {bad, bad, 7, false, api.ErrLoop}, {bad, pat(2), 7, false, api.ErrLoop},
		{pat(3, rl(1, 2, -3, 0)), pat(3), 7, false, api.OK}, {pat(3, rl(1, 2, 0, 0)), pat(3), 7, false, api.OK}, {pat(3, rl(1, 2, 0, 0)), pat(3, rl(2, 1, 0, 0)), 7, false, api.OK},
		{pat(2, rl(1, 0, -5, 0)), pat(2), 7, true, api.OK}, {pat(2, rl(1, 0, 0, 0)), pat(2), 7, true, api.OK}, {pat(2, rl(0, 1, 0, 0)), pat(2), 7, false, api.OK},
		{pat(3, rl(0, 1, 0, 0), rl(0, 2, 0, 0)), pat(3, rl(1, 2, 0, 0), rl(0, 1, 0, 0)), 7, true, api.OK},
	} {
		got, e := grade.Equal(c.p, c.q, fr(c.s, 1))
		wantBool(t, "Equal", got, e, c.want, c.e)
		got, e = grade.Equal(c.q, c.p, fr(c.s, 1))
		wantBool(t, "Equal, turned", got, e, c.want, c.e)
	}
}

// sameAssignments tries all assignments of whole numbers up to top. With whole
// weights two patterns that differ differ in one of them, if top is great enough.
func sameAssignments(p, q grade.Pattern, s api.Frac, top int) bool {
	x := make([]int, p.N)
	holds := func(p grade.Pattern) bool {
		for _, r := range p.Rules {
			if x[r.A]-x[r.B] < r.C+r.D*s.Num {
				return false
			}
		}
		return true
	}
	var try func(i int) bool
	try = func(i int) bool {
		if i == p.N {
			return holds(p) == holds(q)
		}
		for x[i] = 0; x[i] <= top; x[i]++ {
			if !try(i + 1) {
				return false
			}
		}
		return true
	}
	return try(1)
}

func TestEqual(t *testing.T) {
	random := rand.New(rand.NewSource(56))
	cases := seen{}
	for range 3000 {
		s, n := fr(random.Intn(3), 1), 1+random.Intn(3)
		p, q := pat(n), pat(n)
		for range random.Intn(4) {
			p.Rules = append(p.Rules, randomRule(random, n, 2, 1))
		}
		q.Rules = slices.Clone(p.Rules)
		for range random.Intn(3) {
			q.Rules = append(q.Rules, randomRule(random, n, 2, 1))
		}
		if len(q.Rules) > 0 && random.Intn(3) == 0 {
			k := random.Intn(len(q.Rules))
			q.Rules = slices.Delete(q.Rules, k, k+1)
		}
		if hasLoop(p, s) || hasLoop(q, s) {
			got, e := grade.Equal(p, q, s)
			wantBool(t, "Equal", got, e, false, api.ErrLoop)
			cases["loop"]++
			continue
		}
		want := sameAssignments(p, q, s, 20)
		got, e := grade.Equal(p, q, s)
		wantBool(t, "Equal", got, e, want, api.OK)
		if got != want {
			t.Error(p, q, s)
		}
		cases[map[bool]string{true: "equal", false: "not"}[got]]++
	}
	cases.all(t, "loop", "equal", "not")
}
