package grade_test

import (
	"fmt"
	"math"
	"math/big"
	"math/rand"
	"slices"
	"testing"

	"trank/api"
	"trank/grade"
)

const most = api.MaxPart

func fr(n, d int) api.Frac { return api.Frac{Num: n, Den: d} }

func fracs(l ...int) []api.Frac {
	var all []api.Frac
	for _, n := range l {
		all = append(all, fr(n, 1))
	}
	return all
}

func rl(a, b, c, d int) grade.Rule { return grade.Rule{A: a, B: b, C: c, D: d} }

func pat(n int, rules ...grade.Rule) grade.Pattern { return grade.Pattern{N: n, Rules: rules} }

// example is the first one of the document.
func example() grade.Pattern { return pat(3, rl(1, 0, 10, 2), rl(2, 1, 5, 1), rl(0, 2, -60, 0)) }

// repeated has n times the same rule.
func repeated(n int, r grade.Rule) []grade.Rule { return slices.Repeat([]grade.Rule{r}, n) }

// invalid are patterns that every function must refuse.
func invalid() map[string]grade.Pattern {
	l := map[string]grade.Pattern{
		"nothing": {}, "no unknown": pat(0, rl(0, 0, 0, 0)), "17 unknowns": pat(17), "65 rules": pat(3, repeated(65, rl(1, 0, 0, 0))...),
		"1000 rules": pat(1, repeated(1000, rl(0, 0, 0, 0))...),
	}
	for _, n := range []int{-1, math.MinInt, math.MaxInt} {
		l[fmt.Sprint("N ", n)] = pat(n, rl(0, 0, 0, 0))
	}
	for k := range 3 {
		with := func(what string, change func(r *grade.Rule)) {
			p := example()
			change(&p.Rules[k])
			l[fmt.Sprint(what, " of rule ", k)] = p
		}
		for _, n := range []int{-1, 3, 4, 16, math.MinInt, math.MaxInt} {
			with(fmt.Sprint("A ", n), func(r *grade.Rule) { r.A = n })
			with(fmt.Sprint("B ", n), func(r *grade.Rule) { r.B = n })
		}
		for _, n := range []int{-1001, 1001, math.MinInt, math.MaxInt} {
			with(fmt.Sprint("C ", n), func(r *grade.Rule) { r.C = n })
		}
		for _, n := range []int{-101, 101, math.MinInt, math.MaxInt} {
			with(fmt.Sprint("D ", n), func(r *grade.Rule) { r.D = n })
		}
	}
	return l
}

func notFractions() []api.Frac {
	return []api.Frac{
		{}, fr(1, 0), fr(0, 2), fr(0, -1), fr(1, -1), fr(-1, -1), fr(2, 4), fr(4, 2), fr(2, 2), fr(most+1, 1), fr(1, most+1),
		fr(math.MinInt, 1), fr(math.MaxInt, 1), fr(1, math.MinInt), fr(1, math.MaxInt), fr(math.MinInt, math.MinInt), fr(math.MaxInt, math.MaxInt),
	}
}

func notSizes() []api.Frac {
	return append(notFractions(), fr(-1, 1), fr(-1, 10000), fr(41, 1), fr(81, 2), fr(400001, 10000), fr(1, 10001), fr(400039, 10001), fr(1, most), fr(most, 1), fr(-most, 1))
}

func notMosts() []api.Frac {
	return append(notFractions(), fr(-1, 1), fr(-1, 100), fr(1000001, 1), fr(100000001, 100), fr(1, 101), fr(1, 10000), fr(most, 1), fr(-most, 1))
}

// someSizes are sizes at and between the limits.
func someSizes() []api.Frac {
	return []api.Frac{
		fr(0, 1), fr(1, 10000), fr(1, 9973), fr(1, 3), fr(1, 1), fr(13, 2), fr(7, 1), fr(22, 3), fr(15, 1), fr(31, 2), fr(20, 1), fr(299999, 10000), fr(39, 1), fr(398919, 9973), fr(399999, 10000), fr(40, 1),
	}
}

// randomRule is one of a pattern of n unknowns, with a C and a D up to these.
func randomRule(random *rand.Rand, n, c, d int) grade.Rule {
	return rl(random.Intn(n), random.Intn(n), random.Intn(2*c+1)-c, random.Intn(2*d+1)-d)
}

// randomPattern has up to n unknowns and up to so many rules; it may have any
// loops, or be one that some assignment satisfies at some size, often with equality.
func randomPattern(random *rand.Rand, n, rules int) grade.Pattern {
	n = 1 + random.Intn(n)
	c, d := []int{3, 30, 200, 1000}[random.Intn(4)], []int{0, 1, 4, 20, 100}[random.Intn(5)]
	p := pat(n)
	if random.Intn(3) == 0 {
		for range random.Intn(rules + 1) {
			p.Rules = append(p.Rules, randomRule(random, n, c, d))
		}
		return p
	}
	size, loose := random.Intn(41), 1+random.Intn(1+c)/(1+random.Intn(20))
	x := make([]int, n)
	for i := range n - 1 {
		x[i+1] = random.Intn(c)
	}
	for range random.Intn(rules + 1) {
		r := randomRule(random, n, c, d)
		r.C = x[r.A] - x[r.B] - r.D*size - random.Intn(loose)
		if r.C >= -1000 && r.C <= 1000 {
			p.Rules = append(p.Rules, r)
		}
	}
	return p
}

func randomSize(random *rand.Rand) api.Frac {
	if random.Intn(3) == 0 {
		l := someSizes()
		return l[random.Intn(len(l))]
	}
	den := 1 + random.Intn(10000)>>random.Intn(14)
	num := random.Intn(40*den + 1)
	return toFrac(big.NewRat(int64(num), int64(den)))
}

// samples are the document's examples, and n small ones.
func samples(n int) []grade.Pattern {
	random := rand.New(rand.NewSource(int64(n)))
	l := []grade.Pattern{
		example(), pat(1), pat(2), pat(16), pat(1, rl(0, 0, -3, 1)), pat(1, rl(0, 0, 3, -1)), pat(1, rl(0, 0, -3, 1), rl(0, 0, 4, -1)),
		pat(1, rl(0, 0, -3, 1), rl(0, 0, 3, -1)), pat(2, rl(1, 0, 5, 0), rl(1, 0, 3, 0)), pat(1, rl(0, 0, 1, 0)), pat(1, rl(0, 0, 0, 0)), pat(2, rl(0, 1, 1, 0)),
		pat(2, rl(0, 1, 0, 0)), pat(1, rl(0, 0, 0, 1)), pat(1, rl(0, 0, 1, 1)), pat(1, rl(0, 0, -1000, 25)), pat(1, rl(0, 0, 1000, -25)), pat(1, rl(0, 0, 1000, -24)),
		pat(1, rl(0, 0, -41, 1)), pat(1, rl(0, 0, 41, -1)), pat(1, rl(0, 0, 1, -3), rl(0, 0, -1, 3)), pat(2, rl(0, 0, -1, 2), rl(1, 1, 1, -3)),
	}
	for range n {
		l = append(l, randomPattern(random, 5, 9))
	}
	return l
}

// great are patterns of 16 unknowns and up to 64 rules: with the greatest
// weights there are, with very many loops, and with ends of great Dens.
func great() []grade.Pattern {
	random := rand.New(rand.NewSource(16))
	up, down, falling := pat(16), pat(16), pat(16)
	for i := range 15 {
		up.Rules = append(up.Rules, rl(i+1, i, 1000, 100))
		down.Rules = append(down.Rules, rl(i, i+1, -1000, -100))
		falling.Rules = append(falling.Rules, rl(i+1, i, 1000, -100), rl(i, i+1, -1000, 100))
	}
	l := []grade.Pattern{up, down, falling, ring(13001, -1600), ring(-10001, 1600), ring(12999, -1591)}
	for range 12 {
		l = append(l, ladder(random, -700+random.Intn(1400), 100), ladder(random, 0, 3+random.Intn(40)))
		p := randomPattern(random, 1, 0)
		for p.N < 12 || len(p.Rules) < 30 {
			p = randomPattern(random, 16, 64)
		}
		l = append(l, p)
	}
	return l
}

// ring has a loop of 16 rules, and no other one restricts the sizes as much:
// with that loop's c and d, the sizes are those where c + d times the size is at most 0.
func ring(c, d int) grade.Pattern {
	p := pat(16)
	// part n of m in k parts that differ by at most 1
	part := func(n, m, k int) int { return m*(n+1)/k - m*n/k }
	for i := range 15 {
		p.Rules = append(p.Rules, rl(i+1, i, part(i, c+1000, 15), part(i, d, 16)))
	}
	p.Rules = append(p.Rules, rl(0, 15, -1000, part(15, d, 16)))
	return p
}

// ladder has four rules from each unknown to the one below it, and four from 0 to the last one.
func ladder(random *rand.Rand, c, d int) grade.Pattern {
	p := pat(16)
	for i := range 16 {
		for range 4 {
			r := randomRule(random, 1, 60, d)
			r.A, r.B, r.C = i, (i+15)%16, max(-1000, min(r.C+c, 1000))
			if i == 0 {
				r.C = max(-1000, min(-c-random.Intn(900), 1000))
			}
			p.Rules = append(p.Rules, r)
		}
	}
	return p
}

func wantFrac(t *testing.T, what string, got api.Frac, e api.Errno, want api.Frac, wantE api.Errno) {
	t.Helper()
	if got != want || e != wantE {
		t.Errorf("%s: %v, error %d; want %v, error %d", what, got, e, want, wantE)
	}
}

func wantList[T comparable](t *testing.T, what string, got []T, e api.Errno, want []T, wantE api.Errno) {
	t.Helper()
	if !slices.Equal(got, want) || e != wantE {
		t.Errorf("%s: %v, error %d; want %v, error %d", what, got, e, want, wantE)
	}
}

func wantBool(t *testing.T, what string, got bool, e api.Errno, want bool, wantE api.Errno) {
	t.Helper()
	if got != want || e != wantE {
		t.Errorf("%s: %v, error %d; want %v, error %d", what, got, e, want, wantE)
	}
}

// seen counts the cases that a test of random patterns expected, so that none of them is left out by chance.
type seen map[string]int

func (s seen) all(t *testing.T, cases ...string) {
	t.Helper()
	for _, c := range cases {
		if s[c] < 8 {
			t.Errorf("the patterns led to '%s' in %d cases only: %v", c, s[c], s)
		}
	}
}

// The oracle: the document's terms on rational numbers without limits, over all loops and chains.

func rat(f api.Frac) *big.Rat { return big.NewRat(int64(f.Num), int64(f.Den)) }

func ratOf(n int) *big.Rat { return big.NewRat(int64(n), 1) }

// toFrac returns the zero value where f is not representable.
func toFrac(f *big.Rat) api.Frac {
	num, den := f.Num(), f.Denom()
	limit := big.NewInt(most)
	if num.CmpAbs(limit) > 0 || den.Cmp(limit) > 0 {
		return api.Frac{}
	}
	return fr(int(num.Int64()), int(den.Int64()))
}

func ruleOf(p grade.Pattern, number int) grade.Rule {
	if number < 0 {
		return rl(-number, 0, 0, 0)
	}
	return p.Rules[number]
}

// numbers are those of all rules.
func numbers(p grade.Pattern) []int {
	var l []int
	for k := range p.Rules {
		l = append(l, k)
	}
	for i := 1; i < p.N; i++ {
		l = append(l, -i)
	}
	return l
}

// line returns the sums of the C and of the D.
func line(p grade.Pattern, sequence []int) (c, d int) {
	for _, k := range sequence {
		r := ruleOf(p, k)
		c, d = c+r.C, d+r.D
	}
	return c, d
}

// weigh returns the weight of a sequence at s.
func weigh(p grade.Pattern, sequence []int, s *big.Rat) *big.Rat {
	c, d := line(p, sequence)
	w := new(big.Rat).Mul(ratOf(d), s)
	return w.Add(w, ratOf(c))
}

// eachChain visits all sequences of rules from unknown a, of which no unknown is the A of two, and where they end; the empty one too.
func eachChain(p grade.Pattern, a int, visit func(sequence []int, end int)) {
	var used [api.MaxNames]bool
	var from func(a int, sequence []int)
	from = func(a int, sequence []int) {
		visit(sequence, a)
		if used[a] {
			return
		}
		used[a] = true
		for _, k := range numbers(p) {
			if r := ruleOf(p, k); r.A == a {
				from(r.B, append(sequence, k))
			}
		}
		used[a] = false
	}
	from(a, nil)
}

func eachLoop(p grade.Pattern, visit func(loop []int)) {
	for a := range p.N {
		eachChain(p, a, func(sequence []int, end int) {
			if end == a && len(sequence) > 0 {
				visit(sequence)
			}
		})
	}
}

// hasLoop says whether the weight of a loop at s is above 0.
func hasLoop(p grade.Pattern, s api.Frac) bool {
	found := false
	eachLoop(p, func(loop []int) { found = found || weigh(p, loop, rat(s)).Sign() > 0 })
	return found
}

// bestChain returns the greatest weight of the chains from a to b; nil if there is none.
func bestChain(p grade.Pattern, s api.Frac, a, b int) *big.Rat {
	var best *big.Rat
	eachChain(p, a, func(sequence []int, end int) {
		if end != b {
			return
		}
		if w := weigh(p, sequence, rat(s)); best == nil || w.Cmp(best) > 0 {
			best = w
		}
	})
	return best
}

// satisfies is P4.1 as it says it.
func satisfies(p grade.Pattern, s api.Frac, x []api.Frac) bool {
	if x[0] != fr(0, 1) {
		return false
	}
	for _, k := range numbers(p) {
		r := ruleOf(p, k)
		difference := new(big.Rat).Sub(rat(x[r.A]), rat(x[r.B]))
		if difference.Cmp(weigh(p, []int{k}, rat(s))) < 0 {
			return false
		}
	}
	return true
}

// wantSequence wants rules of p of which each B is the next A, and no unknown is the A of two.
func wantSequence(t *testing.T, p grade.Pattern, sequence []int, from, to int) {
	t.Helper()
	at, used := from, map[int]bool{}
	for _, k := range sequence {
		if !slices.Contains(numbers(p), k) {
			t.Errorf("%v: %v has no rule of p", p, sequence)
			return
		}
		r := ruleOf(p, k)
		if r.A != at || used[at] {
			t.Errorf("%v: %v is no chain", p, sequence)
		}
		used[at] = true
		at = r.B
	}
	if at != to {
		t.Errorf("%v: %v goes from %d to %d; want %d", p, sequence, from, at, to)
	}
}

func wantLoop(t *testing.T, p grade.Pattern, loop []int) {
	t.Helper()
	if len(loop) == 0 || !slices.Contains(numbers(p), loop[0]) {
		t.Errorf("%v: %v is no loop", p, loop)
		return
	}
	start := ruleOf(p, loop[0]).A
	wantSequence(t, p, loop, start, start)
}
