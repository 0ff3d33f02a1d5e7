package grade_test

import (
	"math/big"
	"math/rand"
	"testing"

	"trank/api"
	"trank/frac"
	"trank/grade"
)

// P4.1: Valid.
func TestValid(t *testing.T) {
	good := append(samples(20), great()...)
	good = append(good, pat(16, repeated(64, rl(15, 15, -1000, -100))...), pat(16, repeated(64, rl(0, 15, 1000, 100))...), pat(1), grade.Pattern{N: 1, Rules: []grade.Rule{}})
	for _, p := range good {
		if !grade.Valid(p) {
			t.Errorf("%v is not valid", p)
		}
	}
	for what, p := range invalid() {
		if grade.Valid(p) {
			t.Errorf("%s: valid", what)
		}
	}
}

// P4.1: Fits.
func TestFitsOfExample(t *testing.T) {
	p, s := example(), fr(7, 1)
	for _, c := range []struct {
		x    []api.Frac
		want bool
	}{
		{fracs(0, 24, 36), true}, {fracs(0, 48, 60), true}, {fracs(0, 24, 60), true}, {fracs(0, 30, 50), true},
		{fracs(0, 23, 36), false}, {fracs(0, 24, 35), false}, {fracs(0, 48, 61), false}, {fracs(0, 49, 60), false},
		{fracs(1, 25, 37), false}, {fracs(-1, 23, 35), false}, {fracs(0, 0, 0), false}, {fracs(0, -24, -36), false},
		{[]api.Frac{fr(0, 1), fr(24*7919+1, 7919), fr(36*7919+1, 7919)}, true}, {[]api.Frac{fr(0, 1), fr(24*7919-1, 7919), fr(36, 1)}, false},
		{[]api.Frac{fr(0, 1), fr(24*7919+2, 7919), fr(36*7919+1, 7919)}, false},
	} {
		got, e := grade.Fits(p, s, c.x)
		wantBool(t, "Fits", got, e, c.want, api.OK)
	}
}

// The ground rules belong to the pattern.
func TestFitsAsksForGround(t *testing.T) {
	p := pat(3)
	for _, c := range []struct {
		x    []api.Frac
		want bool
	}{
		{fracs(0, 0, 0), true}, {fracs(0, 5, 0), true}, {fracs(0, -1, 0), false}, {fracs(0, 0, -1), false}, {fracs(-1, 0, 0), false}, {fracs(1, 1, 1), false},
		{[]api.Frac{fr(0, 1), fr(-1, most), fr(1, 1)}, false}, {[]api.Frac{fr(0, 1), fr(1, most), fr(most, 1)}, true}, {[]api.Frac{fr(1, most), fr(1, 1), fr(1, 1)}, false},
	} {
		got, e := grade.Fits(p, fr(40, 1), c.x)
		wantBool(t, "Fits", got, e, c.want, api.OK)
	}
}

// A difference need not be representable to be compared.
func TestFitsOfFineFractions(t *testing.T) {
	a, b := fr(most-1, most), fr(most-2, most-1) // a - b = 1/(most·(most-1))
	for _, c := range []struct {
		r    grade.Rule
		x, y api.Frac
		want bool
	}{
		{rl(1, 2, 0, 0), a, b, true}, {rl(2, 1, 0, 0), a, b, false}, {rl(2, 1, 0, 0), b, a, true}, {rl(1, 2, 0, 0), b, a, false}, {rl(1, 2, 0, 0), a, a, true},
		{rl(1, 2, 1, 0), a, b, false}, {rl(1, 2, -1, 0), b, a, true}, {rl(1, 2, 0, 1), a, b, false}, {rl(1, 2, 0, -1), b, a, true},
		{rl(1, 2, 1000, 0), fr(most, 1), fr(most-1000, 1), true}, {rl(1, 2, 1000, 0), fr(most, 1), fr(most-999, 1), false},
		{rl(1, 2, 1000, 0), fr(most, 1), fr(1, most), true}, {rl(2, 1, -1000, 0), fr(most, 1), fr(1, most), false},
	} {
		p := pat(3, c.r)
		x := []api.Frac{fr(0, 1), c.x, c.y}
		got, e := grade.Fits(p, fr(1, 10000), x)
		wantBool(t, "Fits", got, e, c.want, api.OK)
		if satisfies(p, fr(1, 10000), x) != c.want {
			t.Errorf("the oracle says otherwise of %v", x)
		}
	}
}

// randomFracs are n elements: small ones, or any.
func randomFracs(random *rand.Rand, n int) []api.Frac {
	top, fine := 2+random.Intn(1<<(1+random.Intn(29))), 1+random.Intn(1<<random.Intn(29))
	x := make([]api.Frac, n)
	for i := range x {
		x[i], _ = frac.New(random.Intn(top)-random.Intn(2)*random.Intn(top), 1+random.Intn(fine))
	}
	if random.Intn(8) > 0 {
		x[0] = fr(0, 1)
	}
	return x
}

// near are n elements that satisfy p, or nearly do.
func near(random *rand.Rand, p grade.Pattern, s api.Frac) []api.Frac {
	x, e := grade.Least(p, s)
	if e != api.OK {
		return randomFracs(random, p.N)
	}
	if random.Intn(2) == 0 {
		i := random.Intn(p.N)
		if moved, e := frac.Add(x[i], fr(random.Intn(3)-1, []int{1, 1000, 7919, 100000}[random.Intn(4)])); e == api.OK {
			x[i] = moved
		}
	}
	return x
}

func TestFits(t *testing.T) {
	random := rand.New(rand.NewSource(41))
	cases := seen{}
	for _, p := range append(samples(300), great()...) {
		for range 12 {
			s := randomSize(random)
			for _, x := range [][]api.Frac{randomFracs(random, p.N), near(random, p, s)} {
				want := satisfies(p, s, x)
				got, e := grade.Fits(p, s, x)
				wantBool(t, "Fits", got, e, want, api.OK)
				cases[map[bool]string{true: "fits", false: "does not"}[got]]++
			}
		}
	}
	cases.all(t, "fits", "does not")
}

// P4.1: Slack.
func TestSlackOfExample(t *testing.T) {
	p, s := example(), fr(7, 1)
	for _, c := range []struct{ x, want []api.Frac }{
		{fracs(0, 24, 36), fracs(0, 0, 24)}, {fracs(0, 48, 60), fracs(24, 0, 0)}, {fracs(0, 0, 0), fracs(-24, -12, 60)}, {fracs(-1, -2, -3), fracs(-25, -13, 62)},
	} {
		got, e := grade.Slack(p, s, c.x)
		wantList(t, "Slack", got, e, c.want, api.OK)
	}
	got, e := grade.Slack(pat(2, rl(1, 0, 1, 1), rl(1, 1, -1, -1)), fr(1, 3), []api.Frac{fr(1, 2), fr(1, 7)})
	wantList(t, "Slack", got, e, []api.Frac{fr(1*6-7*3-28*2, 42), fr(4, 3)}, api.OK)
	got, e = grade.Slack(pat(3), s, fracs(1, 2, 3))
	wantList(t, "Slack", got, e, nil, api.OK)
}

// Both subtractions may fail, of the first rule or of a later one.
func TestSlackOutOfRange(t *testing.T) {
	x := []api.Frac{fr(0, 1), fr(most-1, most), fr(most-2, most-1), fr(most, 1), fr(-most, 1), fr(1, 10001)}
	fine := rl(1, 0, 0, 0)
	for _, r := range []grade.Rule{rl(1, 2, 0, 0), rl(2, 1, 5, 5), rl(3, 4, 1000, 100), rl(4, 3, 0, 0), rl(3, 0, -1, 0), rl(4, 0, 1, 0), rl(1, 0, 0, 1), rl(1, 0, 0, -100), rl(1, 0, 1000, 0)} {
		for _, rules := range [][]grade.Rule{{r}, {r, fine}, {fine, r}, {fine, r, fine}} {
			got, e := grade.Slack(pat(6, rules...), fr(1, 9999), x)
			wantList(t, "Slack", got, e, nil, api.ErrRange)
		}
	}
	got, e := grade.Slack(pat(6, rl(3, 0, 1, 0), rl(4, 0, -1, 0), rl(5, 0, 0, 1), fine), fr(1, 9999), x)
	wantList(t, "Slack", got, e, []api.Frac{fr(most-1, 1), fr(1-most, 1), fr(-2, 99999999), x[1]}, api.OK)
}

func TestSlack(t *testing.T) {
	random := rand.New(rand.NewSource(42))
	cases := seen{}
	for _, p := range append(samples(300), great()...) {
		for range 6 {
			s, x := randomSize(random), randomFracs(random, p.N)
			want, wantE := slackOf(p, s, x)
			got, e := grade.Slack(p, s, x)
			wantList(t, "Slack", got, e, want, wantE)
			if e == api.OK {
				cases["representable"]++
			} else {
				cases["not"]++
			}
		}
	}
	cases.all(t, "representable", "not")
}

func slackOf(p grade.Pattern, s api.Frac, x []api.Frac) ([]api.Frac, api.Errno) {
	var l []api.Frac
	for k, r := range p.Rules {
		d := new(big.Rat).Sub(rat(x[r.A]), rat(x[r.B]))
		over := new(big.Rat).Sub(d, weigh(p, []int{k}, rat(s)))
		if toFrac(d) == (api.Frac{}) || toFrac(over) == (api.Frac{}) {
			return nil, api.ErrRange
		}
		l = append(l, toFrac(over))
	}
	return l, api.OK
}

// P4.1: ErrArg unless x has N valid elements.
func TestErrArgOfAssignments(t *testing.T) {
	p, s := example(), fr(7, 1)
	lists := [][]api.Frac{nil, {}, fracs(0), fracs(0, 24), fracs(0, 24, 36, 0), fracs(0, 24, 36, 0, 0), make([]api.Frac, 3)}
	for _, bad := range notFractions() {
		for i := range 3 {
			x := fracs(0, 24, 36)
			x[i] = bad
			lists = append(lists, x)
		}
	}
	for _, x := range lists {
		fits, e := grade.Fits(p, s, x)
		wantBool(t, "Fits", fits, e, false, api.ErrArg)
		slack, e := grade.Slack(p, s, x)
		wantList(t, "Slack", slack, e, nil, api.ErrArg)
		slack, e = grade.Slack(pat(3), s, x)
		wantList(t, "Slack without rules", slack, e, nil, api.ErrArg)
	}
}
