package frac_test

import (
	"fmt"
	"math"
	"math/big"
	"slices"
	"testing"

	"trank/api"
	"trank/frac"
)

// P1.5

func TestTerms(t *testing.T) {
	for _, c := range []struct {
		f    api.Frac
		want []int
	}{
		{fr(43, 30), []int{1, 2, 3, 4}},
		{fr(-1, 2), []int{-1, 2}},
		{fr(3, 1), []int{3}},
		{fr(0, 1), []int{0}},
		{fr(-3, 1), []int{-3}},
		{fr(1, 2), []int{0, 2}},
		{fr(-43, 30), []int{-2, 1, 1, 3, 4}},
		{fr(most, 1), []int{most}},
		{fr(-most, 1), []int{-most}},
		{fr(1, most), []int{0, most}},
		{fr(-1, most), []int{-1, 1, most - 1}},
		{fr(most, most-1), []int{1, most - 1}},
	} {
		got, e := frac.Terms(c.f)
		if !slices.Equal(got, c.want) || e != api.OK {
			t.Errorf("Terms %v: %v, error %d; want %v", c.f, got, e, c.want)
		}
		back, e := frac.FromTerms(c.want)
		wantFrac(t, fmt.Sprint("FromTerms ", c.want), back, e, c.f, api.OK)
	}
	for _, bad := range notValid() {
		if got, e := frac.Terms(bad); len(got) != 0 || e != api.ErrArg {
			t.Errorf("Terms %v: %v, error %d", bad, got, e)
		}
	}
}

func TestTermsAreThoseOfTheDefinition(t *testing.T) {
	for _, f := range samples(2000) {
		var want []int
		for r := rat(f); ; r.Inv(r) {
			a := new(big.Int).Div(r.Num(), r.Denom())
			want = append(want, int(a.Int64()))
			r.Sub(r, new(big.Rat).SetInt(a))
			if r.Sign() == 0 {
				break
			}
		}
		if got, e := frac.Terms(f); !slices.Equal(got, want) || e != api.OK {
			t.Errorf("Terms %v: %v, error %d; want %v", f, got, e, want)
		}
	}
}

// ones has n terms: n-1 ones and a two, whose value is a quotient of Fibonacci numbers.
func ones(n int) []int {
	l := slices.Repeat([]int{1}, n)
	l[n-1] = 2
	return l
}

func TestFromTermsErrors(t *testing.T) {
	long := slices.Repeat([]int{1}, api.MaxTerms+1)
	for _, c := range []struct {
		l    []int
		want api.Errno
	}{
		{nil, api.ErrArg},
		{[]int{}, api.ErrArg},
		{[]int{1, 2, 1}, api.ErrArg},
		{[]int{5, 1}, api.ErrArg},
		{[]int{1, 0, 2}, api.ErrArg},
		{[]int{1, 2, 0}, api.ErrArg},
		{[]int{1, -2}, api.ErrArg},
		{[]int{1, math.MinInt}, api.ErrArg},
		{[]int{math.MaxInt, math.MaxInt, 1}, api.ErrArg}, // before ErrRange
		{[]int{math.MaxInt, 0, 2}, api.ErrArg},
		{long, api.ErrSize}, // before the ErrArg of its last one
		{make([]int, api.MaxTerms+1), api.ErrSize},
		{ones(api.MaxTerms + 1), api.ErrSize},
		{ones(api.MaxTerms), api.ErrRange},
		{long[:api.MaxTerms], api.ErrArg},
		{[]int{1}, api.OK},
		{[]int{most}, api.OK},
		{[]int{-most}, api.OK},
		{[]int{most + 1}, api.ErrRange},
		{[]int{-most - 1}, api.ErrRange},
		{[]int{math.MaxInt}, api.ErrRange},
		{[]int{math.MinInt}, api.ErrRange},
		{[]int{0, most}, api.OK},
		{[]int{0, most + 1}, api.ErrRange},
		{[]int{0, math.MaxInt}, api.ErrRange},
		{[]int{1, most - 1}, api.OK},
		{[]int{1, most}, api.ErrRange},
		{[]int{-1, most}, api.OK},
		{[]int{-2, most}, api.ErrRange},
		{[]int{most, 2}, api.ErrRange},
		{[]int{-most, 2}, api.ErrRange},
		{[]int{most/2 - 1, 2}, api.OK},
		{[]int{most / 2, 2}, api.ErrRange},
		{[]int{-most / 2, 2}, api.OK},
		{[]int{-most/2 - 1, 2}, api.ErrRange},
		{[]int{math.MinInt, 2}, api.ErrRange},
		{[]int{math.MaxInt, 2}, api.ErrRange},
		{[]int{math.MinInt, math.MaxInt, math.MaxInt}, api.ErrRange},
		{[]int{0, 1, most - 1}, api.OK},
		{[]int{0, 1, most}, api.ErrRange},
		{[]int{0, 1 << 31, 1 << 33}, api.ErrRange}, // the product is 2^64
		{[]int{0, math.MaxInt, 2}, api.ErrRange},
		{[]int{3, (1<<64 - 1) / 3}, api.ErrRange}, // an int that runs over would make it 0/1
		{[]int{4, (1<<64 - 1) / 3}, api.ErrRange}, // 1/1
		{[]int{(1<<64 - 1) / 3, 3}, api.ErrRange}, // 0/1
	} {
		got, e := frac.FromTerms(c.l)
		if e != c.want || e != api.OK && got != (api.Frac{}) {
			t.Errorf("FromTerms %v: %v, error %d; want error %d", c.l, got, e, c.want)
		}
	}
}

func TestFromTermsIsExact(t *testing.T) {
	terms := []int{1, 2, 3, 1000, 31623, most - 1, most, most + 1, 1 << 32, 1 << 62, math.MaxInt}
	firsts := append([]int{0, -1, -2, -1000, -most, -most - 1, math.MinInt}, terms...)
	for _, a := range firsts {
		for _, b := range terms {
			for _, c := range terms[1:] {
				// a + 1/(b + 1/c)
				value := new(big.Rat).SetInt64(int64(c))
				value.Add(value.Inv(value), new(big.Rat).SetInt64(int64(b)))
				value.Add(value.Inv(value), new(big.Rat).SetInt64(int64(a)))
				want, wantE := bounded(value)
				got, e := frac.FromTerms([]int{a, b, c})
				wantFrac(t, fmt.Sprint("FromTerms ", a, b, c), got, e, want, wantE)
			}
		}
	}
}

// P1.12

func TestFromTermsOfTermsIsTheFraction(t *testing.T) {
	for _, f := range samples(5000) {
		l, e := frac.Terms(f)
		if e != api.OK {
			t.Errorf("Terms %v: error %d", f, e)
		}
		got, e := frac.FromTerms(l)
		wantFrac(t, fmt.Sprint("FromTerms ", l), got, e, f, api.OK)
	}
}

func TestTheLongestTerms(t *testing.T) {
	for n := 2; n <= api.MaxTerms; n++ {
		f, e := frac.FromTerms(ones(n))
		if e == api.ErrRange && n > 40 {
			continue
		}
		back, backE := frac.Terms(f)
		if e != api.OK || backE != api.OK || !slices.Equal(back, ones(n)) {
			t.Errorf("%d terms: %v, error %d; %v, error %d", n, f, e, back, backE)
		}
	}
}

// P1.6

type bounding func(f api.Frac, d int) (api.Frac, api.Errno)

func TestNeighbourExamples(t *testing.T) {
	for _, c := range []struct {
		f            api.Frac
		d            int
		lo, hi, near api.Frac
	}{
		{fr(43, 30), 10, fr(10, 7), fr(13, 9), fr(10, 7)},
		{fr(43, 30), 30, fr(43, 30), fr(43, 30), fr(43, 30)},
		{fr(43, 30), 29, fr(10, 7), fr(33, 23), fr(33, 23)},
		{fr(-43, 30), 10, fr(-13, 9), fr(-10, 7), fr(-10, 7)},
		{fr(1, 2), 1, fr(0, 1), fr(1, 1), fr(0, 1)},    // equally near
		{fr(-1, 2), 1, fr(-1, 1), fr(0, 1), fr(-1, 1)}, // likewise
		{fr(5, 2), 1, fr(2, 1), fr(3, 1), fr(2, 1)},
		{fr(7, 3), 1, fr(2, 1), fr(3, 1), fr(2, 1)},
		{fr(8, 3), 1, fr(2, 1), fr(3, 1), fr(3, 1)},
		{fr(0, 1), 1, fr(0, 1), fr(0, 1), fr(0, 1)},
		{fr(-most, 1), 1, fr(-most, 1), fr(-most, 1), fr(-most, 1)},
		{fr(1, most), most, fr(1, most), fr(1, most), fr(1, most)},
		{fr(1, most), most - 1, fr(0, 1), fr(1, most-1), fr(1, most-1)},
		{fr(-1, most), most - 1, fr(-1, most-1), fr(0, 1), fr(-1, most-1)},
		{fr(most-1, most), most - 1, fr(most-2, most-1), fr(1, 1), fr(most-2, most-1)},
		{fr(1, most), most / 2, fr(0, 1), fr(1, most/2), fr(0, 1)},
		{fr(1, most), 1, fr(0, 1), fr(1, 1), fr(0, 1)},
		{fr(most-1, 2), 1, fr(most/2-1, 1), fr(most/2, 1), fr(most/2-1, 1)},
	} {
		got, e := frac.Below(c.f, c.d)
		wantFrac(t, fmt.Sprint("Below ", c.f, c.d), got, e, c.lo, api.OK)
		got, e = frac.Above(c.f, c.d)
		wantFrac(t, fmt.Sprint("Above ", c.f, c.d), got, e, c.hi, api.OK)
		got, e = frac.Near(c.f, c.d)
		wantFrac(t, fmt.Sprint("Near ", c.f, c.d), got, e, c.near, api.OK)
	}
}

// nearestByTrial tries all denominators up to d.
func nearestByTrial(f api.Frac, d int) (lo, hi *big.Rat) {
	for q := 1; q <= d; q++ {
		scaled := new(big.Rat).Mul(rat(f), big.NewRat(int64(q), 1))
		p := roundOracle(scaled, api.Floor)
		below := new(big.Rat).SetFrac(p, big.NewInt(int64(q)))
		p = roundOracle(scaled, api.Ceil)
		above := new(big.Rat).SetFrac(p, big.NewInt(int64(q)))
		if lo == nil || below.Cmp(lo) > 0 {
			lo = below
		}
		if hi == nil || above.Cmp(hi) < 0 {
			hi = above
		}
	}
	return lo, hi
}

func TestNeighboursAreThoseOfATrial(t *testing.T) {
	for _, f := range samples(120) {
		for _, d := range []int{1, 2, 3, 4, 5, 7, 10, 29, 60} {
			lo, hi := nearestByTrial(f, d)
			wantLo, _ := bounded(lo)
			wantHi, _ := bounded(hi)
			got, e := frac.Below(f, d)
			wantFrac(t, fmt.Sprint("Below ", f, d), got, e, wantLo, api.OK)
			got, e = frac.Above(f, d)
			wantFrac(t, fmt.Sprint("Above ", f, d), got, e, wantHi, api.OK)
		}
	}
}

func dens() []int {
	return []int{1, 2, 3, 7, 10, 99, 1000, 31622, 31623, 1000000, 433494437, most / 2, most - 1, most}
}

// P1.11: with it the two are the best ones: between them every Den is at least the sum of theirs.
func TestNeighboursAreNeighbours(t *testing.T) {
	for _, f := range samples(3000) {
		for _, d := range dens() {
			lo, loE := frac.Below(f, d)
			hi, hiE := frac.Above(f, d)
			if loE != api.OK || hiE != api.OK || lo.Den > d || hi.Den > d || !frac.Valid(lo) || !frac.Valid(hi) {
				t.Errorf("%v, %d: %v, error %d; %v, error %d", f, d, lo, loE, hi, hiE)
				continue
			}
			if f.Den <= d {
				if lo != f || hi != f {
					t.Errorf("%v, %d: %v, %v", f, d, lo, hi)
				}
				continue
			}
			between := rat(lo).Cmp(rat(f)) < 0 && rat(f).Cmp(rat(hi)) < 0
			if !between || hi.Num*lo.Den-lo.Num*hi.Den != 1 || lo.Den+hi.Den <= d {
				t.Errorf("%v, %d: %v, %v", f, d, lo, hi)
			}
		}
	}
}

func TestNearIsTheNearerOne(t *testing.T) {
	for _, f := range samples(3000) {
		for _, d := range dens() {
			lo, _ := frac.Below(f, d)
			hi, _ := frac.Above(f, d)
			want := lo
			if new(big.Rat).Sub(rat(hi), rat(f)).Cmp(new(big.Rat).Sub(rat(f), rat(lo))) < 0 {
				want = hi
			}
			got, e := frac.Near(f, d)
			wantFrac(t, fmt.Sprint("Near ", f, d), got, e, want, api.OK)
		}
	}
}

func TestNeighboursRefuse(t *testing.T) {
	for name, call := range map[string]bounding{"Below": frac.Below, "Above": frac.Above, "Near": frac.Near} {
		for _, d := range []int{0, -1, most + 1, math.MinInt, math.MaxInt} {
			got, e := call(fr(1, 2), d)
			wantFrac(t, fmt.Sprint(name, " den ", d), got, e, api.Frac{}, api.ErrArg)
		}
		for _, bad := range notValid() {
			for _, d := range []int{1, 10, most, 0} {
				got, e := call(bad, d)
				wantFrac(t, fmt.Sprint(name, bad, d), got, e, api.Frac{}, api.ErrArg)
			}
		}
	}
}

// P1.7, P1.15

func TestSimplestExamples(t *testing.T) {
	for _, c := range []struct{ a, b, want api.Frac }{
		{fr(2, 7), fr(1, 3), fr(1, 3)},
		{fr(-1, 3), fr(1, 2), fr(0, 1)},
		{fr(3, 10), fr(97, 300), fr(3, 10)},
		{fr(-97, 300), fr(-3, 10), fr(-3, 10)},
		{fr(0, 1), fr(5, 1), fr(0, 1)},
		{fr(-5, 1), fr(0, 1), fr(0, 1)},
		{fr(-most, 1), fr(most, 1), fr(0, 1)},
		{fr(5, 2), fr(9, 1), fr(3, 1)},
		{fr(-9, 1), fr(-5, 2), fr(-3, 1)},
		{fr(2, 1), fr(9, 1), fr(2, 1)},
		{fr(1, 1), fr(1, 1), fr(1, 1)},
		{fr(1, most), fr(1, most-1), fr(1, most-1)},
		{fr(-1, most-1), fr(-1, most), fr(-1, most-1)},
		{fr(1, most), fr(1, 1), fr(1, 1)},
		{fr(most-2, most-1), fr(most-1, most), fr(most-2, most-1)},
		{fr(most-1, 2), fr(most, 1), fr(most/2, 1)},
	} {
		got, e := frac.Simplest(c.a, c.b)
		wantFrac(t, fmt.Sprint("Simplest ", c.a, c.b), got, e, c.want, api.OK)
	}
}

// simplestByTrial tries all denominators from 1 on, and of each the numerators from the least absolute value on.
func simplestByTrial(a, b api.Frac) api.Frac {
	for q := 1; ; q++ {
		scale := big.NewRat(int64(q), 1)
		lo := roundOracle(new(big.Rat).Mul(rat(a), scale), api.Ceil).Int64()
		hi := roundOracle(new(big.Rat).Mul(rat(b), scale), api.Floor).Int64()
		if lo > hi {
			continue
		}
		return fr(int(min(max(lo, 0), hi)), q)
	}
}

func TestSimplestIsThatOfATrial(t *testing.T) {
	var l []api.Frac
	for n := -25; n <= 25; n++ {
		for d := 1; d <= 8; d++ {
			if frac.Valid(fr(n, d)) {
				l = append(l, fr(n, d))
			}
		}
	}
	for _, a := range l {
		for _, b := range l {
			got, e := frac.Simplest(a, b)
			if rat(a).Cmp(rat(b)) > 0 {
				wantFrac(t, fmt.Sprint("Simplest ", a, b), got, e, api.Frac{}, api.ErrArg)
				continue
			}
			wantFrac(t, fmt.Sprint("Simplest ", a, b), got, e, simplestByTrial(a, b), api.OK)
		}
	}
}

// checkSimplest: got lies from a to b, no lesser Den has a fraction there, and none of its Den is nearer to zero.
func checkSimplest(t *testing.T, a, b api.Frac) {
	t.Helper()
	got, e := frac.Simplest(a, b)
	if e != api.OK || !frac.Valid(got) || rat(got).Cmp(rat(a)) < 0 || rat(got).Cmp(rat(b)) > 0 {
		t.Errorf("Simplest %v %v: %v, error %d", a, b, got, e)
		return
	}
	if got.Den > 1 {
		if next, _ := frac.Above(a, got.Den-1); rat(next).Cmp(rat(b)) <= 0 {
			t.Errorf("Simplest %v %v: %v; %v is simpler", a, b, got, next)
		}
	}
	if got.Num != 0 {
		step := big.NewRat(int64(got.Num/max(got.Num, -got.Num)), int64(got.Den))
		inner := new(big.Rat).Sub(rat(got), step)
		if inner.Cmp(rat(a)) >= 0 && inner.Cmp(rat(b)) <= 0 {
			t.Errorf("Simplest %v %v: %v; %v is nearer to zero", a, b, got, inner)
		}
	}
}

func TestSimplestHasTheLeastDen(t *testing.T) {
	l := samples(200)
	for i, a := range l {
		for _, b := range l[i:] {
			if rat(a).Cmp(rat(b)) <= 0 {
				checkSimplest(t, a, b)
			} else {
				checkSimplest(t, b, a)
			}
		}
	}
	for _, f := range samples(2000) {
		for _, d := range dens() {
			lo, _ := frac.Below(f, d)
			hi, _ := frac.Above(f, d)
			checkSimplest(t, lo, f)
			checkSimplest(t, f, hi)
			checkSimplest(t, lo, hi)
		}
	}
}

func TestSimplestOfOneFractionIsIt(t *testing.T) {
	for _, f := range samples(3000) {
		got, e := frac.Simplest(f, f)
		wantFrac(t, fmt.Sprint("Simplest ", f, f), got, e, f, api.OK)
	}
}

func TestSimplestRefusesAnEmptyInterval(t *testing.T) {
	for _, p := range [][2]api.Frac{{fr(1, 2), fr(1, 3)}, {fr(1, 1), fr(-1, 1)}, {fr(1, most-1), fr(1, most)}, {fr(-1, 3), fr(-1, 2)}, {fr(1, 1), fr(0, 1)}} {
		got, e := frac.Simplest(p[0], p[1])
		wantFrac(t, fmt.Sprint("Simplest ", p), got, e, api.Frac{}, api.ErrArg)
	}
}
