package frac_test

import (
	"fmt"
	"math"
	"math/big"
	"testing"

	"trank/api"
	"trank/frac"
)

// P1.1

func TestValid(t *testing.T) {
	for _, f := range edges() {
		if !frac.Valid(f) {
			t.Error(f, "is valid")
		}
	}
	for _, f := range notValid() {
		if frac.Valid(f) {
			t.Error(f, "is not valid")
		}
	}
}

func TestValidIsExactlyLowestTerms(t *testing.T) {
	for n := -12; n <= 12; n++ {
		for d := -3; d <= 12; d++ {
			want := d > 0 && rat(fr(n, d)).Num().Int64() == int64(n) && rat(fr(n, d)).Denom().Int64() == int64(d)
			if frac.Valid(fr(n, d)) != want {
				t.Error(n, d, "valid:", !want)
			}
		}
	}
}

func TestNewExamples(t *testing.T) {
	for _, c := range []struct {
		num, den int
		want     api.Frac
		e        api.Errno
	}{
		{6, -4, fr(-3, 2), api.OK},
		{0, 7, fr(0, 1), api.OK},
		{0, math.MinInt, fr(0, 1), api.OK},
		{1, 0, fr(0, 0), api.ErrZero},
		{0, 0, fr(0, 0), api.ErrZero},
		{math.MinInt, 0, fr(0, 0), api.ErrZero},
		{2000000000, 4, fr(500000000, 1), api.OK},
		{1000000001, 1, fr(0, 0), api.ErrRange},
		{1, 1000000001, fr(0, 0), api.ErrRange},
		{most, 1, fr(most, 1), api.OK},
		{-most, 1, fr(-most, 1), api.OK},
		{-most - 1, 1, fr(0, 0), api.ErrRange},
		{1, -most, fr(-1, most), api.OK},
		{-1, -most - 1, fr(0, 0), api.ErrRange},
		{math.MinInt, math.MinInt, fr(1, 1), api.OK},
		{math.MaxInt, math.MaxInt, fr(1, 1), api.OK},
		{math.MinInt, 1, fr(0, 0), api.ErrRange},
		{1, math.MinInt, fr(0, 0), api.ErrRange},
		{math.MinInt, math.MaxInt, fr(0, 0), api.ErrRange},
		{math.MinInt, 1 << 62, fr(-2, 1), api.OK},
		{1 << 62, math.MinInt, fr(-1, 2), api.OK},
		{math.MinInt, -(1 << 62), fr(2, 1), api.OK},
		{2 * most, 2, fr(most, 1), api.OK},
		{3 * most, 2 * most, fr(3, 2), api.OK},
	} {
		got, e := frac.New(c.num, c.den)
		wantFrac(t, fmt.Sprint("New ", c.num, c.den), got, e, c.want, c.e)
	}
}

func TestNewIsExact(t *testing.T) {
	ints := []int{math.MinInt, math.MinInt + 1, math.MaxInt, math.MaxInt - 1, 1 << 62, -(1 << 62), most, -most, most + 1, 2 * most, most * most, 12, 18, -18, 1, -1, 0}
	for _, n := range ints {
		for _, d := range ints {
			if d == 0 {
				continue
			}
			want, wantE := bounded(new(big.Rat).SetFrac(big.NewInt(int64(n)), big.NewInt(int64(d))))
			got, e := frac.New(n, d)
			wantFrac(t, fmt.Sprint("New ", n, d), got, e, want, wantE)
		}
	}
}

func TestWhole(t *testing.T) {
	for _, n := range []int{0, 1, -1, 6, most, -most} {
		got, e := frac.Whole(n)
		wantFrac(t, fmt.Sprint("Whole ", n), got, e, fr(n, 1), api.OK)
	}
	for _, n := range []int{most + 1, -most - 1, math.MaxInt, math.MinInt} {
		got, e := frac.Whole(n)
		wantFrac(t, fmt.Sprint("Whole ", n), got, e, api.Frac{}, api.ErrRange)
	}
}

// P1.2

func TestCmp(t *testing.T) {
	l := samples(150)
	for _, a := range l {
		for _, b := range l {
			if got, e := frac.Cmp(a, b); got != rat(a).Cmp(rat(b)) || e != api.OK {
				t.Errorf("Cmp %v %v: %d, error %d", a, b, got, e)
			}
		}
	}
	for _, bad := range notValid() {
		for _, pair := range [][2]api.Frac{{bad, fr(1, 2)}, {fr(1, 2), bad}, {bad, bad}} {
			if got, e := frac.Cmp(pair[0], pair[1]); got != 0 || e != api.ErrArg {
				t.Errorf("Cmp %v: %d, error %d", pair, got, e)
			}
		}
	}
}

func TestArithmeticIsExact(t *testing.T) {
	for name, c := range map[string]struct {
		call   binary
		oracle func(z, a, b *big.Rat) *big.Rat
	}{
		"Add": {frac.Add, (*big.Rat).Add},
		"Sub": {frac.Sub, (*big.Rat).Sub},
		"Mul": {frac.Mul, (*big.Rat).Mul},
		"Div": {frac.Div, (*big.Rat).Quo},
	} {
		l := samples(150)
		for _, a := range l {
			for _, b := range l {
				if name == "Div" && b.Num == 0 {
					continue
				}
				want, wantE := bounded(c.oracle(new(big.Rat), rat(a), rat(b)))
				got, e := c.call(a, b)
				wantFrac(t, fmt.Sprint(name, a, b), got, e, want, wantE)
			}
		}
	}
}

func TestArithmeticExamples(t *testing.T) {
	for _, c := range []struct {
		name string
		call binary
		a, b api.Frac
		want api.Frac
		e    api.Errno
	}{
		{"Add", frac.Add, fr(1, 2), fr(1, 3), fr(5, 6), api.OK},
		{"Add", frac.Add, fr(most-1, 1), fr(1, 1), fr(most, 1), api.OK},
		{"Add", frac.Add, fr(most, 1), fr(1, 1), fr(0, 0), api.ErrRange},
		{"Add", frac.Add, fr(1, most), fr(1, most-1), fr(0, 0), api.ErrRange},
		{"Sub", frac.Sub, fr(1, 2), fr(1, 3), fr(1, 6), api.OK},
		{"Sub", frac.Sub, fr(-most, 1), fr(1, most), fr(0, 0), api.ErrRange},
		{"Sub", frac.Sub, fr(most, 1), fr(most, 1), fr(0, 1), api.OK},
		{"Mul", frac.Mul, fr(2, 3), fr(-3, 4), fr(-1, 2), api.OK},
		{"Mul", frac.Mul, fr(most, 1), fr(1, most), fr(1, 1), api.OK},
		{"Mul", frac.Mul, fr(1, most), fr(1, 2), fr(0, 0), api.ErrRange},
		{"Mul", frac.Mul, fr(31623, 1), fr(31623, 1), fr(0, 0), api.ErrRange},
		{"Div", frac.Div, fr(1, 2), fr(-3, 4), fr(-2, 3), api.OK},
		{"Div", frac.Div, fr(0, 1), fr(-3, 4), fr(0, 1), api.OK},
		{"Div", frac.Div, fr(0, 1), fr(0, 1), fr(0, 0), api.ErrZero},
		{"Div", frac.Div, fr(most, 1), fr(0, 1), fr(0, 0), api.ErrZero},
		{"Div", frac.Div, fr(2, 4), fr(0, 1), fr(0, 0), api.ErrArg},
		{"Div", frac.Div, fr(1, most), fr(most, 1), fr(0, 0), api.ErrRange},
	} {
		got, e := c.call(c.a, c.b)
		wantFrac(t, fmt.Sprint(c.name, c.a, c.b), got, e, c.want, c.e)
	}
}

func TestBinaryRefusesNotValid(t *testing.T) {
	for name, call := range map[string]binary{
		"Add": frac.Add, "Sub": frac.Sub, "Mul": frac.Mul, "Div": frac.Div, "Mediant": frac.Mediant, "Simplest": frac.Simplest,
	} {
		for _, bad := range notValid() {
			for _, good := range []api.Frac{fr(0, 1), fr(1, 2), bad} {
				got, e := call(bad, good)
				wantFrac(t, fmt.Sprint(name, bad, good), got, e, api.Frac{}, api.ErrArg)
				got, e = call(good, bad)
				wantFrac(t, fmt.Sprint(name, good, bad), got, e, api.Frac{}, api.ErrArg)
			}
		}
	}
}

func TestNegAndAbs(t *testing.T) {
	for _, f := range samples(300) {
		got, e := frac.Neg(f)
		wantFrac(t, fmt.Sprint("Neg ", f), got, e, fr(-f.Num, f.Den), api.OK)
		got, e = frac.Abs(f)
		wantFrac(t, fmt.Sprint("Abs ", f), got, e, fr(max(f.Num, -f.Num), f.Den), api.OK)
	}
	for _, bad := range notValid() {
		got, e := frac.Neg(bad)
		wantFrac(t, fmt.Sprint("Neg ", bad), got, e, api.Frac{}, api.ErrArg)
		got, e = frac.Abs(bad)
		wantFrac(t, fmt.Sprint("Abs ", bad), got, e, api.Frac{}, api.ErrArg)
	}
}

// P1.8

func TestMediant(t *testing.T) {
	l := samples(150)
	for _, a := range l {
		for _, b := range l {
			want, wantE := bounded(big.NewRat(int64(a.Num+b.Num), int64(a.Den+b.Den)))
			got, e := frac.Mediant(a, b)
			wantFrac(t, fmt.Sprint("Mediant", a, b), got, e, want, wantE)
		}
	}
	got, e := frac.Mediant(fr(1, 2), fr(1, 3))
	wantFrac(t, "Mediant 1/2 1/3", got, e, fr(2, 5), api.OK)
	got, e = frac.Mediant(fr(most, 1), fr(most, 1))
	wantFrac(t, "Mediant of the greatest twice", got, e, fr(most, 1), api.OK)
	got, e = frac.Mediant(fr(1, most), fr(1, 2))
	wantFrac(t, "Mediant 2/(most+2)", got, e, fr(1, most/2+1), api.OK)
	got, e = frac.Mediant(fr(1, most), fr(2, 1))
	wantFrac(t, "Mediant 3/(most+1)", got, e, api.Frac{}, api.ErrRange)
}
