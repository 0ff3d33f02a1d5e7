package frac_test

import (
	"fmt"
	"math"
	"math/big"
	"testing"

	"trank/api"
	"trank/frac"
)

// roundOracle rounds by the definition of each mode, from the floor and what is left.
func roundOracle(r *big.Rat, m api.Mode) *big.Int {
	floor := new(big.Int).Div(r.Num(), r.Denom())
	rest := new(big.Rat).Sub(r, new(big.Rat).SetInt(floor))
	half := rest.Cmp(big.NewRat(1, 2))
	up := false
	switch m {
	case api.Ceil:
		up = rest.Sign() > 0
	case api.Trunc:
		up = rest.Sign() > 0 && r.Sign() < 0
	case api.HalfUp:
		up = half >= 0
	case api.HalfEven:
		up = half > 0 || half == 0 && floor.Bit(0) == 1
	}
	if up {
		floor.Add(floor, big.NewInt(1))
	}
	return floor
}

// P1.3

func TestRoundTable(t *testing.T) {
	for _, c := range []struct {
		f    api.Frac
		want [5]int // by mode
	}{
		{fr(-7, 2), [5]int{-4, -3, -3, -3, -4}},
		{fr(-5, 2), [5]int{-3, -2, -2, -2, -2}},
		{fr(-1, 2), [5]int{-1, 0, 0, 0, 0}},
		{fr(1, 2), [5]int{0, 1, 0, 1, 0}},
		{fr(3, 2), [5]int{1, 2, 1, 2, 2}},
		{fr(5, 2), [5]int{2, 3, 2, 3, 2}},
		{fr(7, 3), [5]int{2, 3, 2, 2, 2}},
		{fr(8, 3), [5]int{2, 3, 2, 3, 3}},
		{fr(-7, 3), [5]int{-3, -2, -2, -2, -2}},
		{fr(-8, 3), [5]int{-3, -2, -2, -3, -3}},
		{fr(0, 1), [5]int{0, 0, 0, 0, 0}},
		{fr(4, 1), [5]int{4, 4, 4, 4, 4}},
		{fr(-4, 1), [5]int{-4, -4, -4, -4, -4}},
		{fr(most, 1), [5]int{most, most, most, most, most}},
		{fr(-most, 1), [5]int{-most, -most, -most, -most, -most}},
		{fr(most-1, 2), [5]int{499999999, 500000000, 499999999, 500000000, 500000000}},
		{fr(1-most, 2), [5]int{-500000000, -499999999, -499999999, -499999999, -500000000}},
		{fr(1, most), [5]int{0, 1, 0, 0, 0}},
		{fr(-1, most), [5]int{-1, 0, 0, 0, 0}},
	} {
		for m, want := range c.want {
			if got, e := frac.Round(c.f, api.Mode(m)); got != want || e != api.OK {
				t.Errorf("Round %v mode %d: %d, error %d; want %d", c.f, m, got, e, want)
			}
		}
	}
}

func TestRoundIsThatOfTheMode(t *testing.T) {
	for _, f := range samples(2000) {
		for _, m := range modes() {
			want := int(roundOracle(rat(f), m).Int64())
			if got, e := frac.Round(f, m); got != want || e != api.OK {
				t.Errorf("Round %v mode %d: %d, error %d; want %d", f, m, got, e, want)
			}
		}
	}
}

func noModes() []api.Mode { return []api.Mode{-1, 5, 6, math.MinInt, math.MaxInt} }

func TestRoundRefuses(t *testing.T) {
	for _, m := range noModes() {
		if got, e := frac.Round(fr(1, 2), m); got != 0 || e != api.ErrArg {
			t.Errorf("Round mode %d: %d, error %d", m, got, e)
		}
	}
	for _, bad := range notValid() {
		for _, m := range modes() {
			if got, e := frac.Round(bad, m); got != 0 || e != api.ErrArg {
				t.Errorf("Round %v: %d, error %d", bad, got, e)
			}
		}
	}
}

func TestRoundToExamples(t *testing.T) {
	for _, c := range []struct {
		f, unit api.Frac
		m       api.Mode
		want    api.Frac
		e       api.Errno
	}{
		{fr(29, 4), fr(1, 2), api.HalfEven, fr(7, 1), api.OK},
		{fr(29, 4), fr(1, 2), api.HalfUp, fr(15, 2), api.OK},
		{fr(-29, 4), fr(1, 2), api.HalfUp, fr(-7, 1), api.OK},
		{fr(-29, 4), fr(1, 2), api.Floor, fr(-15, 2), api.OK},
		{fr(most, 1), fr(1, most), api.Ceil, fr(most, 1), api.OK},    // the quotient is 10^18
		{fr(-most, 1), fr(1, most), api.Floor, fr(-most, 1), api.OK}, // and -10^18
		{fr(1, most), fr(most, 1), api.Floor, fr(0, 1), api.OK},      // 10^-18
		{fr(1, most), fr(most, 1), api.Ceil, fr(most, 1), api.OK},
		{fr(most, 1), fr(3, 1), api.Floor, fr(999999999, 1), api.OK},
		{fr(most, 1), fr(3, 1), api.Ceil, fr(0, 0), api.ErrRange}, // 1000000002
		{fr(-most, 1), fr(3, 1), api.Floor, fr(0, 0), api.ErrRange},
		{fr(most, 1), fr(3, 2), api.Ceil, fr(0, 0), api.ErrRange}, // 1000000000 1/2
		{fr(most-1, most), fr(2, 3), api.Ceil, fr(4, 3), api.OK},
		{fr(1, 2), fr(1, 1), api.HalfEven, fr(0, 1), api.OK},
		{fr(3, 2), fr(1, 1), api.HalfEven, fr(2, 1), api.OK},
		{fr(0, 1), fr(7, 3), api.Ceil, fr(0, 1), api.OK},
		{fr(1, 2), fr(0, 1), api.Floor, fr(0, 0), api.ErrArg},
		{fr(1, 2), fr(-1, 2), api.Floor, fr(0, 0), api.ErrArg},
		{fr(most, 1), fr(-3, 1), api.Ceil, fr(0, 0), api.ErrArg},
		{fr(most, 1), fr(3, 1), api.Mode(5), fr(0, 0), api.ErrArg}, // before ErrRange
	} {
		got, e := frac.RoundTo(c.f, c.unit, c.m)
		wantFrac(t, fmt.Sprint("RoundTo ", c.f, c.unit, c.m), got, e, c.want, c.e)
	}
}

func TestRoundToIsExact(t *testing.T) {
	l := samples(150)
	for _, f := range l {
		for _, unit := range l {
			if unit.Num <= 0 {
				continue
			}
			for _, m := range modes() {
				k := roundOracle(new(big.Rat).Quo(rat(f), rat(unit)), m)
				exact := new(big.Rat).Mul(new(big.Rat).SetInt(k), rat(unit))
				want, wantE := bounded(exact)
				got, e := frac.RoundTo(f, unit, m)
				wantFrac(t, fmt.Sprint("RoundTo ", f, unit, m), got, e, want, wantE)
			}
		}
	}
}

func TestRoundToRefuses(t *testing.T) {
	for _, m := range noModes() {
		got, e := frac.RoundTo(fr(1, 2), fr(1, 1), m)
		wantFrac(t, fmt.Sprint("RoundTo mode ", m), got, e, api.Frac{}, api.ErrArg)
	}
	for _, bad := range notValid() {
		got, e := frac.RoundTo(bad, fr(1, 2), api.Floor)
		wantFrac(t, fmt.Sprint("RoundTo f ", bad), got, e, api.Frac{}, api.ErrArg)
		got, e = frac.RoundTo(fr(1, 2), bad, api.Floor)
		wantFrac(t, fmt.Sprint("RoundTo unit ", bad), got, e, api.Frac{}, api.ErrArg)
	}
}

// P1.14

func TestRoundToStaysNear(t *testing.T) {
	l := samples(150)
	for _, f := range l {
		for _, unit := range l {
			if unit.Num <= 0 {
				continue
			}
			half := new(big.Rat).Mul(rat(unit), big.NewRat(1, 2))
			for _, m := range modes() {
				got, e := frac.RoundTo(f, unit, m)
				if e != api.OK {
					continue
				}
				off := new(big.Rat).Sub(rat(got), rat(f))
				off.Abs(off)
				isHalf := m == api.HalfUp || m == api.HalfEven
				if off.Cmp(rat(unit)) >= 0 || isHalf && off.Cmp(half) > 0 {
					t.Errorf("RoundTo %v %v mode %d = %v", f, unit, m, got)
				}
			}
		}
	}
}
