package frac_test

import (
	"math"
	"math/big"
	"math/rand"
	"testing"

	"trank/api"
	"trank/frac"
)

const most = api.MaxPart

func fr(n, d int) api.Frac { return api.Frac{Num: n, Den: d} }

// rat is the oracle: a rational number without limits.
func rat(f api.Frac) *big.Rat { return big.NewRat(int64(f.Num), int64(f.Den)) }

// bounded is what a function must return whose exact result is r.
func bounded(r *big.Rat) (api.Frac, api.Errno) {
	limit := big.NewInt(most)
	if r.Num().CmpAbs(limit) > 0 || r.Denom().Cmp(limit) > 0 {
		return api.Frac{}, api.ErrRange
	}
	return fr(int(r.Num().Int64()), int(r.Denom().Int64())), api.OK
}

// notValid are fractions that every function must refuse.
func notValid() []api.Frac {
	return []api.Frac{
		{}, fr(1, 0), fr(0, 2), fr(0, -1), fr(1, -1), fr(2, 4), fr(-3, 3), fr(6, -4),
		fr(most+1, 1), fr(-most-1, 1), fr(1, most+1), fr(-1, most+1),
		fr(math.MinInt, 1), fr(math.MaxInt, 1), fr(1, math.MinInt), fr(1, math.MaxInt),
		fr(math.MinInt, math.MinInt), fr(math.MaxInt, math.MaxInt), fr(math.MinInt, math.MaxInt),
	}
}

// edges are valid fractions with small parts, and with parts at the limit.
func edges() []api.Frac {
	l := []api.Frac{fr(0, 1)}
	for _, f := range []api.Frac{
		fr(1, 1), fr(2, 1), fr(1, 2), fr(3, 2), fr(1, 3), fr(2, 3), fr(7, 2), fr(5, 2), fr(27, 4), fr(43, 30),
		fr(most, 1), fr(most-1, 1), fr(1, most), fr(1, most-1), fr(most, most-1), fr(most-1, most),
		fr(most, 3), fr(3, most), fr(most/2, 1), fr(1, most/2), fr(most-1, 2), fr(701408733, 433494437), fr(433494437, 701408733),
	} {
		l = append(l, f, fr(-f.Num, f.Den))
	}
	return l
}

// samples are the edges and many others, of all magnitudes.
func samples(n int) []api.Frac {
	l := edges()
	random := rand.New(rand.NewSource(int64(n)))
	for len(l) < n {
		num, den := random.Intn(most+1)>>random.Intn(30), 1+random.Intn(most)>>random.Intn(30)
		if random.Intn(2) == 0 {
			num = -num
		}
		if f, e := frac.New(num, den); e == api.OK {
			l = append(l, f)
		}
	}
	return l
}

type binary func(a, b api.Frac) (api.Frac, api.Errno)

func wantFrac(t *testing.T, what string, got api.Frac, e api.Errno, want api.Frac, wantE api.Errno) {
	t.Helper()
	if got != want || e != wantE {
		t.Errorf("%s: %v, error %d; want %v, error %d", what, got, e, want, wantE)
	}
}

func modes() []api.Mode {
	return []api.Mode{api.Floor, api.Ceil, api.Trunc, api.HalfUp, api.HalfEven}
}
