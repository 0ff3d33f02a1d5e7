package frac_test

import (
	"fmt"
	"math"
	"math/big"
	"math/rand"
	"slices"
	"testing"

	"trank/api"
	"trank/frac"
)

// P1.9

func TestSum(t *testing.T) {
	for _, c := range []struct {
		l    []api.Frac
		want api.Frac
		e    api.Errno
	}{
		{nil, fr(0, 1), api.OK},
		{[]api.Frac{}, fr(0, 1), api.OK},
		{[]api.Frac{fr(1, 2)}, fr(1, 2), api.OK},
		{[]api.Frac{fr(1, 2), fr(1, 3), fr(-1, 6)}, fr(2, 3), api.OK},
		{[]api.Frac{fr(most, 1), fr(1, 1)}, fr(0, 0), api.ErrRange},
		{[]api.Frac{fr(most, 1), fr(1, 1), fr(-1, 1)}, fr(0, 0), api.ErrRange}, // on the way
		{[]api.Frac{fr(most, 1), fr(-1, 1), fr(1, 1)}, fr(most, 1), api.OK},
		{[]api.Frac{fr(1, most), fr(1, most-1), fr(-1, most-1)}, fr(0, 0), api.ErrRange},
		{[]api.Frac{fr(most, 1), fr(1, 1), fr(2, 4)}, fr(0, 0), api.ErrArg}, // before ErrRange
		{slices.Repeat([]api.Frac{fr(1, 64)}, api.MaxTerms), fr(1, 1), api.OK},
		{slices.Repeat([]api.Frac{fr(1, 64)}, api.MaxTerms+1), fr(0, 0), api.ErrSize},
		{make([]api.Frac, api.MaxTerms+1), fr(0, 0), api.ErrSize}, // before ErrArg
		{make([]api.Frac, api.MaxTerms), fr(0, 0), api.ErrArg},
	} {
		got, e := frac.Sum(c.l)
		wantFrac(t, fmt.Sprint("Sum ", c.l), got, e, c.want, c.e)
	}
	for _, bad := range notValid() {
		for _, l := range [][]api.Frac{{bad}, {fr(1, 2), bad}, {bad, fr(1, 2)}} {
			got, e := frac.Sum(l)
			wantFrac(t, fmt.Sprint("Sum ", l), got, e, api.Frac{}, api.ErrArg)
		}
	}
}

// someFracs are fractions with small Dens, so that many sums of them are representable, and now and then another one.
func someFracs(random *rand.Rand, n int) []api.Frac {
	l := make([]api.Frac, n)
	for i := range l {
		den := 1 + random.Intn(12)
		if random.Intn(40) == 0 {
			den = most - random.Intn(10)
		}
		l[i], _ = frac.New(random.Intn(4000)-2000, den)
	}
	return l
}

func TestSumAddsOneAfterAnother(t *testing.T) {
	random := rand.New(rand.NewSource(9))
	for range 2000 {
		l := someFracs(random, random.Intn(api.MaxTerms+1))
		want, wantE := fr(0, 1), api.OK
		for _, f := range l {
			if want, wantE = frac.Add(want, f); wantE != api.OK {
				break
			}
		}
		got, e := frac.Sum(l)
		wantFrac(t, fmt.Sprint("Sum ", l), got, e, want, wantE)
	}
}

func TestBlend(t *testing.T) {
	halves := func(n int) []api.Frac { return slices.Repeat([]api.Frac{fr(1, 2)}, n) }
	weights := func(n, w int) []int { return slices.Repeat([]int{w}, n) }
	for _, c := range []struct {
		l    []api.Frac
		w    []int
		want api.Frac
		e    api.Errno
	}{
		{[]api.Frac{fr(1, 2), fr(1, 3)}, []int{2, 1}, fr(4, 9), api.OK},
		{[]api.Frac{fr(1, 2), fr(most, 1)}, []int{1, 0}, fr(1, 2), api.OK},
		{[]api.Frac{fr(-1, 2)}, []int{1000000}, fr(-1, 2), api.OK},
		{nil, nil, fr(0, 0), api.ErrZero},
		{[]api.Frac{fr(1, 2)}, []int{0}, fr(0, 0), api.ErrZero},
		{[]api.Frac{fr(1, 2), fr(1, 3)}, []int{0, 0}, fr(0, 0), api.ErrZero},
		{[]api.Frac{fr(1, 2)}, nil, fr(0, 0), api.ErrArg},
		{nil, []int{1}, fr(0, 0), api.ErrArg},
		{nil, []int{0}, fr(0, 0), api.ErrArg}, // before ErrZero
		{[]api.Frac{fr(1, 2)}, []int{1, 1}, fr(0, 0), api.ErrArg},
		{[]api.Frac{fr(1, 2)}, []int{-1}, fr(0, 0), api.ErrArg},
		{[]api.Frac{fr(1, 2), fr(1, 2)}, []int{-1, 2}, fr(0, 0), api.ErrArg},
		{[]api.Frac{fr(1, 2), fr(1, 2)}, []int{-1, 1}, fr(0, 0), api.ErrArg},
		{[]api.Frac{fr(1, 2)}, []int{1000001}, fr(0, 0), api.ErrArg},
		{[]api.Frac{fr(1, 2)}, []int{math.MinInt}, fr(0, 0), api.ErrArg},
		{[]api.Frac{fr(1, 2), fr(1, 2)}, []int{math.MaxInt, 1}, fr(0, 0), api.ErrArg},
		{[]api.Frac{fr(2, 4)}, []int{0}, fr(0, 0), api.ErrArg}, // before ErrZero
		{[]api.Frac{fr(2, 4)}, []int{1}, fr(0, 0), api.ErrArg},
		{[]api.Frac{fr(most, 1), {}}, []int{2, 1}, fr(0, 0), api.ErrArg}, // before ErrRange
		{halves(64), weights(64, 1000000), fr(1, 2), api.OK},
		{halves(65), weights(65, 1), fr(0, 0), api.ErrSize},
		{halves(65), weights(1, 1), fr(0, 0), api.ErrSize},           // before the lengths' ErrArg
		{halves(1), weights(65, 1), fr(0, 0), api.ErrSize},           // likewise
		{halves(1), weights(65, -1), fr(0, 0), api.ErrSize},          // likewise
		{make([]api.Frac, 65), nil, fr(0, 0), api.ErrSize},           // likewise
		{make([]api.Frac, 2), weights(65, 0), fr(0, 0), api.ErrSize}, // likewise
		{[]api.Frac{fr(most, 1)}, []int{1}, fr(most, 1), api.OK},
		{[]api.Frac{fr(most, 1)}, []int{2}, fr(0, 0), api.ErrRange},                            // in Mul
		{[]api.Frac{fr(most, 1), fr(1, 1)}, []int{1, 1}, fr(0, 0), api.ErrRange},               // in Add
		{[]api.Frac{fr(most, 1), fr(1, 1), fr(-1, 1)}, []int{1, 1, 1}, fr(0, 0), api.ErrRange}, // in Add, on the way
		{[]api.Frac{fr(most, 1), fr(-1, 1), fr(1, 1)}, []int{1, 1, 1}, fr(most, 3), api.OK},    // not on the way
		{[]api.Frac{fr(1, most), fr(0, 1)}, []int{1, 1}, fr(0, 0), api.ErrRange},               // in Div
		{[]api.Frac{fr(1, most), fr(1, most)}, []int{1, 1}, fr(1, most), api.OK},
		{[]api.Frac{fr(2000, 1), fr(-2000, 1)}, []int{500000, 500000}, fr(0, 1), api.OK},
		{[]api.Frac{fr(2000, 1), fr(-2000, 1)}, []int{500001, 500001}, fr(0, 0), api.ErrRange},
		{[]api.Frac{fr(1, 1000000), fr(1, 999999)}, []int{1, 1}, fr(0, 0), api.ErrRange}, // in Add
		{[]api.Frac{fr(1, 1000000), fr(1, 999999)}, []int{1000000, 999999}, fr(2, 1999999), api.OK},
	} {
		got, e := frac.Blend(c.l, c.w)
		wantFrac(t, fmt.Sprint("Blend ", c.l, c.w), got, e, c.want, c.e)
	}
	for _, bad := range notValid() {
		got, e := frac.Blend([]api.Frac{fr(1, 2), bad}, []int{1, 0})
		wantFrac(t, fmt.Sprint("Blend ", bad), got, e, api.Frac{}, api.ErrArg)
	}
}

// blendOracle makes the calls that the document names.
func blendOracle(l []api.Frac, w []int) (api.Frac, api.Errno) {
	t, total := fr(0, 1), 0
	for i := range l {
		n, _ := frac.Whole(w[i])
		p, e := frac.Mul(l[i], n)
		if e != api.OK {
			return api.Frac{}, e
		}
		if t, e = frac.Add(t, p); e != api.OK {
			return api.Frac{}, e
		}
		total += w[i]
	}
	n, _ := frac.Whole(total)
	return frac.Div(t, n)
}

func TestBlendMakesTheCallsThatAreNamed(t *testing.T) {
	random := rand.New(rand.NewSource(10))
	for range 3000 {
		l := someFracs(random, random.Intn(12))
		w := make([]int, len(l))
		for i := range w {
			w[i] = random.Intn(1000001) >> random.Intn(21)
		}
		want, wantE := blendOracle(l, w)
		got, e := frac.Blend(l, w)
		wantFrac(t, fmt.Sprint("Blend ", l, w), got, e, want, wantE)
	}
}

// P1.10

func TestShareExamples(t *testing.T) {
	for _, c := range []struct {
		n       int
		w, want []int
	}{
		{10, []int{1, 1, 1}, []int{4, 3, 3}},
		{7, []int{3, 0, 2, 2}, []int{3, 0, 2, 2}},
		{1, []int{1, 1}, []int{1, 0}},
		{0, []int{1, 5}, []int{0, 0}},
		{5, []int{7}, []int{5}},
		{5, []int{0, 7, 0}, []int{0, 5, 0}},
		{2, []int{1, 2, 1}, []int{1, 1, 0}}, // remainders 2 0 2
		{3, []int{1, 3, 3}, []int{1, 1, 1}}, // remainders 3 2 2
		{4, []int{1, 2, 3}, []int{1, 1, 2}}, // remainders 4 2 0
		{most, []int{most}, []int{most}},
		{most, []int{most, most}, []int{most / 2, most / 2}},
		{most, []int{1, most}, []int{1, most - 1}}, // remainders 999999999 and 1
		{most, []int{most, 1, most}, []int{most / 2, 0, most / 2}},
	} {
		if got, e := frac.Share(c.n, c.w); !slices.Equal(got, c.want) || e != api.OK {
			t.Errorf("Share %d %v: %v, error %d; want %v", c.n, c.w, got, e, c.want)
		}
	}
}

// shareOracle gives the pieces that are left over one by one to the first one of the greatest remainder.
func shareOracle(n int, w []int) []int {
	total, left := new(big.Int), n
	for _, x := range w {
		total.Add(total, big.NewInt(int64(x)))
	}
	shares, rests := make([]int, len(w)), make([]*big.Int, len(w))
	for i, x := range w {
		product := new(big.Int).Mul(big.NewInt(int64(n)), big.NewInt(int64(x)))
		quotient, rest := new(big.Int).DivMod(product, total, new(big.Int))
		shares[i], rests[i] = int(quotient.Int64()), rest
		left -= shares[i]
	}
	for ; left > 0; left-- {
		best := 0
		for i := range rests {
			if rests[i].Cmp(rests[best]) > 0 {
				best = i
			}
		}
		shares[best]++
		rests[best] = big.NewInt(-1)
	}
	return shares
}

func randomWeights(random *rand.Rand) []int {
	w := make([]int, 1+random.Intn(api.MaxTerms))
	shift := random.Intn(30)
	for i := range w {
		if random.Intn(4) > 0 {
			w[i] = random.Intn(most+1) >> shift
		}
	}
	w[random.Intn(len(w))] = 1 // so that they are not all 0
	return w
}

func TestShareIsThatOfTheRemainders(t *testing.T) {
	random := rand.New(rand.NewSource(11))
	for range 3000 {
		n, w := random.Intn(most+1)>>random.Intn(30), randomWeights(random)
		got, e := frac.Share(n, w)
		if want := shareOracle(n, w); !slices.Equal(got, want) || e != api.OK {
			t.Errorf("Share %d %v: %v, error %d; want %v", n, w, got, e, want)
		}
	}
}

// P1.13

func TestSharesAreTheQuotas(t *testing.T) {
	random := rand.New(rand.NewSource(12))
	for range 3000 {
		n, w := random.Intn(most+1)>>random.Intn(30), randomWeights(random)
		got, _ := frac.Share(n, w)
		sum, total := 0, 0
		for i := range w {
			sum += got[i]
			total += w[i]
		}
		if sum != n {
			t.Errorf("Share %d %v: the sum is %d", n, w, sum)
		}
		for i := range w {
			quota := big.NewRat(int64(n)*int64(w[i]), int64(total))
			floor := roundOracle(quota, api.Floor).Int64()
			most := quota.Add(quota, big.NewRat(1, 1))
			if int64(got[i]) < floor || new(big.Rat).SetInt64(int64(got[i])).Cmp(most) > 0 || w[i] == 0 && got[i] != 0 {
				t.Errorf("Share %d %v: share %d is %d", n, w, i, got[i])
			}
		}
	}
}

func TestShareErrors(t *testing.T) {
	for _, c := range []struct {
		n    int
		w    []int
		want api.Errno
	}{
		{1, nil, api.ErrZero},
		{0, []int{}, api.ErrZero},
		{1, []int{0, 0}, api.ErrZero},
		{-1, nil, api.ErrArg}, // before ErrZero
		{-1, []int{1}, api.ErrArg},
		{most + 1, []int{1}, api.ErrArg},
		{math.MinInt, []int{1}, api.ErrArg},
		{math.MaxInt, []int{1}, api.ErrArg},
		{1, []int{-1}, api.ErrArg},
		{1, []int{1, -1}, api.ErrArg},
		{1, []int{2, -1}, api.ErrArg},
		{1, []int{1, most + 1}, api.ErrArg},
		{1, []int{math.MaxInt, 1}, api.ErrArg},
		{1, []int{math.MinInt, 1}, api.ErrArg},
		{1, make([]int, 65), api.ErrSize},  // before ErrZero
		{-1, make([]int, 65), api.ErrSize}, // before the ErrArg of n
		{1, slices.Repeat([]int{-1}, 65), api.ErrSize},
		{1, make([]int, 64), api.ErrZero},
	} {
		if got, e := frac.Share(c.n, c.w); len(got) != 0 || e != c.want {
			t.Errorf("Share %d %v: %v, error %d; want error %d", c.n, c.w, got, e, c.want)
		}
	}
	full := slices.Repeat([]int{most}, api.MaxTerms)
	want := slices.Repeat([]int{most / api.MaxTerms}, api.MaxTerms) // 64 divides 10^9
	if got, e := frac.Share(most, full); !slices.Equal(got, want) || e != api.OK {
		t.Errorf("Share of the greatest: %v, error %d", got, e)
	}
}
