package pair_test

import (
	"fmt"
	"math"
	"math/rand"
	"slices"
	"testing"

	"trank/api"
	"trank/pair"
)

func sum(l ...[]int) int {
	n := 0
	for _, price := range slices.Concat(l...) {
		n += price
	}
	return n
}

// isProof is the definition.
func (s sample) isProof(a, b []int) bool {
	for i := range s.l {
		for j := range s.r {
			if c, ok := s.cost(i, j); ok && a[i]+b[j] < whole-c {
				return false
			}
		}
	}
	return true
}

func wantWorth(t *testing.T, s sample, a, b []int) bool {
	t.Helper()
	ok, want := s.isProof(a, b), 0
	if ok {
		want = sum(a, b)
	}
	if n, got, e := pair.Worth(s.l, s.r, s.u, a, b); n != want || got != ok || e != api.OK {
		t.Errorf("Worth %v, %v, %v: %d, %v, error %d; want %d, %v", s, a, b, n, got, e, want, ok)
	}
	return ok
}

// P6.5, P6.11: Prices are a proof whose sum is the worth of Cheapest. Since no proof has a lower sum, none of the prices can be lower.
func TestPrices(t *testing.T) {
	for _, s := range append(samples(500, 12), great()...) {
		m, _ := pair.Cheapest(s.l, s.r, s.u)
		w, _ := s.weigh(m)
		a, b, e := pair.Prices(s.l, s.r, s.u)
		if e != api.OK || len(a) != len(s.l) || len(b) != len(s.r) || !s.isProof(a, b) || sum(a, b) != whole*w.size-w.cost {
			t.Errorf("Prices %v: %v, %v, error %d; Cheapest %v", s, a, b, e, m)
		}
		for _, price := range slices.Concat(a, b) {
			if price < 0 || price > whole {
				t.Errorf("Prices %v: %v, %v", s, a, b)
			}
		}
		wantWorth(t, s, a, b)
		for _, side := range [][]int{a, b} {
			for k := range side {
				if side[k] == 0 {
					continue
				}
				side[k]--
				if wantWorth(t, s, a, b) {
					t.Errorf("Prices %v: a lower proof is %v, %v", s, a, b)
				}
				side[k]++
			}
		}
	}
}

// P6.5, P6.11: any prices; those that are a proof sum to the worth of any pairing at least.
func TestWorthOfAnyPrices(t *testing.T) {
	random := rand.New(rand.NewSource(5))
	found := seen{}
	for _, s := range samples(60, 4) {
		worth := 0
		for _, m := range s.allPairings() {
			w, _ := s.weigh(m)
			worth = max(worth, whole*w.size-w.cost)
		}
		for range 30 {
			a, b := s.randomPrices(random)
			ok := wantWorth(t, s, a, b)
			found[fmt.Sprint(ok)]++
			if n, _, _ := pair.Worth(s.l, s.r, s.u, a, b); ok && n < worth {
				t.Errorf("Worth %v, %v, %v: %d, but a pairing is worth %d", s, a, b, n, worth)
			}
		}
	}
	found.want(t, 200, "true", "false")
}

// randomPrices are sometimes a proof.
func (s sample) randomPrices(random *rand.Rand) ([]int, []int) {
	a, b, _ := pair.Prices(s.l, s.r, s.u)
	for _, side := range [][]int{a, b} {
		for k := range side {
			switch random.Intn(5) {
			case 0:
				side[k] = whole - random.Intn(3)
			case 1:
				side[k] = max(0, side[k]-random.Intn(20))
			case 2:
				side[k] = min(whole, side[k]+random.Intn(20))
			}
		}
	}
	return a, b
}

// P6.5: the greatest and the least prices; pairs that are not allowed ask for nothing.
func TestWorthAtTheLimits(t *testing.T) {
	for _, s := range append(examples(), great()...) {
		zeroA, zeroB := make([]int, len(s.l)), make([]int, len(s.r))
		fullA, fullB := slices.Repeat([]int{whole}, len(s.l)), slices.Repeat([]int{whole}, len(s.r))
		wantWorth(t, s, zeroA, zeroB)
		wantWorth(t, s, fullA, fullB)
		wantWorth(t, s, fullA, zeroB)
		wantWorth(t, s, zeroA, fullB)
	}
	if n, ok, e := pair.Worth(great()[4].l, great()[4].r, great()[4].u, make([]int, 32), make([]int, 32)); n != 0 || !ok || e != api.OK {
		t.Errorf("Worth of nothing: %d, %v, error %d", n, ok, e)
	}
	s := sample{shades(0, 8), shades(4, 12), ofShade(1, 10)}
	for _, x := range []struct {
		a, b []int
		n    int
	}{
		{[]int{whole - 4, whole - 4}, []int{0, 0}, 2*whole - 8}, {[]int{whole - 5, whole - 4}, []int{0, 0}, 0}, {[]int{whole - 4, whole - 5}, []int{0, 0}, 0}, {[]int{whole - 4, 0}, []int{whole - 4, whole - 4}, 3*whole - 12},
		{[]int{0, 0}, []int{whole - 4, whole - 4}, 2*whole - 8}, {[]int{0, 0}, []int{whole - 4, whole - 5}, 0}, {[]int{0, 4}, []int{whole - 4, whole - 8}, 2*whole - 8}, {[]int{0, 3}, []int{whole - 4, whole - 8}, 0},
	} {
		if n, ok, e := pair.Worth(s.l, s.r, s.u, x.a, x.b); n != x.n || ok != (x.n > 0) || e != api.OK {
			t.Errorf("Worth %v, %v: %d, %v, error %d; want %d", x.a, x.b, n, ok, e, x.n)
		}
	}
}

// P6.5: ErrSize of both slices, whatever they have, and ErrArg of what they have.
func TestWorthErrors(t *testing.T) {
	s := sample{shades(0, 8), shades(4, 12, 16), ofShade(1, 10)}
	a, b := []int{whole, whole}, []int{whole, whole, whole}
	for _, x := range []struct{ a, b []int }{
		{nil, b}, {a, nil}, {nil, nil}, {a[:1], b}, {a, b[:2]}, {b, b}, {a, a}, {b, a}, {[]int{-1}, b}, {[]int{-1, 0, 0}, b}, {a, []int{-1, -1}}, {a, []int{whole + 1}}, {[]int{-1, -1}, []int{0, 0}},
		{[]int{math.MinInt}, []int{math.MaxInt}}, {a, make([]int, 32)}, {make([]int, 33), b}, {make([]int, 100000), make([]int, 100000)},
	} {
		n, ok, e := pair.Worth(s.l, s.r, s.u, x.a, x.b)
		wantError(t, fmt.Sprint("Worth of ", len(x.a), len(x.b)), two{n, ok}, e, api.ErrSize)
	}
	for _, bad := range []int{-1, whole + 1, math.MinInt, math.MaxInt, 1 << 32} {
		for k := range 5 {
			prices := slices.Concat(a, b)
			prices[k] = bad
			for _, low := range []bool{false, true} {
				if low {
					prices = make([]int, 5)
					prices[k] = bad
				}
				n, ok, e := pair.Worth(s.l, s.r, s.u, prices[:2], prices[2:])
				wantError(t, fmt.Sprint("Worth ", prices), two{n, ok}, e, api.ErrArg)
			}
		}
	}
}
