package pair_test

import (
	"fmt"
	"math"
	"math/rand"
	"testing"

	"trank/api"
	"trank/pair"
)

func wantCost(t *testing.T, a, b pair.Glove, u pair.Rule, want int, allowed bool) {
	t.Helper()
	c, ok, e := pair.Cost(a, b, u)
	if c != want || ok != allowed || e != api.OK {
		t.Errorf("Cost of %v and %v by %v: %d, %v, error %d; want %d, %v", a, b, u, c, ok, e, want, allowed)
	}
}

// P6.1: each measure with its own weight and limit, and example 1.
func TestCost(t *testing.T) {
	u := pair.Rule{Weight: gl(1, 20, 300, 0), Limit: gl(4, 3, 2, 1)}
	for _, x := range []struct {
		b    pair.Glove
		want int
		ok   bool
	}{
		{gl(10, 10, 10, 10), 0, true}, {gl(11, 10, 10, 10), 1, true}, {gl(10, 11, 10, 10), 20, true}, {gl(10, 10, 11, 10), 300, true}, {gl(10, 10, 10, 11), 0, true},
		{gl(14, 10, 10, 10), 4, true}, {gl(10, 13, 10, 10), 60, true}, {gl(10, 10, 12, 10), 600, true}, {gl(6, 7, 8, 9), 664, true}, {gl(14, 13, 12, 11), 664, true}, {gl(14, 7, 12, 9), 664, true},
		{gl(15, 10, 10, 10), 0, false}, {gl(10, 14, 10, 10), 0, false}, {gl(10, 10, 13, 10), 0, false}, {gl(10, 10, 10, 12), 0, false}, {gl(5, 10, 10, 10), 0, false}, {gl(10, 6, 10, 10), 0, false},
		{gl(10, 10, 7, 10), 0, false}, {gl(10, 10, 10, 8), 0, false}, {gl(15, 14, 13, 12), 0, false}, {gl(11, 11, 11, 12), 0, false}, {gl(1000, 1000, 1000, 1000), 0, false}, {gl(0, 0, 0, 0), 0, false},
	} {
		wantCost(t, gl(10, 10, 10, 10), x.b, u, x.want, x.ok)
		wantCost(t, x.b, gl(10, 10, 10, 10), u, x.want, x.ok)
	}
	for _, x := range [][4]int{{0, 4, 4, 1}, {5, 4, 1, 1}, {0, 20, 0, 0}, {5, 20, 0, 0}, {0, 10, 10, 1}, {0, 11, 0, 0}} {
		wantCost(t, gl(x[0], 0, 0, 0), gl(x[1], 0, 0, 0), ofShade(1, 10), x[2], x[3] == 1)
	}
}

// P6.1: the greatest cost, and limits that nothing exceeds or nothing meets.
func TestCostAtTheLimits(t *testing.T) {
	most, least := gl(1000, 1000, 1000, 1000), pair.Glove{}
	wantCost(t, most, least, pair.Rule{Weight: most, Limit: most}, 4000000, true)
	wantCost(t, least, most, pair.Rule{Weight: most, Limit: most}, 4000000, true)
	wantCost(t, least, most, pair.Rule{Weight: most, Limit: gl(1000, 1000, 1000, 999)}, 0, false)
	wantCost(t, least, most, pair.Rule{Weight: least, Limit: most}, 0, true)
	wantCost(t, most, most, pair.Rule{Weight: most, Limit: least}, 0, true)
	wantCost(t, least, gl(0, 1, 0, 0), pair.Rule{}, 0, false)
	wantCost(t, least, least, pair.Rule{}, 0, true)
}

// P6.1: other gloves, by definition.
func TestCostOfOthers(t *testing.T) {
	random := rand.New(rand.NewSource(1))
	found := seen{}
	for range 3000 {
		s := randomSample(random, 1, 1)
		c, ok := s.cost(0, 0)
		wantCost(t, s.l[0], s.r[0], s.u, c, ok)
		found[fmt.Sprint(ok)]++
	}
	found.want(t, 500, "true", "false")
}

// P6.1: ErrArg of each measure of each argument.
func TestCostErrors(t *testing.T) {
	for _, bad := range notGloves() {
		for _, x := range []struct {
			a, b pair.Glove
			u    pair.Rule
		}{
			{bad, pair.Glove{}, ofShade(1, 10)}, {pair.Glove{}, bad, ofShade(1, 10)}, {bad, bad, ofShade(1, 10)}, {pair.Glove{}, pair.Glove{}, pair.Rule{Weight: bad}}, {pair.Glove{}, pair.Glove{}, pair.Rule{Limit: bad}},
			{gl(0, 0, 0, 0), gl(900, 0, 0, 0), pair.Rule{Weight: bad}}, {bad, bad, pair.Rule{Weight: bad, Limit: bad}},
		} {
			c, ok, e := pair.Cost(x.a, x.b, x.u)
			wantError(t, fmt.Sprint("Cost ", x), two{c, ok}, e, api.ErrArg)
		}
	}
}

func wantWeigh(t *testing.T, s sample, m []int) bool {
	t.Helper()
	w, ok := s.weigh(m)
	size, total, e := pair.Weigh(s.l, s.r, s.u, m)
	if !ok {
		wantError(t, fmt.Sprint("Weigh ", s, m), two{size, total}, e, api.ErrForm)
		return false
	}
	if size != w.size || total != w.cost || e != api.OK {
		t.Errorf("Weigh %v, %v: %d, %d, error %d; want %d, %d", s, m, size, total, e, w.size, w.cost)
	}
	return true
}

// P6.2: all slices of indices of small sides, with indices that are none.
func TestWeighOfAllSlices(t *testing.T) {
	found := seen{}
	for _, s := range samples(60, 3) {
		if len(s.l) > 3 {
			continue
		}
		all := [][]int{nil}
		for range s.l {
			var longer [][]int
			for _, m := range all {
				for j := -2; j <= len(s.r); j++ {
					longer = append(longer, append(append([]int{}, m...), j))
				}
			}
			all = longer
		}
		for _, m := range all {
			found[fmt.Sprint(wantWeigh(t, s, m))]++
		}
	}
	found.want(t, 300, "true", "false")
}

// P6.2: large pairings, and the greatest cost.
func TestWeighOfLargePairings(t *testing.T) {
	for _, s := range great() {
		m, _ := pair.Cheapest(s.l, s.r, s.u)
		wantWeigh(t, s, m)
		n, _ := pair.Stable(s.l, s.r, s.u)
		wantWeigh(t, s, n)
		for i := range m {
			m[i] = -1
		}
		wantWeigh(t, s, m)
	}
	s := great()[1]
	size, total, e := pair.Weigh(s.l, s.r, s.u, identity(32))
	if size != 32 || total != 128000000 || e != api.OK {
		t.Errorf("Weigh of the dearest pairs: %d, %d, error %d", size, total, e)
	}
}

func identity(n int) []int {
	var l []int
	for i := range n {
		l = append(l, i)
	}
	return l
}

// P6.2: ErrForm case by case, and ErrSize before it.
func TestWeighErrors(t *testing.T) {
	s := sample{shades(0, 8, 30), shades(4, 12, 31), ofShade(1, 10)}
	for _, m := range [][]int{
		{0, 0, -1}, {-1, 2, 2}, {1, -1, -1}, {0, 2, -1}, {3, -1, -1}, {-2, -1, -1}, {-1, -1, -2}, {-1, -1, 3}, {-1, -1, 32}, {-1, 33, -1}, {math.MinInt, -1, -1}, {math.MaxInt, -1, -1}, {-1, -1, 1 << 32}, {2, 1, 0},
	} {
		size, total, e := pair.Weigh(s.l, s.r, s.u, m)
		wantError(t, fmt.Sprint("Weigh ", m), two{size, total}, e, api.ErrForm)
	}
	for _, m := range [][]int{nil, {}, {0}, {0, 1}, {0, 1, 2, -1}, {-1, -1, -1, -1}, {5}, {0, 0}, {-9, -9, -9, -9}, make([]int, 32), make([]int, 33), make([]int, 100000)} {
		size, total, e := pair.Weigh(s.l, s.r, s.u, m)
		wantError(t, fmt.Sprint("Weigh ", len(m)), two{size, total}, e, api.ErrSize)
	}
	if size, total, e := pair.Weigh(s.l, s.r, s.u, []int{0, 1, 2}); size != 3 || total != 9 || e != api.OK {
		t.Errorf("Weigh: %d, %d, error %d", size, total, e)
	}
}
