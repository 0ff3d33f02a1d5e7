package cut_test

import (
	"fmt"
	"math"
	"math/big"
	"math/rand"
	"slices"
	"testing"

	"trank/api"
	"trank/cut"
)

// isBound is the definition, with exact sums.
func isBound(s sample, table []int) bool {
	l := allRects(len(s.b[0]), len(s.b))
	number := map[api.Rect]*big.Int{}
	for i, r := range l {
		if number[r] = big.NewInt(int64(table[i])); table[i] < 0 {
			return false
		}
	}
	for i, r := range l {
		for kind, k := range s.k {
			if ok, _ := s.fits(kind, r); ok && table[i] < k.Worth {
				return false
			}
		}
		for _, c := range cuts(r) {
			first, other := both(r, c.Op, c.Arg)
			if number[r].Cmp(new(big.Int).Add(number[first], number[other])) < 0 {
				return false
			}
		}
	}
	return true
}

func wantCheck(t *testing.T, s sample, table []int) bool {
	t.Helper()
	ok := isBound(s, table)
	want := 0
	if ok {
		want = table[slices.Index(allRects(len(s.b[0]), len(s.b)), s.whole())]
	}
	if n, got, e := cut.Check(s.b, s.k, table); n != want || got != ok || e != api.OK {
		t.Errorf("Check %v, %v: %d, %v, error %d; want %d, %v", s, table, n, got, e, want, ok)
	}
	return ok
}

// P5.4, P5.10: Prove makes a bound with Best for the whole board.
func TestProve(t *testing.T) {
	for _, s := range append(samples(100, 6), great()...) {
		table, e := cut.Prove(s.b, s.k)
		best, _ := cut.Best(s.b, s.k)
		if e != api.OK || len(table) != len(allRects(len(s.b[0]), len(s.b))) {
			t.Fatalf("Prove %v: %d numbers, error %d", s, len(table), e)
		}
		if len(table) < 1000 && !isBound(s, table) {
			t.Errorf("Prove %v: %v is no bound", s, table)
		}
		if n, ok, e := cut.Check(s.b, s.k, table); n != best || !ok || e != api.OK {
			t.Errorf("Check of Prove %v: %d, %v, error %d; want %d", s, n, ok, e, best)
		}
	}
}

// P5.4: all tables that differ in a number from a bound.
func TestCheckOfChangedTables(t *testing.T) {
	found := seen{}
	for _, s := range samples(40, 4) {
		table, _ := cut.Prove(s.b, s.k)
		for i := range table {
			for _, by := range []int{-1, 1, 5} {
				other := slices.Clone(table)
				other[i] += by
				found[fmt.Sprint(wantCheck(t, s, other))]++
			}
		}
	}
	found.want(t, 100, "true", "false")
}

// P5.4, P5.10: the number of any bound is at least the worth of each plan.
func TestCheckOfOtherBounds(t *testing.T) {
	random := rand.New(rand.NewSource(4))
	found := seen{}
	for _, s := range tiny(60) {
		all := s.allPlans(s.whole())
		for range 20 {
			table := randomTable(random, s)
			if !wantCheck(t, s, table) {
				found["no bound"]++
				continue
			}
			found["bound"]++
			n, _, _ := cut.Check(s.b, s.k, table)
			for _, p := range all {
				if s.worth(p) > n {
					t.Errorf("Check %v, %v: %d, but %v is worth %d", s, table, n, p, s.worth(p))
				}
			}
		}
	}
	found.want(t, 100, "bound", "no bound")
}

// randomTable has about as many numbers for each cell, so that it is sometimes a bound.
func randomTable(random *rand.Rand, s sample) []int {
	each, noise := random.Intn(12), random.Intn(3)
	var table []int
	for _, r := range allRects(len(s.b[0]), len(s.b)) {
		n := each * r.W * r.H
		if r.W*r.H > 1 {
			n += random.Intn(noise+1) * random.Intn(r.W*r.H)
		}
		table = append(table, n)
	}
	return table
}

// P5.4: sums that exceed an int, and numbers below 0.
func TestCheckOfGreatNumbers(t *testing.T) {
	two, four := sample{[]string{"11"}, nil}, sample{[]string{"1", "1", "1", "1"}, nil}
	for _, l := range [][]int{
		{math.MaxInt, math.MaxInt, math.MaxInt}, {math.MaxInt, math.MaxInt, 0}, {0, math.MaxInt, math.MaxInt}, {1, math.MaxInt, math.MaxInt}, {1 << 62, math.MaxInt, 1 << 62}, {1 << 62, math.MaxInt, 1<<62 - 1},
		{math.MaxInt, math.MaxInt, 1}, {math.MaxInt, 0, math.MaxInt}, {math.MaxInt, 0, 2}, {1 << 62, 0, 1 << 62}, {0, 0, 0}, {1, 1, 0}, {1, 1, 1}, {1, 2, 1}, {0, 5, 0},
		{-1, 0, 0}, {0, 0, -1}, {0, -1, 0}, {-1, -1, -1}, {math.MinInt, 0, 0}, {0, 0, math.MinInt}, {0, math.MinInt, 0}, {math.MinInt, math.MinInt, math.MinInt}, {math.MinInt, math.MaxInt, math.MinInt}, {-1, 0, 1}, {1, 0, -1},
	} {
		wantCheck(t, two, l)
	}
	for _, n := range []int{math.MaxInt, 1 << 62, math.MaxInt/4 + 1, math.MaxInt / 4, 0, -1} {
		wantCheck(t, four, slices.Repeat([]int{n}, 10))
		wantCheck(t, four, []int{n, 2 * n, 3 * n, 4 * n, n, 2 * n, 3 * n, n, 2 * n, n})
	}
	wantCheck(t, sample{[]string{"1"}, nil}, []int{math.MaxInt})
	wantCheck(t, sample{[]string{"1"}, []cut.Kind{kd(1, 1, 1, 1000000, false)}}, []int{999999})
	wantCheck(t, sample{[]string{"1"}, []cut.Kind{kd(1, 1, 1, 1, false), kd(1, 1, 1, 1000000, false)}}, []int{1000000})
}

// P5.4: ErrSize unless there is a number for each rectangle.
func TestCheckSize(t *testing.T) {
	for _, s := range append(examples(), great()...) {
		table, _ := cut.Prove(s.b, s.k)
		for _, l := range [][]int{nil, {}, table[1:], table[:len(table)-1], append(slices.Clone(table), 0), append(slices.Clone(table), -1), slices.Repeat(table, 2)} {
			n, ok, e := cut.Check(s.b, s.k, l)
			if e != api.ErrSize || n != 0 || ok {
				t.Errorf("Check %v of %d numbers: %d, %v, error %d", s, len(l), n, ok, e)
			}
		}
	}
}

// after is what the rest of a way depends on.
type after struct {
	r         api.Rect
	op, turns int
}

// strict is the definition: the greatest worth of a plan for r after a cut by op, if the direction may change so often from here.
func (s sample) strict(r api.Rect, op, turns int, done map[after]int) int {
	key := after{r, op, turns}
	if v, ok := done[key]; ok {
		return v
	}
	v := 0
	for i, k := range s.k {
		if ok, _ := s.fits(i, r); ok {
			v = max(v, k.Worth)
		}
	}
	for _, c := range cuts(r) {
		left := turns
		if op != 0 && op != c.Op {
			left--
		}
		if left >= 0 {
			first, other := both(r, c.Op, c.Arg)
			v = max(v, s.strict(first, c.Op, left, done)+s.strict(other, c.Op, left, done))
		}
	}
	done[key] = v
	return v
}

func wantStrict(t *testing.T, s sample, turns, want int) {
	t.Helper()
	v, e := cut.Strict(s.b, s.k, turns)
	wantNumber(t, fmt.Sprint("Strict ", s, " ", turns), v, e, want)
}

// P5.5: the greatest worth of all plans with so few turns.
func TestStrictOfAllPlans(t *testing.T) {
	for _, s := range tiny(60) {
		var best [6]int
		for _, p := range s.allPlans(s.whole()) {
			n, _ := turns(p, 0)
			for more := n; more < len(best); more++ {
				best[more] = max(best[more], s.worth(p))
			}
		}
		for turns, want := range best {
			wantStrict(t, s, turns, want)
		}
	}
}

// P5.5: larger boards, by definition.
func TestStrictOfOthers(t *testing.T) {
	found := seen{}
	for _, s := range samples(150, 6) {
		best := 0
		for turns := range 6 {
			want := s.strict(s.whole(), 0, turns, map[after]int{})
			wantStrict(t, s, turns, want)
			if want > best && turns > 0 {
				found[fmt.Sprint(turns)]++
			}
			best = want
		}
	}
	found.want(t, 2, "1", "2")
}

// nested needs a turn more for each ring: it takes a row off, then a column, and so on.
func nested(side int) sample {
	var k []cut.Kind
	for n := 1; n < side; n++ {
		k = append(k, kd(n+1, 1, 1, 1, false), kd(1, n, 1, 1, false))
	}
	return sample{full(side, side, "1"), k}
}

// P5.5: a plan of which each cut differs from the one before.
func TestStrictOfMostTurns(t *testing.T) {
	for side := 2; side <= 7; side++ {
		s := nested(side)
		for turns := range 2 * side {
			wantStrict(t, s, turns, s.strict(s.whole(), 0, turns, map[after]int{}))
		}
	}
}

// P5.12: Strict does not decrease with turns, is never above Best, and is Best with 32 turns.
func TestStrictOfMoreTurns(t *testing.T) {
	for _, s := range append(samples(20, 8), great()...) {
		best, _ := cut.Best(s.b, s.k)
		before := 0
		for turns := range 33 {
			v, e := cut.Strict(s.b, s.k, turns)
			if v < before || v > best || e != api.OK {
				t.Errorf("Strict %v %d: %d, error %d; %d of a turn less, Best %d", s, turns, v, e, before, best)
			}
			before = v
			if len(s.b) > 8 && turns == 3 {
				break
			}
		}
		wantStrict(t, s, 32, best)
	}
}

// Example 1; and P5.5: ErrArg unless turns is from 0 to 32.
func TestStrictTurns(t *testing.T) {
	s := example()
	for turns := range 33 {
		wantStrict(t, s, turns, 10)
	}
	for _, turns := range []int{-1, 33, 34, math.MinInt, math.MaxInt, 1 << 32} {
		v, e := cut.Strict(s.b, s.k, turns)
		wantError(t, fmt.Sprint("Strict ", turns), v, e, api.ErrArg)
	}
	l := sample{[]string{"11", "10"}, []cut.Kind{kd(2, 1, 1, 5, false), kd(1, 1, 1, 3, false)}}
	wantStrict(t, l, 0, 5) // no cuts in one direction free a single cell
	wantStrict(t, l, 1, 9)
}
