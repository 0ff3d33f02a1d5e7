package pair_test

import (
	"fmt"
	"math"
	"slices"
	"testing"

	"trank/api"
	"trank/pair"
)

// prefers is the definition: left glove i prefers right glove j to k, or to none.
func (s sample) prefers(i, j, k int) bool {
	c, ok := s.cost(i, j)
	if !ok {
		return false
	}
	if k == -1 {
		return true
	}
	d, other := s.cost(i, k)
	return !other || c < d || c == d && j < k
}

// blocking is the definition.
func (s sample) blocking(m []int) [][2]int {
	o := s.turned()
	var l [][2]int
	for i := range s.l {
		for j := range s.r {
			if s.allows(i, j) && m[i] != j && s.prefers(i, j, m[i]) && o.prefers(j, i, slices.Index(m, j)) {
				l = append(l, [2]int{i, j})
			}
		}
	}
	return l
}

// proposals makes a stable pairing: each left glove asks the right ones, those that it prefers first, and a right one leaves its partner for one that it prefers.
func (s sample) proposals() []int {
	o := s.turned()
	m, asked := slices.Repeat([]int{-1}, len(s.l)), make([]map[int]bool, len(s.l))
	for i := 0; i < len(s.l); i++ {
		best := -1
		for j := range s.r {
			if s.allows(i, j) && !asked[i][j] && (best == -1 || s.prefers(i, j, best)) {
				best = j
			}
		}
		if m[i] != -1 || best == -1 {
			continue
		}
		if asked[i] == nil {
			asked[i] = map[int]bool{}
		}
		asked[i][best] = true
		if k := slices.Index(m, best); o.prefers(best, i, k) {
			if k != -1 {
				m[k] = -1
			}
			m[i] = best
		}
		i = -1
	}
	return m
}

func wantBlocking(t *testing.T, s sample, m []int) [][2]int {
	t.Helper()
	want := s.blocking(m)
	l, e := pair.Blocking(s.l, s.r, s.u, m)
	if !slices.Equal(l, want) || e != api.OK {
		t.Errorf("Blocking %v, %v: %v, error %d; want %v", s, m, l, e, want)
	}
	return l
}

// P6.7: the blocking pairs of all pairings, and the stable one that all left gloves prefer.
func TestStableOfAllPairings(t *testing.T) {
	found := seen{}
	for _, s := range samples(600, 4) {
		var stable [][]int
		for _, m := range s.allPairings() {
			l := wantBlocking(t, s, m)
			if len(l) == 0 {
				stable = append(stable, m)
			}
			found[fmt.Sprint(min(len(l), 3))]++
		}
		m, e := pair.Stable(s.l, s.r, s.u)
		isStable := slices.ContainsFunc(stable, func(other []int) bool { return slices.Equal(m, other) })
		if !isStable || e != api.OK {
			t.Fatalf("Stable %v: %v, error %d; those are %v", s, m, e, stable)
		}
		for _, other := range stable {
			for i := range m {
				if other[i] != m[i] && !s.prefers(i, m[i], other[i]) {
					t.Errorf("Stable %v: %v, but left glove %d prefers %v", s, m, i, other)
				}
			}
		}
		cheapest, _ := pair.Cheapest(s.l, s.r, s.u)
		found.note("not the cheapest", !slices.Equal(m, cheapest))
	}
	found.want(t, 100, "0", "1", "2", "3")
	found.want(t, 20, "not the cheapest")
}

// P6.7, P6.13: large sides, by proposals; at least half of Most are paired.
func TestStableOfLargeSides(t *testing.T) {
	for _, s := range append(samples(300, 14), great()...) {
		m, e := pair.Stable(s.l, s.r, s.u)
		wantNumbers(t, fmt.Sprint("Stable ", s), m, e, s.proposals())
		w, ok := s.weigh(m)
		most, _ := pair.Most(s.l, s.r, s.u)
		if l := wantBlocking(t, s, m); !ok || len(l) > 0 || 2*w.size < most {
			t.Errorf("Stable %v: %v of size %d, blocked by %v; most %d", s, m, w.size, l, most)
		}
		other, _ := pair.Cheapest(s.l, s.r, s.u)
		wantBlocking(t, s, other)
		wantBlocking(t, s, slices.Repeat([]int{-1}, len(s.l)))
	}
}

// P6.7: case by case, with the examples of the document.
func TestStableExamples(t *testing.T) {
	u := ofShade(1, 10)
	for _, x := range []struct {
		l, r []pair.Glove
		want []int
	}{
		{shades(0, 10), shades(10, 0), []int{1, 0}}, {shades(5, 5), shades(5, 5), []int{0, 1}}, {shades(10, 20), shades(11, 1), []int{0, -1}}, {shades(0, 5), shades(4, 20), []int{-1, 0}},
		{shades(0, 8), shades(4, 12), []int{0, 1}}, {shades(5, 5, 5), shades(6, 4), []int{0, 1, -1}}, {shades(5), shades(6, 4), []int{0}}, {nil, shades(1), nil}, {shades(1), nil, []int{-1}}, {shades(1), shades(12), []int{-1}},
	} {
		m, e := pair.Stable(x.l, x.r, u)
		wantNumbers(t, fmt.Sprint("Stable ", x), m, e, x.want)
	}
	l, r := shades(0, 8), shades(4, 12)
	for _, x := range []struct {
		m    []int
		want [][2]int
	}{
		{[]int{-1, 0}, [][2]int{{0, 0}}}, {[]int{-1, -1}, [][2]int{{0, 0}, {1, 0}, {1, 1}}}, {[]int{0, -1}, [][2]int{{1, 1}}}, {[]int{-1, 1}, [][2]int{{0, 0}, {1, 0}}}, {[]int{0, 1}, nil},
	} {
		got, e := pair.Blocking(l, r, u, x.m)
		if !slices.Equal(got, x.want) || e != api.OK {
			t.Errorf("Blocking %v: %v, error %d; want %v", x.m, got, e, x.want)
		}
	}
}

// P6.7: ErrSize and ErrForm as of Weigh.
func TestBlockingErrors(t *testing.T) {
	s := sample{shades(0, 8, 30), shades(4, 12, 31), ofShade(1, 10)}
	for _, m := range [][]int{{0, 0, -1}, {1, -1, -1}, {3, -1, -1}, {-2, -1, -1}, {-1, -1, math.MaxInt}, {-1, math.MinInt, -1}, {-1, -1, 32}} {
		l, e := pair.Blocking(s.l, s.r, s.u, m)
		wantError(t, fmt.Sprint("Blocking ", m), l, e, api.ErrForm)
	}
	for _, m := range [][]int{nil, {}, {0, 1}, {0, 0}, {0, 1, 2, -1}, {-9, -9, -9, -9}, make([]int, 100000)} {
		l, e := pair.Blocking(s.l, s.r, s.u, m)
		wantError(t, fmt.Sprint("Blocking ", len(m)), l, e, api.ErrSize)
	}
}
