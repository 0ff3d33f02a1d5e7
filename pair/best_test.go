package pair_test

import (
	"fmt"
	"math/rand"
	"slices"
	"testing"

	"trank/api"
	"trank/pair"
)

func wantMost(t *testing.T, s sample, want int) {
	t.Helper()
	n, e := pair.Most(s.l, s.r, s.u)
	wantNumber(t, fmt.Sprint("Most ", s), n, e, want)
}

func wantEven(t *testing.T, s sample, want int) {
	t.Helper()
	n, e := pair.Even(s.l, s.r, s.u)
	wantNumber(t, fmt.Sprint("Even ", s), n, e, want)
}

func wantCheapest(t *testing.T, s sample, want []int) {
	t.Helper()
	m, e := pair.Cheapest(s.l, s.r, s.u)
	wantNumbers(t, fmt.Sprint("Cheapest ", s), m, e, want)
}

// wantCover checks that the gloves of Cover are Most many, and that each allowed pair has one of them.
func wantCover(t *testing.T, s sample) {
	t.Helper()
	most, _ := pair.Most(s.l, s.r, s.u)
	a, b, e := pair.Cover(s.l, s.r, s.u)
	ok := e == api.OK && len(a)+len(b) == most && areIndices(a, len(s.l)) && areIndices(b, len(s.r))
	for i := range s.l {
		for j := range s.r {
			ok = ok && (!s.allows(i, j) || slices.Contains(a, i) || slices.Contains(b, j))
		}
	}
	if !ok {
		t.Errorf("Cover %v: %v, %v, error %d; most %d", s, a, b, e, most)
	}
}

// areIndices reports whether b has rising indices of n gloves.
func areIndices(b []int, n int) bool {
	for k, i := range b {
		if i < 0 || i >= n || k > 0 && b[k-1] >= i {
			return false
		}
	}
	return true
}

// The examples of the document.
func TestExamplesOfPairings(t *testing.T) {
	for n, x := range []struct {
		most, even int
		cheapest   []int
	}{{1, 1, []int{-1, 0}}, {2, 0, []int{1, 0}}, {2, 0, []int{0, 1}}, {2, 4, []int{0, 1}}} {
		s := examples()[n]
		wantMost(t, s, x.most)
		wantEven(t, s, x.even)
		wantCheapest(t, s, x.cheapest)
		wantCover(t, s)
	}
}

// P6.3, P6.4, P6.6, P6.10: the answers of a search of all pairings.
func TestAllPairings(t *testing.T) {
	found := seen{}
	for _, s := range samples(1500, 5) {
		a := s.answers()
		wantMost(t, s, a.most)
		wantCheapest(t, s, a.cheapest)
		wantEven(t, s, a.even)
		wantCover(t, s)
		w, _ := s.weigh(a.cheapest)
		found.note("gloves are left", a.most < min(len(s.l), len(s.r)))
		found.note("the most is 0", a.most == 0 && len(s.l) > 0 && len(s.r) > 0)
		found.note("a left glove without a partner before one that has one", slices.Index(a.cheapest, -1) >= 0 && a.cheapest[len(s.l)-1] >= 0)
		found.note("the cheapest is not even", a.even < w.dearest)
		found.note("even costs", a.even > 0)
	}
	found.want(t, 30, "gloves are left", "the most is 0", "a left glove without a partner before one that has one", "the cheapest is not even", "even costs")
}

// P6.4: the first of the cheapest pairings, through all sets of right gloves.
func TestCheapestOfMore(t *testing.T) {
	found := seen{}
	for _, s := range samples(400, 10) {
		m := s.firstCheapest()
		wantCheapest(t, s, m)
		wantCover(t, s)
		greedy := s.greedy()
		found.note("the first that is free", slices.Equal(greedy, m))
		found.note("another one", !slices.Equal(greedy, m))
	}
	found.want(t, 50, "the first that is free", "another one")
}

// greedy gives each left glove in turn the cheapest right one that is left.
func (s sample) greedy() []int {
	m := slices.Repeat([]int{-1}, len(s.l))
	for i := range s.l {
		least := 4000001
		for j := range s.r {
			if c, ok := s.cost(i, j); ok && c < least && !slices.Contains(m, j) {
				least, m[i] = c, j
			}
		}
	}
	return m
}

// P6.3, P6.4, P6.6, P6.7: large sides that fall into clusters have the answers of these.
func TestClusters(t *testing.T) {
	random := rand.New(rand.NewSource(8))
	for range 150 {
		s, clusters := clustered(random)
		cheapest, stable := make([]int, len(s.l)), make([]int, len(s.l))
		most, even := 0, 0
		for _, c := range clusters {
			part := s.only(c)
			m := part.firstCheapest()
			w, _ := part.weigh(m)
			most += w.size
			even = max(even, part.leastDearest(w))
			c.put(m, cheapest)
			c.put(part.proposals(), stable)
		}
		wantCheapest(t, s, cheapest)
		wantMost(t, s, most)
		wantEven(t, s, even)
		wantCover(t, s)
		m, e := pair.Stable(s.l, s.r, s.u)
		wantNumbers(t, fmt.Sprint("Stable ", s), m, e, stable)
	}
}

// leastDearest is the definition of Even: the least cost to which a pairing of the greatest size can be kept. The weight of a cheapest pairing is given.
func (s sample) leastDearest(w weight) int {
	for most := range w.dearest {
		limited := s
		limited.u.Limit.Shade = -1
		for shade := range s.u.Limit.Shade + 1 {
			if shade*s.u.Weight.Shade <= most {
				limited.u.Limit.Shade = shade
			}
		}
		if v, _ := limited.weigh(limited.firstCheapest()); v.size == w.size {
			return most
		}
	}
	return w.dearest
}

// P6.3, P6.10: the cover of large sides proves Most, and Cheapest has that size.
func TestLargeSides(t *testing.T) {
	for _, s := range great() {
		most, e := pair.Most(s.l, s.r, s.u)
		m, _ := pair.Cheapest(s.l, s.r, s.u)
		if w, ok := s.weigh(m); !ok || w.size != most || e != api.OK {
			t.Errorf("Most %v: %d, error %d; Cheapest %v of size %d", s, most, e, m, w.size)
		}
		wantCover(t, s)
	}
	for n, want := range []int{32, 32, 7, 9, 0, 0, 0, 1, 1, 32, 32, 31, 32, 32} {
		wantMost(t, great()[n], want)
	}
}

// P6.4: the first of very many cheapest pairings.
func TestFirstOfMany(t *testing.T) {
	all := great()
	none := slices.Repeat([]int{-1}, 32)
	for n, want := range [][]int{
		identity(32), identity(32), append(identity(7), none[7:]...), identity(9), none, none, nil, {0}, append([]int{0}, none[1:]...),
		identity(32), identity(32), append(identity(31), -1), backward(32),
	} {
		wantCheapest(t, all[n], want)
	}
	// In steps of 2 each left glove lies between two right ones: only the first one's choice is free.
	wantCheapest(t, sample{steps(31, 1, 2), steps(32, 0, 2), ofShade(1, 1)}, identity(31))
	wantCheapest(t, sample{steps(31, 1, 2), steps(32, 62, -2), ofShade(1, 1)}, backward(31))
	wantCheapest(t, sample{shades(8, 7, 8, 7), slices.Repeat(shades(8, 7), 3), ofShade(5, 1)}, []int{0, 1, 2, 3})
}

func backward(n int) []int {
	l := identity(n)
	slices.Reverse(l)
	return l
}

// P6.6: where the shade alone counts, Even is the least limit at which Most is the same.
func TestEvenOfLargeSides(t *testing.T) {
	random := rand.New(rand.NewSource(6))
	found := seen{}
	for range 40 {
		spans := [4]int{[]int{30, 200, 1000}[random.Intn(3)], 0, 0, 0}
		s := sample{randomGloves(random, 32, spans), randomGloves(random, 20+random.Intn(13), spans), ofShade(1, random.Intn(spans[0]))}
		most, _ := pair.Most(s.l, s.r, s.u)
		limited := s
		for limited.u.Limit.Shade = 0; ; limited.u.Limit.Shade++ {
			if n, _ := pair.Most(limited.l, limited.r, limited.u); n == most {
				break
			}
		}
		wantEven(t, s, limited.u.Limit.Shade)
		s.u.Weight.Shade = 1000
		wantEven(t, s, 1000*limited.u.Limit.Shade)
		found.note("below the limit", limited.u.Limit.Shade < s.u.Limit.Shade)
	}
	found.want(t, 20, "below the limit")
	wantEven(t, great()[1], 4000000)
	wantEven(t, great()[4], 0)
	wantEven(t, great()[5], 0)
}

// P6.12: exchanging the sides.
func TestExchangedSides(t *testing.T) {
	for _, s := range append(samples(200, 14), great()...) {
		o := s.turned()
		most, _ := pair.Most(s.l, s.r, s.u)
		even, _ := pair.Even(s.l, s.r, s.u)
		m, _ := pair.Cheapest(s.l, s.r, s.u)
		w, _ := s.weigh(m)
		wantMost(t, o, most)
		wantEven(t, o, even)
		n, e := pair.Cheapest(o.l, o.r, o.u)
		if v, ok := o.weigh(n); !ok || e != api.OK || v.size != w.size || v.cost != w.cost {
			t.Errorf("Cheapest %v: %v, error %d; %v with exchanged sides", o, n, e, m)
		}
	}
}

// P6.15: with greater limits Most does not decrease.
func TestGreaterLimits(t *testing.T) {
	found := seen{}
	for _, s := range append(samples(200, 14), great()...) {
		most, _ := pair.Most(s.l, s.r, s.u)
		for _, by := range []pair.Glove{gl(1, 0, 0, 0), gl(0, 1, 0, 0), gl(0, 0, 1, 0), gl(0, 0, 0, 1), gl(5, 5, 5, 5), gl(1000, 1000, 1000, 1000)} {
			o := s
			o.u.Limit = gl(min(1000, s.u.Limit.Shade+by.Shade), min(1000, s.u.Limit.Grain+by.Grain), min(1000, s.u.Limit.Thick+by.Thick), min(1000, s.u.Limit.Stretch+by.Stretch))
			n, e := pair.Most(o.l, o.r, o.u)
			if n < most || e != api.OK {
				t.Errorf("Most %v: %d, error %d; %d with the limits %v", o, n, e, most, s.u.Limit)
			}
			found.note("more", n > most)
		}
		all := s
		all.u.Limit = gl(1000, 1000, 1000, 1000)
		wantMost(t, all, min(len(s.l), len(s.r)))
	}
	found.want(t, 100, "more")
}
