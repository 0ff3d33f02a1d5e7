package pair_test

import (
	"fmt"
	"math"
	"math/rand"
	"slices"
	"testing"

	"trank/api"
	"trank/pair"
)

const whole = 1000000000

// sample is two sides and a rule.
type sample struct {
	l, r []pair.Glove
	u    pair.Rule
}

func (s sample) String() string { return fmt.Sprint(s.l, " with ", s.r, " by ", s.u) }

func gl(shade, grain, thick, stretch int) pair.Glove { return pair.Glove{shade, grain, thick, stretch} }

func shades(l ...int) []pair.Glove {
	var gloves []pair.Glove
	for _, n := range l {
		gloves = append(gloves, gl(n, 0, 0, 0))
	}
	return gloves
}

// ofShade is a rule for the shade alone; the other measures must be alike.
func ofShade(weight, limit int) pair.Rule {
	return pair.Rule{Weight: gl(weight, 0, 0, 0), Limit: gl(limit, 0, 0, 0)}
}

func steps(n, first, step int) []pair.Glove {
	var l []pair.Glove
	for k := range n {
		l = append(l, gl(first+k*step, 0, 0, 0))
	}
	return l
}

// cost is the definition, measure by measure.
func cost(a, b pair.Glove, u pair.Rule) (int, bool) {
	sum := 0
	for _, n := range [][4]int{
		{a.Shade, b.Shade, u.Weight.Shade, u.Limit.Shade},
		{a.Grain, b.Grain, u.Weight.Grain, u.Limit.Grain},
		{a.Thick, b.Thick, u.Weight.Thick, u.Limit.Thick},
		{a.Stretch, b.Stretch, u.Weight.Stretch, u.Limit.Stretch},
	} {
		difference := n[0] - n[1]
		if difference < 0 {
			difference = -difference
		}
		if difference > n[3] {
			return 0, false
		}
		sum += difference * n[2]
	}
	return sum, true
}

// cost returns the cost of left glove i and right glove j.
func (s sample) cost(i, j int) (int, bool) { return cost(s.l[i], s.r[j], s.u) }

func (s sample) allows(i, j int) bool {
	_, ok := s.cost(i, j)
	return ok
}

// weight is what the definition says of a pairing.
type weight struct{ size, cost, dearest int }

// weigh returns false if m is no pairing.
func (s sample) weigh(m []int) (weight, bool) {
	var w weight
	used := map[int]bool{}
	for i, j := range m {
		if j == -1 {
			continue
		}
		if j < 0 || j >= len(s.r) || used[j] || !s.allows(i, j) {
			return weight{}, false
		}
		used[j] = true
		c, _ := s.cost(i, j)
		w = weight{w.size + 1, w.cost + c, max(w.dearest, c)}
	}
	return w, len(m) == len(s.l)
}

// allPairings are all pairings of small sides, the first ones first.
func (s sample) allPairings() [][]int {
	var all [][]int
	var extend func(m []int)
	extend = func(m []int) {
		if len(m) == len(s.l) {
			all = append(all, slices.Clone(m))
			return
		}
		for j := range s.r {
			if !slices.Contains(m, j) && s.allows(len(m), j) {
				extend(append(m, j))
			}
		}
		extend(append(m, -1))
	}
	extend(nil)
	return all
}

// answers are what a search of all pairings finds.
type answers struct {
	most, cost, even int
	cheapest         []int
}

func (s sample) answers() answers {
	var a answers
	for n, m := range s.allPairings() {
		w, _ := s.weigh(m)
		if n == 0 || w.size > a.most {
			a = answers{w.size, w.cost, w.dearest, m}
		}
		if w.size == a.most && w.cost < a.cost {
			a.cost, a.cheapest = w.cost, m
		}
		if w.size == a.most {
			a.even = min(a.even, w.dearest)
		}
	}
	return a
}

// firstCheapest finds the first of the cheapest pairings through all sets of right gloves.
func (s sample) firstCheapest() []int {
	sets := 1 << len(s.r)
	best := make([][]int, len(s.l)+1)
	best[len(s.l)] = make([]int, sets)
	for i := len(s.l) - 1; i >= 0; i-- {
		best[i] = slices.Clone(best[i+1])
		for j := range s.r {
			for used := range sets {
				if c, ok := s.cost(i, j); ok && used>>j&1 == 0 {
					best[i][used] = max(best[i][used], whole-c+best[i+1][used|1<<j])
				}
			}
		}
	}
	m := slices.Repeat([]int{-1}, len(s.l))
	used := 0
	for i := range m {
		for j := range s.r {
			c, ok := s.cost(i, j)
			if ok && used>>j&1 == 0 && best[i][used] == whole-c+best[i+1][used|1<<j] {
				m[i] = j
				used |= 1 << j
				break
			}
		}
	}
	return m
}

func (s sample) turned() sample { return sample{s.r, s.l, s.u} }

// examples are those of the document, and others of special shape.
func examples() []sample {
	u := ofShade(1, 10)
	return []sample{
		{shades(0, 5), shades(4, 20), u}, {shades(0, 10), shades(10, 0), u}, {shades(5, 5), shades(5, 5), u}, {shades(0, 8), shades(4, 12), u},
		{nil, nil, u}, {nil, shades(1, 2), u}, {shades(1, 2), nil, u}, {shades(1), shades(1), u}, {shades(1), shades(12), u}, {shades(1), shades(11), u},
		{shades(5, 4, 3), shades(5), u},                     // the last one only
		{shades(4, 5, 4, 6), shades(5, 5), u},               // the cheapest pairing leaves others single
		{shades(10, 20), shades(11, 1), u},                  // the stable pairing has half of the pairs
		{shades(0, 1, 2, 3), shades(2, 3, 1, 0), u},         // all may pair with all
		{shades(0, 2, 4, 6), shades(3, 5, 1, 7), u},         // ties all over
		{shades(3, 3, 3), shades(2, 4, 2, 4), u},            // alike
		{shades(0, 10, 20), shades(10, 20, 30), u},          // one chain
		{shades(0, 10, 20, 30), shades(10, 20, 30, 40), u},  // another, of one pairing
		{shades(10, 0, 20), shades(0, 10, 20, 30, 15), u},   // more right ones
		{shades(7, 7), shades(7, 7, 7), ofShade(0, 0)},      // no weight, no limit
		{shades(0, 1000), shades(1000, 0), ofShade(1, 999)}, // far apart
		{[]pair.Glove{gl(1, 2, 3, 4), gl(4, 3, 2, 1)}, []pair.Glove{gl(2, 3, 4, 5), gl(1, 1, 1, 1), gl(4, 4, 4, 4)}, pair.Rule{Weight: gl(1, 2, 3, 4), Limit: gl(3, 3, 3, 3)}},
	}
}

// randomGloves have measures that are often alike.
func randomGloves(random *rand.Rand, n int, spans [4]int) []pair.Glove {
	var l []pair.Glove
	for range n {
		l = append(l, gl(random.Intn(spans[0]+1), random.Intn(spans[1]+1), random.Intn(spans[2]+1), random.Intn(spans[3]+1)))
	}
	return l
}

func randomSpans(random *rand.Rand) [4]int {
	var spans [4]int
	for k := range spans {
		spans[k] = []int{0, 0, 1, 4, 12, 1000}[random.Intn(6)]
	}
	return spans
}

func randomRule(random *rand.Rand, spans [4]int) pair.Rule {
	var weights, limits [4]int
	for k, span := range spans {
		weights[k] = random.Intn([]int{1, 2, 3, 1001}[random.Intn(4)])
		limits[k] = min(1000, span/4+random.Intn(span+1))
	}
	return pair.Rule{Weight: pair.Glove{weights[0], weights[1], weights[2], weights[3]}, Limit: pair.Glove{limits[0], limits[1], limits[2], limits[3]}}
}

func randomSample(random *rand.Rand, lefts, rights int) sample {
	spans := randomSpans(random)
	return sample{randomGloves(random, lefts, spans), randomGloves(random, rights, spans), randomRule(random, spans)}
}

// samples are the examples and n others, with up to side gloves on each side.
func samples(n, side int) []sample {
	random := rand.New(rand.NewSource(int64(n * side)))
	l := examples()
	for range n {
		l = append(l, randomSample(random, random.Intn(side+1), random.Intn(side+1)))
	}
	return l
}

// great are samples at the limits.
func great() []sample {
	random := rand.New(rand.NewSource(32))
	far := pair.Rule{Weight: gl(1000, 1000, 1000, 1000), Limit: gl(1000, 1000, 1000, 1000)}
	thousand, nothing := slices.Repeat([]pair.Glove{gl(1000, 1000, 1000, 1000)}, 32), slices.Repeat([]pair.Glove{{}}, 32)
	l := []sample{
		{nothing, nothing, far}, {thousand, nothing, far}, {nothing, thousand[:7], far}, {thousand[:9], nothing, far}, {thousand, nothing, pair.Rule{}},
		{nothing, nil, far}, {nil, nothing, far}, {nothing[:1], thousand, far}, {thousand, nothing[:1], far},
		{steps(32, 0, 2), steps(32, 1, 2), ofShade(1, 1)}, {steps(32, 1, 2), steps(32, 0, 2), ofShade(1, 1)}, {steps(32, 0, 2), steps(31, 1, 2), ofShade(1, 1)},
		{steps(32, 0, 1), steps(32, 31, -1), ofShade(1, 1000)}, {steps(32, 0, 1), steps(32, 31, -1), ofShade(1, 3)}, {steps(32, 0, 31), steps(32, 40, 30), ofShade(1000, 40)},
	}
	for range 12 {
		l = append(l, randomSample(random, 32, 32), randomSample(random, 32-random.Intn(5), 32-random.Intn(5)))
	}
	return l
}

// cluster are indices of left and of right gloves that can be paired with each other alone.
type cluster struct{ left, right []int }

// clustered returns large sides that fall into clusters, for each of which everything can be searched.
func clustered(random *rand.Rand) (sample, []cluster) {
	s := sample{u: ofShade(random.Intn(3), 3+random.Intn(10))}
	clusters := make([]cluster, 8)
	for i := range 32 {
		left, right := random.Intn(8), random.Intn(8)
		if len(clusters[left].left) < 6 {
			clusters[left].left = append(clusters[left].left, len(s.l))
			s.l = append(s.l, gl(100*left+random.Intn(12), 0, 0, 0))
		}
		if len(clusters[right].right) < 6 && i < 30 {
			clusters[right].right = append(clusters[right].right, len(s.r))
			s.r = append(s.r, gl(100*right+random.Intn(12), 0, 0, 0))
		}
	}
	return s, clusters
}

func (s sample) only(c cluster) sample {
	part := sample{u: s.u}
	for _, i := range c.left {
		part.l = append(part.l, s.l[i])
	}
	for _, j := range c.right {
		part.r = append(part.r, s.r[j])
	}
	return part
}

// put puts a pairing of a cluster into one of the whole sides.
func (c cluster) put(m, into []int) {
	for i, j := range m {
		into[c.left[i]] = -1
		if j != -1 {
			into[c.left[i]] = c.right[j]
		}
	}
}

// strange are ints that are no measure, and mostly nothing else.
func strange() []int { return []int{-1, -2, 1001, 1002, 1 << 32, math.MinInt, math.MaxInt} }

// notGloves have one measure that is not valid.
func notGloves() []pair.Glove {
	var l []pair.Glove
	for _, n := range strange() {
		l = append(l, gl(n, 0, 0, 0), gl(1000, n, 1, 0), gl(0, 7, n, 0), gl(0, 0, 1000, n), gl(n, n, n, n))
	}
	return l
}

// notSides are slices that every function must refuse.
func notSides() [][]pair.Glove {
	l := [][]pair.Glove{slices.Repeat([]pair.Glove{{}}, 33), slices.Repeat([]pair.Glove{gl(1, 2, 3, 4)}, 34), slices.Repeat([]pair.Glove{{}}, 100000)}
	for n, bad := range notGloves() {
		if n%2 == 0 {
			l = append(l, []pair.Glove{bad}, append(shades(1, 2), bad))
		} else {
			l = append(l, append([]pair.Glove{bad}, shades(1, 2)...), append(slices.Repeat([]pair.Glove{{}}, 32), bad))
		}
	}
	return l
}

func notRules() []pair.Rule {
	var l []pair.Rule
	for _, bad := range notGloves() {
		l = append(l, pair.Rule{Weight: bad, Limit: gl(5, 5, 5, 5)}, pair.Rule{Weight: gl(1, 1, 1, 1), Limit: bad})
	}
	return l
}

func wantNumber(t *testing.T, what string, got int, e api.Errno, want int) {
	t.Helper()
	if got != want || e != api.OK {
		t.Errorf("%s: %d, error %d; want %d", what, got, e, want)
	}
}

func wantNumbers(t *testing.T, what string, got []int, e api.Errno, want []int) {
	t.Helper()
	if !slices.Equal(got, want) || e != api.OK {
		t.Errorf("%s: %v, error %d; want %v", what, got, e, want)
	}
}

func wantError(t *testing.T, what string, got any, e, want api.Errno) {
	t.Helper()
	if e != want || !isZero(got) {
		t.Errorf("%s: %v, error %d; want error %d", what, got, e, want)
	}
}

// seen counts how often something expected of the samples has been met.
type seen map[string]int

func (s seen) note(what string, is bool) {
	if is {
		s[what]++
	}
}

func (s seen) want(t *testing.T, least int, cases ...string) {
	t.Helper()
	for _, c := range cases {
		if s[c] < least {
			t.Errorf("%s: seen %d times only", c, s[c])
		}
	}
}
