package cut_test

import (
	"fmt"
	"math"
	"math/rand"
	"slices"
	"strings"
	"testing"

	"trank/api"
	"trank/cut"
)

const (
	waste      = 0
	piece      = 1
	vertical   = 2
	horizontal = 3
)

func rc(x, y, w, h int) api.Rect { return api.Rect{X: x, Y: y, W: w, H: h} }

func kd(w, h, grade, worth int, turn bool) cut.Kind {
	return cut.Kind{W: w, H: h, Grade: grade, Worth: worth, Turn: turn}
}

func node(op, arg int, turned bool) cut.Node { return cut.Node{Op: op, Arg: arg, Turned: turned} }

// full returns a board of one grade.
func full(w, h int, grade string) []string {
	return slices.Repeat([]string{strings.Repeat(grade, w)}, h)
}

func with(b []string, x, y int, grade byte) []string {
	b = slices.Clone(b)
	row := []byte(b[y])
	row[x] = grade
	b[y] = string(row)
	return b
}

// sample is a board with its kinds.
type sample struct {
	b []string
	k []cut.Kind
}

func (s sample) String() string { return fmt.Sprintf("%q %v", s.b, s.k) }

func (s sample) whole() api.Rect { return rc(0, 0, len(s.b[0]), len(s.b)) }

// example is the one of the document.
func example() sample {
	return sample{[]string{"11", "11"}, []cut.Kind{kd(2, 1, 1, 5, false), kd(1, 1, 1, 2, false)}}
}

// examples are those of the document, and others of special shape.
func examples() []sample {
	two := example().k
	return []sample{
		example(), {[]string{"10", "11"}, two}, {[]string{"111"}, []cut.Kind{kd(1, 3, 1, 4, true)}}, {[]string{"111"}, []cut.Kind{kd(1, 3, 1, 4, false)}},
		{[]string{"11", "11"}, nil}, {[]string{"0"}, two}, {[]string{"1"}, two}, {[]string{"9"}, []cut.Kind{kd(1, 1, 9, 3, true)}}, {[]string{"8"}, []cut.Kind{kd(1, 1, 9, 3, true)}},
		{[]string{"11", "11"}, []cut.Kind{kd(2, 2, 1, 4, true), kd(1, 1, 1, 1, true)}},                                                  // the piece before its cuts
		{[]string{"11", "11"}, []cut.Kind{kd(1, 2, 1, 4, false), kd(2, 1, 1, 4, false)}},                                                // the vertical cut first
		{[]string{"11", "11"}, []cut.Kind{kd(2, 1, 1, 4, true), kd(1, 2, 1, 4, true)}},                                                  // alike but for the direction
		{[]string{"111"}, []cut.Kind{kd(1, 1, 1, 2, false), kd(1, 1, 1, 2, false), kd(1, 1, 1, 1, false)}},                              // the first of those alike
		{[]string{"111"}, []cut.Kind{kd(2, 1, 1, 3, false)}},                                                                            // the first cut of several
		{[]string{"111", "111", "111"}, []cut.Kind{kd(1, 2, 1, 3, true), kd(1, 1, 1, 1, false)}},                                        // pinwheels are no plans
		{[]string{"1112", "1222", "2221"}, []cut.Kind{kd(2, 1, 2, 9, true), kd(2, 1, 1, 4, true), kd(1, 1, 1, 1, false)}},               // grades
		{[]string{"1111", "1111", "1111", "1111"}, []cut.Kind{kd(3, 2, 1, 7, true), kd(2, 1, 1, 2, false), kd(4, 1, 1, 1000000, true)}}, // great worths
	}
}

func randomBoard(random *rand.Rand, w, h int) []string {
	level := random.Intn(10)
	var b []string
	for range h {
		row := make([]byte, w)
		for x := range row {
			row[x] = '5'
			if random.Intn(10) < level {
				row[x] = '0' + byte(random.Intn(10))
			}
		}
		b = append(b, string(row))
	}
	return b
}

// randomKinds are n kinds with sides up to side; their worths are such that no one of them outdoes all others.
func randomKinds(random *rand.Rand, n, side int) []cut.Kind {
	var k []cut.Kind
	for range n {
		w, h := 1+random.Intn(side), 1+random.Intn(side)
		k = append(k, kd(w, h, 1+random.Intn(6), w*h*(2+random.Intn(2))+random.Intn(2), random.Intn(2) == 0))
	}
	return k
}

// samples are the examples and n others, with sides up to side.
func samples(n, side int) []sample {
	random := rand.New(rand.NewSource(int64(n * side)))
	l := examples()
	for range n {
		l = append(l, sample{randomBoard(random, 1+random.Intn(side), 1+random.Intn(side)), randomKinds(random, random.Intn(6), min(side, 4))})
	}
	return l
}

// tiny are samples with few enough plans to go through all of them.
func tiny(n int) []sample {
	random := rand.New(rand.NewSource(int64(n)))
	var l []sample
	for _, s := range examples() {
		if len(s.b)*len(s.b[0]) <= 6 {
			l = append(l, s)
		}
	}
	for range n {
		w := 1 + random.Intn(4)
		h := 1 + random.Intn(min(4, 6/w))
		l = append(l, sample{randomBoard(random, w, h), randomKinds(random, random.Intn(4), 3)})
	}
	return l
}

// great are samples at the limits.
func great() []sample {
	random := rand.New(rand.NewSource(16))
	l := []sample{
		{full(16, 16, "9"), slices.Repeat([]cut.Kind{kd(1, 1, 9, 1000000, true)}, 12)}, {full(16, 16, "0"), []cut.Kind{kd(1, 1, 1, 1, true)}},
		{full(16, 1, "3"), []cut.Kind{kd(1, 5, 3, 7, true), kd(16, 16, 1, 1, false)}}, {full(1, 16, "3"), []cut.Kind{kd(1, 5, 3, 7, true), kd(16, 16, 1, 1, false)}},
		{full(16, 16, "1"), []cut.Kind{kd(16, 16, 1, 1, false)}},
	}
	for range 3 {
		l = append(l, sample{randomBoard(random, 16, 16), randomKinds(random, 12, 6)}, sample{with(full(16, 15, "5"), 7, 7, '0'), randomKinds(random, 12, 7)})
	}
	return l
}

// notBoards are slices that every function of a board must refuse.
func notBoards() map[string][]string {
	return map[string][]string{
		"nil": nil, "empty": {}, "an empty row": {""}, "empty rows": {"", ""},
		"17 rows": full(1, 17, "1"), "17 columns": full(17, 1, "1"), "17 by 17": full(17, 17, "1"), "16 by 17": full(16, 17, "1"), "17 by 16": full(17, 16, "1"),
		"48 by 48": full(48, 48, "1"), "49 by 49": full(49, 49, "1"), "1000 rows": full(1, 1000, "1"), "1000 columns": full(1000, 1, "1"),
		"a row longer": {"11", "111"}, "a row shorter": {"11", "1"}, "a letter": {"1a"}, "a space": {"11", "1 "}, "a slash": {"/"}, "a colon": {":"}, "a byte 0": {"\x00"}, "two bytes": {"é"},
	}
}

// notKinds are slices that every function of kinds must refuse.
func notKinds() map[string][]cut.Kind {
	ok := kd(1, 1, 1, 1, false)
	l := map[string][]cut.Kind{"13 kinds": slices.Repeat([]cut.Kind{ok}, 13), "1000 kinds": slices.Repeat([]cut.Kind{ok}, 1000)}
	for _, turn := range []bool{false, true} {
		for _, bad := range []cut.Kind{
			{}, kd(0, 1, 1, 1, turn), kd(-1, 1, 1, 1, turn), kd(17, 1, 1, 1, turn), kd(math.MinInt, 1, 1, 1, turn), kd(math.MaxInt, 1, 1, 1, turn),
			kd(1, 0, 1, 1, turn), kd(1, -1, 1, 1, turn), kd(1, 17, 1, 1, turn), kd(1, math.MinInt, 1, 1, turn), kd(1, math.MaxInt, 1, 1, turn),
			kd(1, 1, 0, 1, turn), kd(1, 1, -1, 1, turn), kd(1, 1, 10, 1, turn), kd(1, 1, math.MinInt, 1, turn), kd(1, 1, math.MaxInt, 1, turn),
			kd(1, 1, 1, 0, turn), kd(1, 1, 1, -1, turn), kd(1, 1, 1, 1000001, turn), kd(1, 1, 1, math.MinInt, turn), kd(1, 1, 1, math.MaxInt, turn),
		} {
			l[fmt.Sprint("first ", bad)] = []cut.Kind{bad, ok, ok}
			l[fmt.Sprint("last ", bad)] = []cut.Kind{ok, ok, bad}
		}
	}
	return l
}

// allRects are all rectangles within w by h cells, in the order of rectangles.
func allRects(w, h int) []api.Rect {
	var l []api.Rect
	for y := range h {
		for x := range w {
			for rw := 1; x+rw <= w; rw++ {
				for rh := 1; y+rh <= h; rh++ {
					l = append(l, rc(x, y, rw, rh))
				}
			}
		}
	}
	return l
}

// fits reports whether a kind fits r, and turned.
func (s sample) fits(kind int, r api.Rect) (bool, bool) {
	k := s.k[kind]
	same, swapped := r.W == k.W && r.H == k.H, r.W == k.H && r.H == k.W
	if !same && !(k.Turn && swapped) {
		return false, false
	}
	for y := r.Y; y < r.Y+r.H; y++ {
		for x := r.X; x < r.X+r.W; x++ {
			if int(s.b[y][x]-'0') < k.Grade {
				return false, false
			}
		}
	}
	return true, !same
}

// both returns the parts of a cut.
func both(r api.Rect, op, at int) (api.Rect, api.Rect) {
	if op == vertical {
		return rc(r.X, r.Y, at, r.H), rc(r.X+at, r.Y, r.W-at, r.H)
	}
	return rc(r.X, r.Y, r.W, at), rc(r.X, r.Y+at, r.W, r.H-at)
}

// cuts are all cuts of r: vertical ones first, by rising Arg.
func cuts(r api.Rect) []cut.Node {
	var l []cut.Node
	for at := 1; at < r.W; at++ {
		l = append(l, node(vertical, at, false))
	}
	for at := 1; at < r.H; at++ {
		l = append(l, node(horizontal, at, false))
	}
	return l
}

// allPlans are all plans for r, by definition.
func (s sample) allPlans(r api.Rect) [][]cut.Node {
	l := [][]cut.Node{{node(waste, 0, false)}}
	for i := range s.k {
		if ok, turned := s.fits(i, r); ok {
			l = append(l, []cut.Node{node(piece, i, turned)})
		}
	}
	for _, c := range cuts(r) {
		first, other := both(r, c.Op, c.Arg)
		others := s.allPlans(other)
		for _, p := range s.allPlans(first) {
			for _, q := range others {
				l = append(l, slices.Concat([]cut.Node{c}, p, q))
			}
		}
	}
	return l
}

func (s sample) worth(p []cut.Node) int {
	worth := 0
	for _, n := range p {
		if n.Op == piece {
			worth += s.k[n.Arg].Worth
		}
	}
	return worth
}

// turns returns the most changes of direction on a way of a plan, and the nodes after it; op is that of the cut before.
func turns(p []cut.Node, op int) (int, []cut.Node) {
	n, after := p[0], p[1:]
	if n.Op < vertical {
		return 0, after
	}
	first, after := turns(after, n.Op)
	other, after := turns(after, n.Op)
	if op != 0 && op != n.Op {
		return max(first, other) + 1, after
	}
	return max(first, other), after
}

// oracle computes greatest worths by definition, each one once.
type oracle struct {
	s    sample
	best map[api.Rect]int
}

func newOracle(s sample) oracle { return oracle{s, map[api.Rect]int{}} }

func (o oracle) worth(r api.Rect) int {
	if v, ok := o.best[r]; ok {
		return v
	}
	v := 0
	for i, k := range o.s.k {
		if ok, _ := o.s.fits(i, r); ok {
			v = max(v, k.Worth)
		}
	}
	for _, c := range cuts(r) {
		first, other := both(r, c.Op, c.Arg)
		v = max(v, o.worth(first)+o.worth(other))
	}
	o.best[r] = v
	return v
}

// plan is made by the document's rule.
func (o oracle) plan(r api.Rect) []cut.Node {
	v := o.worth(r)
	if v == 0 {
		return []cut.Node{node(waste, 0, false)}
	}
	for i, k := range o.s.k {
		if ok, turned := o.s.fits(i, r); ok && k.Worth == v {
			return []cut.Node{node(piece, i, turned)}
		}
	}
	for _, c := range cuts(r) {
		first, other := both(r, c.Op, c.Arg)
		if o.worth(first)+o.worth(other) == v {
			return slices.Concat([]cut.Node{c}, o.plan(first), o.plan(other))
		}
	}
	return nil
}

func wantNumber(t *testing.T, what string, got int, e api.Errno, want int) {
	t.Helper()
	if got != want || e != api.OK {
		t.Errorf("%s: %d, error %d; want %d", what, got, e, want)
	}
}

func wantNumbers(t *testing.T, what string, got []int, e api.Errno, want []int) {
	t.Helper()
	if !slices.Equal(got, want) || e != api.OK {
		t.Errorf("%s: %v, error %d; want %v", what, got, e, want)
	}
}

func wantError(t *testing.T, what string, got any, e, want api.Errno) {
	t.Helper()
	if e != want || !isZero(got) {
		t.Errorf("%s: %v, error %d; want error %d", what, got, e, want)
	}
}

// seen counts how often something expected of the samples has been met.
type seen map[string]int

func (s seen) want(t *testing.T, least int, cases ...string) {
	t.Helper()
	for _, c := range cases {
		if s[c] < least {
			t.Errorf("%s: seen %d times only", c, s[c])
		}
	}
}
