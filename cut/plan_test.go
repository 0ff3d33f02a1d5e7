package cut_test

import (
	"slices"
	"testing"

	"trank/api"
	"trank/cut"
	"trank/skin"
)

func wantPlan(t *testing.T, s sample, want []cut.Node) {
	t.Helper()
	if p, e := cut.Plan(s.b, s.k); !slices.Equal(p, want) || e != api.OK {
		t.Errorf("Plan %v: %v, error %d; want %v", s, p, e, want)
	}
}

func wantBest(t *testing.T, s sample, want int) {
	t.Helper()
	v, e := cut.Best(s.b, s.k)
	wantNumber(t, "Best "+s.String(), v, e, want)
}

// Examples 1 to 3.
func TestPlansOfTheExamples(t *testing.T) {
	l := examples()
	wantBest(t, l[0], 10)
	wantPlan(t, l[0], []cut.Node{node(horizontal, 1, false), node(piece, 0, false), node(piece, 0, false)})
	wantBest(t, l[1], 7)
	wantPlan(t, l[1], []cut.Node{node(horizontal, 1, false), node(vertical, 1, false), node(piece, 1, false), node(waste, 0, false), node(piece, 0, false)})
	wantBest(t, l[2], 4)
	wantPlan(t, l[2], []cut.Node{node(piece, 0, true)})
	wantBest(t, l[3], 0)
	wantPlan(t, l[3], []cut.Node{node(waste, 0, false)})
}

// P5.2: which plan it is where several are worth most.
func TestPlanIsMadeByTheRule(t *testing.T) {
	l := examples()
	wantPlan(t, l[9], []cut.Node{node(piece, 0, false)})
	wantPlan(t, l[10], []cut.Node{node(vertical, 1, false), node(piece, 0, false), node(piece, 0, false)})
	wantPlan(t, l[11], []cut.Node{node(vertical, 1, false), node(piece, 0, true), node(piece, 0, true)})
	wantPlan(t, l[12], []cut.Node{node(vertical, 1, false), node(piece, 0, false), node(vertical, 1, false), node(piece, 0, false), node(piece, 0, false)})
	wantPlan(t, l[13], []cut.Node{node(vertical, 1, false), node(waste, 0, false), node(piece, 0, false)})
}

// P5.2: Best is the greatest worth of all plans.
func TestBestOfAllPlans(t *testing.T) {
	for _, s := range tiny(150) {
		best := 0
		for _, p := range s.allPlans(s.whole()) {
			best = max(best, s.worth(p))
		}
		wantBest(t, s, best)
	}
}

// P5.2, P5.9: the plan by the rule; its worth is Best.
func TestPlanOfOthers(t *testing.T) {
	found := seen{}
	for _, s := range append(samples(300, 7), great()...) {
		o := newOracle(s)
		want := o.plan(s.whole())
		wantBest(t, s, o.worth(s.whole()))
		wantPlan(t, s, want)
		if _, worth, e := cut.Read(s.b, s.k, want); worth != o.worth(s.whole()) || e != api.OK {
			t.Errorf("Read of Plan %v: %d, error %d; want %d", s, worth, e, o.worth(s.whole()))
		}
		for _, n := range want {
			found[[]string{"waste", "piece", "vertical", "horizontal"}[n.Op]]++
			if n.Turned {
				found["turned"]++
			}
		}
	}
	found.want(t, 100, "waste", "piece", "vertical", "horizontal", "turned")
}

// P5.9: the pieces lie within the board, do not overlap, and each fits its rectangle.
func TestPiecesOfPlan(t *testing.T) {
	for _, s := range append(samples(100, 9), great()...) {
		p, _ := cut.Plan(s.b, s.k)
		pieces, _, e := cut.Read(s.b, s.k, p)
		if e != api.OK {
			t.Errorf("Read of Plan %v: error %d", s, e)
		}
		covered := map[[2]int]bool{}
		for _, one := range pieces {
			if ok, turned := s.fits(one.Kind, one.At); !ok || turned != one.Turned {
				t.Errorf("Read of Plan %v: %v does not fit", s, one)
			}
			for y := one.At.Y; y < one.At.Y+one.At.H; y++ {
				for x := one.At.X; x < one.At.X+one.At.W; x++ {
					if covered[[2]int{x, y}] {
						t.Errorf("Read of Plan %v: two pieces at %d, %d", s, x, y)
					}
					covered[[2]int{x, y}] = true
				}
			}
		}
	}
}

// Chapter 5, 'Terms': of a kind with W = H, and of one without Turn, Turned is false; a turned kind needs its grade too.
func TestTurning(t *testing.T) {
	square, turning, fixed := kd(2, 2, 1, 9, true), kd(3, 2, 1, 9, true), kd(3, 2, 1, 9, false)
	for _, c := range []struct {
		s    sample
		want []cut.Node
	}{
		{sample{full(2, 2, "1"), []cut.Kind{square}}, []cut.Node{node(piece, 0, false)}},
		{sample{full(3, 2, "1"), []cut.Kind{turning}}, []cut.Node{node(piece, 0, false)}},
		{sample{full(2, 3, "1"), []cut.Kind{turning}}, []cut.Node{node(piece, 0, true)}},
		{sample{full(3, 2, "1"), []cut.Kind{fixed}}, []cut.Node{node(piece, 0, false)}},
		{sample{full(2, 3, "1"), []cut.Kind{fixed}}, []cut.Node{node(waste, 0, false)}},
		{sample{with(full(2, 3, "1"), 1, 2, '0'), []cut.Kind{turning}}, []cut.Node{node(waste, 0, false)}},
		{sample{with(full(3, 2, "1"), 0, 1, '0'), []cut.Kind{turning}}, []cut.Node{node(waste, 0, false)}},
		{sample{full(2, 3, "4"), []cut.Kind{kd(3, 2, 5, 9, true), kd(3, 2, 4, 8, true)}}, []cut.Node{node(piece, 1, true)}},
	} {
		wantPlan(t, c.s, c.want)
	}
}

// P5.11: Best does not decrease when a kind is added, or a grade of the board increases.
func TestBestOfMore(t *testing.T) {
	found := seen{}
	for n, s := range samples(150, 6) {
		v, _ := cut.Best(s.b, s.k)
		add := kd(1+n%3, 1+n%2, 1+n%5, 1+n%7, n%2 == 0)
		for at := range len(s.k) + 1 {
			more, e := cut.Best(s.b, slices.Insert(slices.Clone(s.k), at, add))
			if more < v || e != api.OK {
				t.Errorf("Best %v with %v: %d, error %d; was %d", s, add, more, e, v)
			}
			if more > v {
				found["a better kind"]++
			}
		}
		x, y := n%len(s.b[0]), n/3%len(s.b)
		more, e := cut.Best(with(s.b, x, y, min(s.b[y][x]+3, '9')), s.k)
		if more < v || e != api.OK {
			t.Errorf("Best %v with a greater grade at %d, %d: %d, error %d; was %d", s, x, y, more, e, v)
		}
		if more > v {
			found["a better grade"]++
		}
	}
	found.want(t, 5, "a better kind", "a better grade")
}

// P5.11: it is the same for the board mirrored, also upside down; and turned with all kinds turned.
func TestBestOfTheBoardMirrored(t *testing.T) {
	for _, s := range samples(100, 7) {
		v, _ := cut.Best(s.b, s.k)
		mirrored, _ := skin.Mirror(s.b)
		wantBest(t, sample{mirrored, s.k}, v)
		around, _ := skin.Turn(s.b, 2)
		wantBest(t, sample{around, s.k}, v)
		turned, _ := skin.Turn(s.b, 1)
		kinds := slices.Clone(s.k)
		for i, k := range kinds {
			kinds[i].W, kinds[i].H = k.H, k.W
		}
		wantBest(t, sample{turned, kinds}, v)
	}
}
