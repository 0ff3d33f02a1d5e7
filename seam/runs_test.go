package seam_test

import (
	"fmt"
	"math"
	"math/rand"
	"slices"
	"testing"

	"trank/api"
	"trank/seam"
)

// sewn is how far a sewing has come: the seams sewn, and the joint and the thread of its last run.
type sewn struct{ seams, at, thread int }

// fewest is the least number of runs of all sewings of a small graph: all that n runs can come to, then n+1.
func fewest(g seam.Graph) int {
	reached := map[sewn]bool{{0, -1, -1}: true}
	for n := 0; ; n++ {
		work := []sewn{}
		for x := range reached {
			work = append(work, x)
		}
		for len(work) > 0 {
			x := work[0]
			work = work[1:]
			if x.seams == 1<<len(g.Seams)-1 {
				return n
			}
			for i, s := range g.Seams {
				for _, m := range []seam.Move{mv(i), back(i)} {
					next := sewn{x.seams | 1<<i, ends(g, m)[1], s.Thread}
					if x.seams>>i&1 == 0 && x.thread == s.Thread && x.at == ends(g, m)[0] && !reached[next] {
						reached[next] = true
						work = append(work, next)
					}
				}
			}
		}
		begun := map[sewn]bool{}
		for x := range reached {
			for i, s := range g.Seams {
				if x.seams>>i&1 == 0 {
					begun[sewn{x.seams | 1<<i, s.B, s.Thread}] = true
					begun[sewn{x.seams | 1<<i, s.A, s.Thread}] = true
				}
			}
		}
		reached = begun
	}
}

// byDegrees is the number of P7.9.
func byDegrees(g seam.Graph) int {
	n := 0
	for thread := range 8 {
		isIn := ofThread(g, thread)
		done := map[int]bool{}
		for j := range g.N {
			if done[j] || degree(g, j, isIn) == 0 {
				continue
			}
			odd := 0
			for other := range reached(g, j, isIn) {
				done[other] = true
				odd += degree(g, other, isIn) % 2
			}
			n += max(1, odd/2)
		}
	}
	return n
}

// P7.2: no sewing of a small graph has fewer runs.
func TestFewestOfAllSewings(t *testing.T) {
	seen := seen{}
	for _, g := range samples(300, 6, 7) {
		want := fewest(g)
		n, e := seam.Fewest(g)
		wantNumber(t, fmt.Sprint("Fewest ", g), n, e, want)
		if by := byDegrees(g); by != want {
			t.Errorf("%v: %d runs by the degrees, %d by all sewings", g, by, want)
		}
		seen.note("none", want == 0)
		seen.note("one", want == 1 && len(g.Seams) > 3)
		seen.note("several", want > 2 && want < len(g.Seams))
		seen.note("a run each", want > 2 && want == len(g.Seams))
	}
	seen.want(t, 5, "none", "one", "several", "a run each")
}

// P7.2, P7.9: Runs is a sewing with the number of runs that the joints of odd degree need.
func TestRuns(t *testing.T) {
	seen := seen{}
	for _, g := range append(samples(600, 16, 64), great()...) {
		runs, e := seam.Runs(g)
		n, fewestE := seam.Fewest(g)
		if want := byDegrees(g); len(runs) != want || n != want || e != api.OK || fewestE != api.OK {
			t.Fatalf("Runs %v: %d, error %d; Fewest: %d, error %d; want %d", g, len(runs), e, n, fewestE, want)
		}
		if !isSewing(g, runs) {
			t.Fatalf("Runs %v: %v is no sewing", g, runs)
		}
		if ok, e := seam.Sews(g, runs); !ok || e != api.OK {
			t.Fatalf("Sews %v %v: %v, error %d", g, runs, ok, e)
		}
		seen.note("many", n > 10)
		seen.note("eight at a thread", n == 8 && len(oddOnes(g, ofThread(g, g.Seams[0].Thread))) == 16)
		seen.note("a long one", slices.ContainsFunc(runs, func(run []seam.Move) bool { return len(run) > 40 }))
	}
	seen.want(t, 1, "many", "eight at a thread", "a long one")
}

// P7.2: the document's examples, and others that can be counted by hand.
func TestFewestExamples(t *testing.T) {
	for _, x := range []struct {
		g    seam.Graph
		want int
	}{
		{triangle(), 1}, {triangle(sm(0, 2, 7, 1)), 2}, {single(), 1}, {gr(1), 0}, {gr(16), 0}, {triangle(sm(0, 2, 7, 0)), 1}, {triangle(sm(0, 2, 7, 0), sm(1, 1, 1, 0)), 1},
		{star(3, 0), 8}, {wheel(), 8}, {ladder(), 8}, {chain(), 1}, {threads8(), 8}, {gr(4, sm(0, 1, 1, 0), sm(2, 3, 1, 0)), 2}, {gr(2, sm(0, 0, 1, 0), sm(1, 1, 1, 0)), 2},
	} {
		n, e := seam.Fewest(x.g)
		wantNumber(t, fmt.Sprint("Fewest ", x.g), n, e, x.want)
	}
}

// P7.2: what is a sewing.
func TestSewsExamples(t *testing.T) {
	g := triangle(sm(0, 2, 7, 1))
	first := []seam.Move{mv(0), mv(1), mv(2)}
	for _, x := range []struct {
		g    seam.Graph
		runs [][]seam.Move
		want bool
	}{
		{gr(3), nil, true}, {gr(3), [][]seam.Move{}, true}, {gr(3), [][]seam.Move{{}}, false}, {gr(3), [][]seam.Move{nil}, false}, {gr(3), [][]seam.Move{{mv(0)}}, false},
		{g, [][]seam.Move{first, {mv(3)}}, true}, {g, [][]seam.Move{{mv(3)}, first}, true}, {g, [][]seam.Move{{back(3)}, first}, true}, {g, [][]seam.Move{{back(2), back(1), back(0)}, {mv(3)}}, true}, {g, [][]seam.Move{{mv(1), mv(2), mv(0)}, {mv(3)}}, true},
		{g, [][]seam.Move{{mv(0)}, {mv(2)}, {mv(3)}, {back(1)}}, true}, {g, [][]seam.Move{{mv(0), mv(1)}, {back(2)}, {mv(3)}}, true},
		{g, [][]seam.Move{first}, false}, {g, [][]seam.Move{{mv(3)}}, false}, {g, nil, false}, {g, [][]seam.Move{first, {mv(3)}, {}}, false}, {g, [][]seam.Move{nil, first, {mv(3)}}, false}, // none missing, no empty run
		{g, [][]seam.Move{first, {mv(3), back(3)}}, false}, {g, [][]seam.Move{first, {mv(3)}, {mv(0)}}, false}, {g, [][]seam.Move{first, {mv(3)}, {mv(3)}}, false}, {g, [][]seam.Move{{mv(0), back(0)}, {mv(1), mv(2)}}, false}, // none twice
		{g, [][]seam.Move{{mv(0), mv(1), mv(2), mv(3)}}, false}, {g, [][]seam.Move{{mv(0), mv(1), back(3), back(2)}}, false}, {g, [][]seam.Move{{mv(0), mv(1)}, {mv(3), mv(2)}}, false}, // no other thread
		{g, [][]seam.Move{{mv(0), mv(2), mv(1)}, {mv(3)}}, false}, {g, [][]seam.Move{{mv(0), back(1), mv(2)}, {mv(3)}}, false}, {g, [][]seam.Move{{mv(0), mv(1), back(2)}, {mv(3)}}, false}, {g, [][]seam.Move{{back(0), mv(1), mv(2)}, {mv(3)}}, false}, // no jumps
		{gr(1, sm(0, 0, 1, 0), sm(0, 0, 1, 0)), [][]seam.Move{{back(1), mv(0)}}, true}, {gr(2, sm(0, 0, 1, 0), sm(0, 1, 1, 0)), [][]seam.Move{{back(1), back(0)}}, true}, {gr(2, sm(0, 0, 1, 0), sm(0, 1, 1, 0)), [][]seam.Move{{mv(1), mv(0)}}, false},
	} {
		if got, e := seam.Sews(x.g, x.runs); got != x.want || isSewing(x.g, x.runs) != x.want || e != api.OK {
			t.Errorf("Sews %v %v: %v, error %d; want %v", x.g, x.runs, got, e, x.want)
		}
	}
}

// P7.2: an index that is no seam's makes runs no sewing.
func TestSewsOtherIndices(t *testing.T) {
	for _, i := range append(strange(), 3, 4, 63, 64, math.MinInt+1) {
		for _, runs := range [][][]seam.Move{{{mv(i)}}, {{mv(0), mv(1), mv(i)}}, {{mv(0), mv(1), mv(2)}, {back(i)}}, {{mv(i), mv(0), mv(1), mv(2)}}, {{mv(0), mv(1), mv(2), mv(i)}}} {
			if got, e := seam.Sews(triangle(), runs); got || e != api.OK {
				t.Errorf("Sews %v: %v, error %d", runs, got, e)
			}
		}
	}
}

// changed returns runs with something else in a place.
func changed(random *rand.Rand, runs [][]seam.Move, seams int) [][]seam.Move {
	var l [][]seam.Move
	for _, run := range runs {
		l = append(l, slices.Clone(run))
	}
	if len(l) == 0 {
		return [][]seam.Move{{mv(random.Intn(3) - 1)}}
	}
	k, other := random.Intn(len(l)), random.Intn(len(l))
	at := random.Intn(len(l[k]))
	switch random.Intn(9) {
	case 0:
		l[k][at].Back = !l[k][at].Back
	case 1:
		l[k][at].Seam = random.Intn(seams+2) - 1
	case 2:
		l[k] = slices.Delete(l[k], at, at+1)
	case 3:
		l = append(l, l[k][at:])
		l[k] = l[k][:at]
	case 4:
		l[k] = append(l[k], l[other]...)
		l = slices.Delete(l, other, other+1)
	case 5:
		l[k], l[other] = l[other], l[k]
	case 6:
		slices.Reverse(l[k])
		for i := range l[k] {
			l[k][i].Back = !l[k][i].Back
		}
	case 7:
		l[k] = append(l[k][at:], l[k][:at]...)
	case 8:
		l = append(l, []seam.Move{l[k][at]})
	}
	return l
}

// P7.2: whether runs are a sewing, by the definition.
func TestSews(t *testing.T) {
	random := rand.New(rand.NewSource(3))
	seen := seen{}
	for _, g := range append(samples(500, 6, 10), great()...) {
		runs, _ := seam.Runs(g)
		for range 20 {
			l := changed(random, runs, len(g.Seams))
			want := isSewing(g, l)
			if got, e := seam.Sews(g, l); got != want || e != api.OK {
				t.Fatalf("Sews %v %v: %v, error %d; want %v", g, l, got, e, want)
			}
			seen.note("a sewing", want)
			seen.note("none", !want)
		}
	}
	seen.want(t, 1000, "a sewing", "none")
}
