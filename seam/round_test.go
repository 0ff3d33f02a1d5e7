package seam_test

import (
	"fmt"
	"slices"
	"testing"

	"trank/api"
	"trank/seam"
)

// gone is how far a round has come: the seams that occur in it, and its last joint.
type gone struct{ seams, at int }

// searchRound goes through all walks of a small graph by their length, and returns the least length of a round; -1 if there is none. The seam once occurs just once.
func searchRound(g seam.Graph, from, once int) int {
	waiting := map[int][]gone{0: {{0, from}}}
	done := map[gone]bool{}
	for length, left := 0, 1; left > 0; length++ {
		for k := 0; k < len(waiting[length]); k++ {
			x := waiting[length][k]
			left--
			if done[x] {
				continue
			}
			done[x] = true
			if x == (gone{1<<len(g.Seams) - 1, from}) {
				return length
			}
			for i, s := range g.Seams {
				for _, m := range []seam.Move{mv(i), back(i)} {
					if l := ends(g, m); l[0] == x.at && (i != once || x.seams>>i&1 == 0) {
						waiting[length+s.Len] = append(waiting[length+s.Len], gone{x.seams | 1<<i, l[1]})
						left++
					}
				}
			}
		}
		delete(waiting, length)
	}
	return -1
}

// shorter returns the graph with lengths up to longest.
func shorter(g seam.Graph, longest int) seam.Graph {
	g.Seams = slices.Clone(g.Seams)
	for i := range g.Seams {
		g.Seams[i].Len = 1 + g.Seams[i].Len%longest
	}
	return g
}

// doubling is the least length of seams that have an odd number of ends just at the joints of odd degree, of all sets of seams.
func doubling(g seam.Graph) int {
	const none = 1 << 40
	least := slices.Repeat([]int{none}, 1<<g.N)
	least[0] = 0
	target := 0
	for _, s := range g.Seams {
		turned := 1<<s.A ^ 1<<s.B
		target ^= turned
		next := slices.Clone(least)
		for set, n := range least {
			next[set^turned] = min(next[set^turned], n+s.Len)
		}
		least = next
	}
	return least[target]
}

func isRoundable(g seam.Graph, from int) bool {
	found := reached(g, from, all)
	return !slices.ContainsFunc(g.Seams, func(s seam.Seam) bool { return !found[s.A] || !found[s.B] })
}

// wantTour checks that Tour is a round and has the length, as Round says.
func wantTour(t *testing.T, g seam.Graph, from, want int) {
	t.Helper()
	n, e := seam.Round(g, from)
	wantNumber(t, fmt.Sprint("Round ", g, " from ", from), n, e, want)
	walk, e := seam.Tour(g, from)
	length, times := 0, make([]int, len(g.Seams))
	if !isWalk(g, walk) || len(walk) > 0 && (ends(g, walk[0])[0] != from || ends(g, walk[len(walk)-1])[1] != from) {
		t.Errorf("Tour %v from %d: %v is no walk from there to there", g, from, walk)
		return
	}
	for _, m := range walk {
		length += g.Seams[m.Seam].Len
		times[m.Seam]++
	}
	if length != want || slices.Contains(times, 0) || e != api.OK {
		t.Errorf("Tour %v from %d: %v, error %d; want a round with a length of %d", g, from, walk, e, want)
	}
}

func wantNoTour(t *testing.T, g seam.Graph, from int) {
	t.Helper()
	n, e := seam.Round(g, from)
	wantError(t, fmt.Sprint("Round ", g, " from ", from), n, e, api.ErrNone)
	walk, e := seam.Tour(g, from)
	wantError(t, fmt.Sprint("Tour ", g, " from ", from), walk, e, api.ErrNone)
}

// P7.4: no round of a small graph is shorter, from any joint.
func TestRoundOfAllWalks(t *testing.T) {
	seen := seen{}
	for _, g := range samples(200, 5, 7) {
		g := shorter(g, 30)
		for from := range g.N {
			want := searchRound(g, from, -1)
			seen.note("none", want < 0)
			seen.note("each once", want > 0 && want == sumOf(g))
			seen.note("each twice", want > 0 && want == 2*sumOf(g))
			seen.note("some twice", want > sumOf(g) && want < 2*sumOf(g))
			if want < 0 {
				wantNoTour(t, g, from)
			} else {
				wantTour(t, g, from, want)
			}
		}
	}
	seen.want(t, 10, "none", "each once", "each twice", "some twice")
}

// P7.4, P7.10: rounds of large graphs, by all sets of seams that could be doubled.
func TestTour(t *testing.T) {
	seen := seen{}
	for _, g := range append(samples(40, 16, 40), great()...) {
		extra := doubling(g)
		odd := len(oddOnes(g, all))
		if extra > sumOf(g) || (extra == 0) != (odd == 0) {
			t.Errorf("%v: %d for %d joints of odd degree", g, extra, odd)
		}
		seen.note("16 joints of odd degree", odd == 16)
		for from := range g.N {
			if isRoundable(g, from) {
				wantTour(t, g, from, sumOf(g)+extra)
			} else {
				wantNoTour(t, g, from)
			}
			seen.note("a round", isRoundable(g, from))
			seen.note("none", !isRoundable(g, from))
		}
	}
	seen.want(t, 2, "16 joints of odd degree")
	seen.want(t, 100, "a round", "none")
}

// P7.4: the document's examples, and others that can be counted by hand.
func TestTourExamples(t *testing.T) {
	for _, x := range []struct {
		g          seam.Graph
		from, want int
	}{
		{triangle(), 0, 12}, {triangle(), 2, 12}, {triangle(sm(0, 2, 7, 1)), 0, 22}, {triangle(sm(0, 2, 7, 1)), 1, 22}, {single(), 0, 10}, {single(), 1, 10},
		{gr(1), 0, 0}, {gr(16), 0, 0}, {gr(16), 15, 0}, {gr(16, sm(3, 3, 7, 0)), 3, 7}, {chain(), 4, 300000}, {star(3, 10000), 9, 300000}, {star(0, 1), 0, 2 * 135},
		{great()[0], 0, 640000}, {great()[1], 1, 640000}, {great()[2], 0, 640000}, // 64 loops, 64 and 63 seams between two joints
	} {
		wantTour(t, x.g, x.from, x.want)
	}
	wantNoTour(t, gr(16, sm(3, 3, 7, 0)), 2)
	wantNoTour(t, gr(4, sm(0, 1, 1, 0), sm(2, 3, 1, 0)), 0)
	wantNoTour(t, gr(4, sm(0, 1, 1, 0), sm(2, 2, 1, 0)), 1)
	wantNoTour(t, gr(3, sm(0, 1, 1, 0)), 2)
}

// P7.4: the errors of Round and Tour; a joint comes before a round that is not there.
func TestTourErrors(t *testing.T) {
	for _, g := range []seam.Graph{triangle(), gr(3), gr(3, sm(0, 0, 1, 0), sm(1, 1, 1, 0))} {
		for _, from := range append(strange(), 3, 15, 16) {
			n, e := seam.Round(g, from)
			wantError(t, fmt.Sprint("Round from ", from), n, e, api.ErrArg)
			walk, e := seam.Tour(g, from)
			wantError(t, fmt.Sprint("Tour from ", from), walk, e, api.ErrArg)
		}
	}
}

// P7.13: a seam of a connected graph is a bridge if and only if no round sews it just once.
func TestBridgesAndRounds(t *testing.T) {
	seen := seen{}
	for _, g := range samples(150, 5, 7) {
		g := shorter(g, 5)
		if !isConnected(g) {
			continue
		}
		l, e := seam.Bridges(g)
		for i := range g.Seams {
			isBridge := searchRound(g, 0, i) < 0
			if slices.Contains(l, i) != isBridge || e != api.OK {
				t.Errorf("Bridges %v: %v, error %d; seam %d: %v", g, l, e, i, isBridge)
			}
			seen.note("a bridge", isBridge)
			seen.note("no bridge", !isBridge)
		}
	}
	seen.want(t, 100, "a bridge", "no bridge")
}
