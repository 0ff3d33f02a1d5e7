package seam_test

import (
	"fmt"
	"slices"
	"testing"

	"trank/api"
	"trank/seam"
)

// P7.1: what a graph is.
func TestValid(t *testing.T) {
	for _, g := range append(samples(100, 16, 64), great()...) {
		if !seam.Valid(g) {
			t.Error("not valid:", g)
		}
	}
	for _, g := range notGraphs() {
		if seam.Valid(g) {
			t.Errorf("valid: %d joints, %d seams, first %v", g.N, len(g.Seams), g.Seams[:min(len(g.Seams), 3)])
		}
	}
}

// P7.1: each limit, and what is just beyond it.
func TestValidLimits(t *testing.T) {
	for n := -3; n <= 70; n++ {
		if got := seam.Valid(seam.Graph{N: n}); got != (1 <= n && n <= 16) {
			t.Errorf("%d joints: %v", n, got)
		}
		if got := seam.Valid(gr(7, sm(n, 3, 1, 0))); got != (0 <= n && n < 7) {
			t.Errorf("A is %d of 7 joints: %v", n, got)
		}
		if got := seam.Valid(gr(7, sm(3, n, 1, 0))); got != (0 <= n && n < 7) {
			t.Errorf("B is %d of 7 joints: %v", n, got)
		}
		if got := seam.Valid(gr(2, sm(0, 1, 1, n))); got != (0 <= n && n < 8) {
			t.Errorf("thread %d: %v", n, got)
		}
		if got := seam.Valid(seam.Graph{2, slices.Repeat([]seam.Seam{sm(0, 1, 1, 0)}, max(n, 0))}); got != (n <= 64) {
			t.Errorf("%d seams: %v", n, got)
		}
		for _, length := range []int{n, 9970 + n} {
			if got := seam.Valid(gr(2, sm(0, 1, length, 0))); got != (1 <= length && length <= 10000) {
				t.Errorf("length %d: %v", length, got)
			}
		}
	}
}

// P7.1: the joints whose degree in the seams of the thread is odd, rising.
func TestOdd(t *testing.T) {
	seen := seen{}
	for _, g := range append(samples(300, 16, 30), great()...) {
		for thread := range 8 {
			l, e := seam.Odd(g, thread)
			want := oddOnes(g, ofThread(g, thread))
			wantNumbers(t, fmt.Sprint("Odd ", g, thread), l, e, want)
			seen.note("none", len(want) == 0 && degree(g, 0, ofThread(g, thread)) > 0)
			seen.note("all", len(want) == g.N)
			seen.note("some", len(want) > 0 && len(want) < g.N)
		}
	}
	seen.want(t, 5, "none", "all", "some")
	l, e := seam.Odd(single(), 2)
	wantNumbers(t, "the document's example", l, e, []int{0, 1})
	l, e = seam.Odd(gr(2, sm(0, 0, 1, 0), sm(0, 1, 1, 0)), 0)
	wantNumbers(t, "a loop has two ends at its joint", l, e, []int{0, 1})
}

// P7.1: the errors of Odd.
func TestOddErrors(t *testing.T) {
	for _, thread := range append(strange(), 8, 9, 16) {
		l, e := seam.Odd(triangle(), thread)
		wantError(t, fmt.Sprint("Odd of thread ", thread), l, e, api.ErrArg)
	}
}

// farthest looks for the least length by walks of more and more moves; -1 if there is none.
func farthest(g seam.Graph, a, b int) int {
	least := map[int]int{a: 0}
	for range g.N {
		for _, s := range g.Seams {
			for _, m := range [][2]int{{s.A, s.B}, {s.B, s.A}} {
				from, ok := least[m[0]]
				to, known := least[m[1]]
				if ok && (!known || from+s.Len < to) {
					least[m[1]] = from + s.Len
				}
			}
		}
	}
	if n, ok := least[b]; ok {
		return n
	}
	return -1
}

// P7.3: the least length of a walk.
func TestFar(t *testing.T) {
	seen := seen{}
	for _, g := range append(samples(200, 8, 20), great()...) {
		for a := range g.N {
			for b := range g.N {
				n, ok, e := seam.Far(g, a, b)
				want := farthest(g, a, b)
				if n != max(want, 0) || ok != (want >= 0) || e != api.OK {
					t.Fatalf("Far %v %d %d: %d, %v, error %d; want %d", g, a, b, n, ok, e, want)
				}
				seen.note("none", want < 0)
				seen.note("a detour", want > 0 && !slices.ContainsFunc(g.Seams, func(s seam.Seam) bool { return s.Len == want }))
				seen.note("the same joint", a == b && want == 0)
			}
		}
	}
	seen.want(t, 50, "none", "a detour", "the same joint")
}

// P7.3: the document's example, and the greatest length there is.
func TestFarExamples(t *testing.T) {
	for _, x := range []struct {
		g          seam.Graph
		a, b, want int
	}{
		{triangle(sm(0, 2, 7, 1)), 0, 2, 3}, {triangle(sm(0, 2, 7, 1)), 2, 0, 3}, {triangle(), 0, 1, 5}, {triangle(sm(0, 1, 9, 1)), 1, 0, 5},
		{chain(), 0, 15, 150000}, {chain(), 15, 0, 150000}, {chain(), 7, 7, 0}, {gr(1), 0, 0, 0}, {gr(1, sm(0, 0, 5, 0)), 0, 0, 0}, {gr(16), 15, 15, 0},
	} {
		n, ok, e := seam.Far(x.g, x.a, x.b)
		if n != x.want || !ok || e != api.OK {
			t.Errorf("Far %v %d %d: %d, %v, error %d; want %d", x.g, x.a, x.b, n, ok, e, x.want)
		}
	}
	if n, ok, e := seam.Far(gr(16), 0, 15); n != 0 || ok || e != api.OK {
		t.Errorf("no walk: %d, %v, error %d", n, ok, e)
	}
}

// P7.3: the errors of Far.
func TestFarErrors(t *testing.T) {
	for _, j := range append(strange(), 3, 15, 16) {
		for _, l := range [][2]int{{j, 0}, {0, j}, {j, j}} {
			n, ok, e := seam.Far(triangle(), l[0], l[1])
			wantError(t, fmt.Sprint("Far ", l), two{n, ok}, e, api.ErrArg)
		}
	}
}

// pieces counts the classes of joints that some of the seams connect.
func pieces(g seam.Graph, isIn func(i int) bool) int {
	n, found := 0, map[int]bool{}
	for j := range g.N {
		if !found[j] {
			n++
			for other := range reached(g, j, isIn) {
				found[other] = true
			}
		}
	}
	return n
}

// bridges are the seams without which there are more pieces.
func bridges(g seam.Graph) []int {
	var l []int
	for i := range g.Seams {
		if pieces(g, func(other int) bool { return other != i }) > pieces(g, all) {
			l = append(l, i)
		}
	}
	return l
}

// P7.5: the classes of connected joints, and the seams without which there would be more.
func TestPiecesAndBridges(t *testing.T) {
	seen := seen{}
	for _, g := range append(samples(300, 16, 24), great()...) {
		n, e := seam.Pieces(g)
		wantNumber(t, fmt.Sprint("Pieces ", g), n, e, pieces(g, all))
		l, e := seam.Bridges(g)
		want := bridges(g)
		wantNumbers(t, fmt.Sprint("Bridges ", g), l, e, want)
		seen.note("one piece", n == 1)
		seen.note("several pieces", n > 1)
		seen.note("no bridge", len(want) == 0)
		seen.note("some bridges", len(want) > 0 && len(want) < len(g.Seams))
		seen.note("bridges alone", len(want) > 2 && len(want) == len(g.Seams))
	}
	seen.want(t, 5, "one piece", "several pieces", "no bridge", "some bridges", "bridges alone")
}

// P7.5: the document's examples, and others that can be counted by hand.
func TestPiecesAndBridgesExamples(t *testing.T) {
	for _, x := range []struct {
		g       seam.Graph
		pieces  int
		bridges []int
	}{
		{triangle(), 1, nil}, {single(), 1, []int{0}}, {gr(1), 1, nil}, {gr(16), 16, nil}, {gr(2, sm(0, 0, 1, 0)), 2, nil},
		{gr(3, sm(0, 1, 1, 0), sm(0, 1, 1, 7), sm(1, 2, 1, 0)), 1, []int{2}}, {star(3, 0), 1, []int{0, 1, 2, 3, 4, 5, 6, 7, 8, 9, 10, 11, 12, 13, 14}}, {wheel(), 1, nil},
	} {
		n, e := seam.Pieces(x.g)
		wantNumber(t, fmt.Sprint("Pieces ", x.g), n, e, x.pieces)
		l, e := seam.Bridges(x.g)
		wantNumbers(t, fmt.Sprint("Bridges ", x.g), l, e, x.bridges)
	}
}
