package cut_test

import (
	"fmt"
	"math"
	"math/rand"
	"slices"
	"testing"

	"trank/api"
	"trank/cut"
	"trank/skin"
)

// piecesOf goes through a plan by definition. It returns the pieces and the nodes after the plan.
func piecesOf(r api.Rect, p []cut.Node) ([]cut.Placed, []cut.Node) {
	n, after := p[0], p[1:]
	switch n.Op {
	case waste:
		return nil, after
	case piece:
		return []cut.Placed{{Kind: n.Arg, At: r, Turned: n.Turned}}, after
	}
	first, other := both(r, n.Op, n.Arg)
	l, after := piecesOf(first, after)
	m, after := piecesOf(other, after)
	return append(l, m...), after
}

func wantRead(t *testing.T, s sample, p []cut.Node) {
	t.Helper()
	want, _ := piecesOf(s.whole(), p)
	if got, worth, e := cut.Read(s.b, s.k, p); !slices.Equal(got, want) || worth != s.worth(p) || e != api.OK {
		t.Errorf("Read %v, %v: %v, %d, error %d; want %v, %d", s, p, got, worth, e, want, s.worth(p))
	}
	count, rest := make([]int, len(s.k)), s.b
	for _, one := range want {
		count[one.Kind]++
		for y := one.At.Y; y < one.At.Y+one.At.H; y++ {
			for x := one.At.X; x < one.At.X+one.At.W; x++ {
				rest = with(rest, x, y, '0')
			}
		}
	}
	got, e := cut.Counts(s.b, s.k, p)
	wantNumbers(t, fmt.Sprint("Counts ", s, p), got, e, count)
	if got, e := cut.Rest(s.b, s.k, p); !slices.Equal(got, rest) || e != api.OK {
		t.Errorf("Rest %v, %v: %q, error %d; want %q", s, p, got, e, rest)
	}
}

func wantNoPlan(t *testing.T, s sample, p []cut.Node, want api.Errno) {
	t.Helper()
	l, worth, e := cut.Read(s.b, s.k, p)
	if worth != 0 {
		t.Errorf("Read %v, %v: worth %d", s, p, worth)
	}
	wantError(t, fmt.Sprint("Read ", s, p), l, e, want)
	n, e := cut.Counts(s.b, s.k, p)
	wantError(t, fmt.Sprint("Counts ", s, p), n, e, want)
	rest, e := cut.Rest(s.b, s.k, p)
	wantError(t, fmt.Sprint("Rest ", s, p), rest, e, want)
}

// P5.3: the pieces, the counts and the rest of all plans of small boards.
func TestReadAllPlans(t *testing.T) {
	for _, s := range tiny(40) {
		for _, p := range s.allPlans(s.whole()) {
			wantRead(t, s, p)
		}
	}
}

// changed are all slices that differ in a node, an Arg, an Op or a Turned from a plan.
func changed(p []cut.Node) [][]cut.Node {
	l := [][]cut.Node{nil, {}}
	for i, n := range p {
		l = append(l, slices.Delete(slices.Clone(p), i, i+1), p[:i], p[i:])
		for _, put := range []cut.Node{n, node(waste, 0, false), node(piece, 0, false), node(vertical, 1, false), node(horizontal, 1, false)} {
			l = append(l, slices.Insert(slices.Clone(p), i, put), slices.Insert(slices.Clone(p), i+1, put))
		}
		others := []cut.Node{{Op: n.Op, Arg: n.Arg, Turned: !n.Turned}}
		for _, v := range []int{math.MinInt, -2, -1, 0, 1, 2, 3, 4, 12, 17, math.MaxInt} {
			others = append(others, cut.Node{Op: v, Arg: n.Arg, Turned: n.Turned}, cut.Node{Op: n.Op, Arg: v, Turned: n.Turned}, cut.Node{Op: v, Turned: n.Turned})
		}
		for _, other := range others {
			q := slices.Clone(p)
			q[i] = other
			l = append(l, q)
		}
	}
	return l
}

// P5.3: a slice that is no plan is refused; what is one is read.
func TestReadOthersThanPlans(t *testing.T) {
	random := rand.New(rand.NewSource(3))
	found := seen{}
	for _, s := range tiny(40) {
		isPlan := map[string]bool{}
		all := s.allPlans(s.whole())
		for _, p := range all {
			isPlan[fmt.Sprint(p)] = true
		}
		for range 6 {
			for _, q := range changed(all[random.Intn(len(all))]) {
				if isPlan[fmt.Sprint(q)] {
					found["a plan"]++
					wantRead(t, s, q)
				} else {
					found["no plan"]++
					wantNoPlan(t, s, q, api.ErrForm)
				}
			}
		}
	}
	found.want(t, 200, "a plan", "no plan")
}

// P5.3: what a node must be, case by case.
func TestReadRefuses(t *testing.T) {
	w, pc, v, h := node(waste, 0, false), node(piece, 0, false), node(vertical, 1, false), node(horizontal, 1, false)
	s := sample{[]string{"12", "11"}, []cut.Kind{kd(1, 2, 1, 5, true), kd(1, 1, 2, 3, true), kd(2, 2, 1, 9, true), kd(1, 2, 2, 5, false)}}
	for _, p := range [][]cut.Node{
		nil, {v}, {v, w}, {v, pc}, {w, w}, {v, w, w, w}, {h, v, w, w}, {node(4, 0, false)}, {node(-1, 0, false)}, {node(4, 1, false), w, w},
		{node(waste, 1, false)}, {node(waste, -1, false)}, {node(waste, 0, true)},
		{node(vertical, 0, false), w, w}, {node(vertical, 2, false), w, w}, {node(vertical, -1, false), w, w}, {node(vertical, 1, true), w, w},
		{node(horizontal, 0, false), w, w}, {node(horizontal, 2, false), w, w}, {node(horizontal, -1, false), w, w}, {node(horizontal, 1, true), w, w},
		{pc}, {v, node(piece, 0, true), w}, {h, pc, w}, {h, w, pc}, {v, pc, v, w, w}, {h, pc, h, w, w}, {node(piece, 2, true)}, {node(piece, 4, false)}, {node(piece, -1, false)},
		{v, w, h, node(piece, 1, true), w}, {v, h, node(piece, 1, false), w, w}, {v, w, h, w, node(piece, 1, false)}, {v, w, node(piece, 3, false)}, {h, node(piece, 3, true), w},
	} {
		wantNoPlan(t, s, p, api.ErrForm)
	}
	for _, p := range [][]cut.Node{
		{w}, {v, w, w}, {h, w, w}, {v, pc, w}, {v, w, pc}, {h, node(piece, 0, true), w}, {h, w, node(piece, 0, true)}, {node(piece, 2, false)}, {v, w, h, node(piece, 1, false), w}, {h, v, w, node(piece, 1, false), v, w, w},
	} {
		wantRead(t, s, p)
	}
}

// P5.3: a plan without pieces has an empty list, no count of a kind, and the whole board left.
func TestReadWaste(t *testing.T) {
	for _, s := range append(examples(), great()...) {
		wantRead(t, s, []cut.Node{node(waste, 0, false)})
	}
}

// P5.3: the deepest plan, and a long slice that is none.
func TestReadLongPlans(t *testing.T) {
	s := sample{full(16, 16, "1"), []cut.Kind{kd(1, 1, 1, 1000000, false)}}
	var row, p []cut.Node
	for range 15 {
		row = append(row, node(vertical, 1, false), node(piece, 0, false))
	}
	row = append(row, node(piece, 0, false))
	for range 15 {
		p = append(append(p, node(horizontal, 1, false)), row...)
	}
	p = append(p, row...)
	wantRead(t, s, p)
	if l, worth, e := cut.Read(s.b, s.k, p); len(l) != 256 || worth != 256000000 || e != api.OK {
		t.Errorf("%d pieces, worth %d, error %d", len(l), worth, e)
	}
	wantNoPlan(t, s, append(p, node(waste, 0, false)), api.ErrForm)
	wantNoPlan(t, s, p[:len(p)-1], api.ErrForm)
	for op := range 4 {
		wantNoPlan(t, s, slices.Repeat([]cut.Node{node(op, 1, false)}, 100000), api.ErrForm)
	}
}

// P5.14: the usable cells of the rest and the areas of the pieces sum to those of the board.
func TestRestSums(t *testing.T) {
	for _, s := range append(samples(100, 9), great()...) {
		p, _ := cut.Plan(s.b, s.k)
		pieces, _, _ := cut.Read(s.b, s.k, p)
		rest, e := cut.Rest(s.b, s.k, p)
		sum := usable(rest)
		for _, one := range pieces {
			sum += one.At.W * one.At.H
		}
		if sum != usable(s.b) || e != api.OK {
			t.Errorf("Rest %v: %q, error %d: %d cells of %d", s, rest, e, sum, usable(s.b))
		}
	}
}

// usable counts the cells that are usable at grade 1.
func usable(b []string) int {
	l, _ := skin.Grades(b)
	n := 0
	for grade, cells := range l {
		n += min(grade, 1) * cells
	}
	return n
}
