package skin_test

import (
	"fmt"
	"slices"
	"testing"

	"trank/api"
	"trank/skin"
)

// P3.7, P3.13

// better says which rectangle Largest and Square prefer.
func better(r, o api.Rect) bool {
	switch {
	case r.W*r.H != o.W*o.H:
		return r.W*r.H > o.W*o.H
	case r.Y != o.Y:
		return r.Y < o.Y
	case r.X != o.X:
		return r.X < o.X
	}
	return r.W > o.W
}

func bestOf(l []api.Rect) (api.Rect, api.Errno) {
	if len(l) == 0 {
		return api.Rect{}, api.ErrNone
	}
	best := l[0]
	for _, r := range l {
		if better(r, best) {
			best = r
		}
	}
	return best, api.OK
}

func maximalOf(l []api.Rect) []api.Rect {
	var maximal []api.Rect
	for _, r := range l {
		if !slices.ContainsFunc(l, func(o api.Rect) bool { return o != r && liesWithin(r, o) }) {
			maximal = append(maximal, r)
		}
	}
	return maximal
}

// wantRects compares the three functions with all usable rectangles.
func wantRects(t *testing.T, s []string, g int) {
	t.Helper()
	all := usableRects(s, g)
	squares := slices.DeleteFunc(slices.Clone(all), func(r api.Rect) bool { return r.W != r.H })
	want, wantE := bestOf(all)
	got, e := skin.Largest(s, g)
	wantRect(t, fmt.Sprint("largest ", s, g), got, e, want, wantE)
	want, wantE = bestOf(squares)
	got, e = skin.Square(s, g)
	wantRect(t, fmt.Sprint("square ", s, g), got, e, want, wantE)
	if got, e := skin.Maximal(s, g); !slices.Equal(got, maximalOf(all)) || e != api.OK {
		t.Errorf("maximal %q %d: %v, error %d; want %v", s, g, got, e, maximalOf(all))
	}
}

func TestRects(t *testing.T) {
	for i, s := range samples(120) {
		wantRects(t, s, 1)
		wantRects(t, s, 2+i%8)
	}
	for n := range 1 << 12 {
		wantRects(t, binary(4, 3, n), 1)
	}
	for n := range 1 << 10 {
		wantRects(t, binary(5, 5, n*32771), 1)
		wantRects(t, binary(2, 5, n), 1)
	}
}

func TestRectsExamples(t *testing.T) {
	s := []string{"110", "111", "011"}
	got, e := skin.Largest(s, 1)
	wantRect(t, "largest", got, e, rc(0, 0, 2, 2), api.OK)
	if l, e := skin.Maximal(s, 1); !slices.Equal(l, []api.Rect{rc(0, 0, 2, 2), rc(1, 0, 1, 3), rc(0, 1, 3, 1), rc(1, 1, 2, 2)}) || e != api.OK {
		t.Error(l, e)
	}
	// Of the same area and place the wider one: 4 by 1, not 2 by 2 or 1 by 4.
	got, e = skin.Largest([]string{"1111", "1100", "1000", "1000"}, 1)
	wantRect(t, "the wider one", got, e, rc(0, 0, 4, 1), api.OK)
	// The least Y comes before the least X.
	got, e = skin.Largest([]string{"001", "101", "100"}, 1)
	wantRect(t, "the upper one", got, e, rc(2, 0, 1, 2), api.OK)
	got, e = skin.Square([]string{"0011", "1111", "1100"}, 1)
	wantRect(t, "the upper square", got, e, rc(2, 0, 2, 2), api.OK)
	got, e = skin.Square([]string{"11111", "11111"}, 1)
	wantRect(t, "the left square", got, e, rc(0, 0, 2, 2), api.OK)
}

func TestRectsOfNothing(t *testing.T) {
	for _, s := range [][]string{{"0"}, {"00", "00"}, full(48, 48, "0"), full(48, 48, "8")} {
		g := 1 + int(s[0][0]-'0')
		got, e := skin.Largest(s, g)
		wantRect(t, "largest", got, e, api.Rect{}, api.ErrNone)
		got, e = skin.Square(s, g)
		wantRect(t, "square", got, e, api.Rect{}, api.ErrNone)
		if l, e := skin.Maximal(s, g); len(l) > 0 || e != api.OK {
			t.Error(l, e)
		}
	}
}

func TestRectsOfGreatSkins(t *testing.T) {
	for _, s := range append(great(), with(full(48, 48, "9"), 20, 30, '0')) {
		maximal, e := skin.Maximal(s, 5)
		want, wantE := bestOf(maximal)
		got, gotE := skin.Largest(s, 5)
		wantRect(t, "largest", got, gotE, want, wantE)
		if !slices.IsSortedFunc(maximal, order) || e != api.OK {
			t.Errorf("%q: %v, error %d", s, maximal, e)
		}
		for _, r := range maximal {
			longer := []api.Rect{rc(r.X-1, r.Y, r.W+1, r.H), rc(r.X, r.Y-1, r.W, r.H+1), rc(r.X, r.Y, r.W+1, r.H), rc(r.X, r.Y, r.W, r.H+1)}
			for _, o := range longer {
				if usableCells(s, 5, o) == o.W*o.H {
					t.Fatalf("%q: %v lies within %v", s, r, o)
				}
			}
			if usableCells(s, 5, r) != r.W*r.H {
				t.Fatalf("%q: %v is not usable", s, r)
			}
		}
	}
	got, e := skin.Maximal(with(full(48, 48, "9"), 20, 30, '0'), 5)
	if !slices.Equal(got, []api.Rect{rc(0, 0, 20, 48), rc(0, 0, 48, 30), rc(21, 0, 27, 48), rc(0, 31, 48, 17)}) || e != api.OK {
		t.Error(got, e)
	}
	square, e := skin.Square(with(full(48, 48, "9"), 20, 30, '0'), 5)
	wantRect(t, "square", square, e, rc(0, 0, 30, 30), api.OK)
}

// order is the order of rectangles.
func order(a, b api.Rect) int {
	return slices.Compare([]int{a.Y, a.X, a.W, a.H}, []int{b.Y, b.X, b.W, b.H})
}

func TestMaximalHoldsAll(t *testing.T) {
	for _, s := range samples(60) {
		for _, g := range []int{1, 4, 9} {
			maximal, _ := skin.Maximal(s, g)
			for _, r := range usableRects(s, g) {
				if !slices.ContainsFunc(maximal, func(o api.Rect) bool { return liesWithin(r, o) }) {
					t.Fatalf("%q at %d: %v lies within none of %v", s, g, r, maximal)
				}
			}
			if largest, e := skin.Largest(s, g); e == api.OK && !slices.Contains(maximal, largest) {
				t.Fatalf("%q at %d: %v is none of %v", s, g, largest, maximal)
			}
		}
	}
}
