package skin_test

import (
	"fmt"
	"math"
	"slices"
	"testing"

	"trank/api"
	"trank/skin"
)

// P3.3

// turnedOnce is the document's definition.
func turnedOnce(s []string) []string {
	return fill(len(s), len(s[0]), func(x, y int) byte { return s[len(s)-1-x][y] })
}

func TestTurn(t *testing.T) {
	got, e := skin.Turn([]string{"12", "34"}, 1)
	wantSkin(t, "the example", got, e, []string{"31", "42"})
	got, e = skin.Turn([]string{"123", "456"}, -1)
	wantSkin(t, "counterclockwise", got, e, []string{"36", "25", "14"})
	for _, s := range slices.Concat(samples(40), great()) {
		turns := [][]string{s}
		for range 3 {
			turns = append(turns, turnedOnce(turns[len(turns)-1]))
		}
		for k := -9; k <= 9; k++ {
			got, e := skin.Turn(s, k)
			wantSkin(t, fmt.Sprint(k, s), got, e, turns[(k+12)%4])
		}
		for k, want := range map[int]int{math.MinInt: 0, math.MinInt + 1: 1, math.MaxInt: 3, math.MaxInt - 1: 2, 1 << 40: 0, -1<<40 - 3: 1} {
			got, e := skin.Turn(s, k)
			wantSkin(t, fmt.Sprint(k, s), got, e, turns[want])
		}
	}
}

func TestMirror(t *testing.T) {
	got, e := skin.Mirror([]string{"12", "34"})
	wantSkin(t, "the example", got, e, []string{"21", "43"})
	for _, s := range slices.Concat(samples(40), great()) {
		got, e := skin.Mirror(s)
		wantSkin(t, fmt.Sprint(s), got, e, fill(len(s[0]), len(s), func(x, y int) byte { return s[y][len(s[0])-1-x] }))
	}
}

func TestCropAndPunch(t *testing.T) {
	for _, s := range samples(30) {
		for _, r := range allRects(len(s[0]), len(s)) {
			got, e := skin.Crop(s, r)
			wantSkin(t, fmt.Sprint("crop", s, r), got, e, fill(r.W, r.H, func(x, y int) byte { return s[r.Y+y][r.X+x] }))
			got, e = skin.Punch(s, r)
			wantSkin(t, fmt.Sprint("punch", s, r), got, e, fill(len(s[0]), len(s), func(x, y int) byte {
				if liesWithin(rc(x, y, 1, 1), r) {
					return '0'
				}
				return s[y][x]
			}))
		}
	}
}

func TestCropAndPunchErrors(t *testing.T) {
	for _, s := range [][]string{{"1"}, {"123", "456"}, full(48, 48, "7")} {
		for _, r := range notRects() {
			wantRefused(t, s, r, api.ErrArg)
		}
		for _, r := range outside(len(s[0]), len(s)) {
			wantRefused(t, s, r, api.ErrRange)
		}
	}
	for _, s := range invalid() {
		for _, r := range append(outside(3, 3), rc(0, 0, 1, 1)) {
			wantRefused(t, s, r, api.ErrArg)
		}
	}
}

func wantRefused(t *testing.T, s []string, r api.Rect, want api.Errno) {
	t.Helper()
	if got, e := skin.Crop(s, r); len(got) > 0 || e != want {
		t.Errorf("crop %q %v: %q, error %d; want error %d", s, r, got, e, want)
	}
	if got, e := skin.Punch(s, r); len(got) > 0 || e != want {
		t.Errorf("punch %q %v: %q, error %d; want error %d", s, r, got, e, want)
	}
}

func TestTrim(t *testing.T) {
	for _, s := range slices.Concat(samples(200), great()) {
		want, wantE := boxOf(s, 1)
		got, e := skin.Trim(s)
		wantRect(t, fmt.Sprint(s), got, e, want, wantE)
	}
	for n := range 1 << 9 {
		s := binary(3, 3, n)
		want, wantE := boxOf(s, 1)
		got, e := skin.Trim(s)
		wantRect(t, fmt.Sprint(s), got, e, want, wantE)
	}
}

// boxOf returns the least of the rectangles that have all usable cells.
func boxOf(s []string, g int) (api.Rect, api.Errno) {
	all := usableCells(s, g, whole(s))
	if all == 0 {
		return api.Rect{}, api.ErrNone
	}
	best := whole(s)
	for _, shorter := range []func(r api.Rect) api.Rect{
		func(r api.Rect) api.Rect { return rc(r.X+1, r.Y, r.W-1, r.H) },
		func(r api.Rect) api.Rect { return rc(r.X, r.Y+1, r.W, r.H-1) },
		func(r api.Rect) api.Rect { return rc(r.X, r.Y, r.W-1, r.H) },
		func(r api.Rect) api.Rect { return rc(r.X, r.Y, r.W, r.H-1) },
	} {
		for usableCells(s, g, shorter(best)) == all {
			best = shorter(best)
		}
	}
	return best, api.OK
}

// P3.9

func TestTurningChangesLittle(t *testing.T) {
	for _, s := range slices.Concat(samples(100), great()) {
		var turns [][]string
		for k := range 4 {
			turn, _ := skin.Turn(s, k)
			mirror, _ := skin.Mirror(turn)
			turns = append(turns, turn, mirror)
		}
		for _, other := range turns {
			if got, want := measures(other), measures(s); !slices.Equal(got, want) {
				t.Fatalf("%q: %v; %q: %v", other, got, s, want)
			}
			four, twice := other, other
			for range 4 {
				four, _ = skin.Turn(four, 1)
			}
			for range 2 {
				twice, _ = skin.Mirror(twice)
			}
			if !slices.Equal(four, other) || !slices.Equal(twice, other) {
				t.Fatalf("%q does not come back: %q, %q", other, four, twice)
			}
		}
	}
}

// measures are the numbers that turning does not change.
func measures(s []string) []int {
	l, _ := skin.Grades(s)
	for _, g := range []int{1, 5, 9} {
		parts, _ := skin.Parts(s, g)
		largest, _ := skin.Largest(s, g)
		fewest, _ := skin.Fewest(s, g)
		l = append(l, len(parts), largest.W*largest.H, fewest)
	}
	return l
}
