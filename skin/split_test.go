package skin_test

import (
	"math/bits"
	"math/rand"
	"slices"
	"strings"
	"testing"

	"trank/api"
	"trank/skin"
)

// P3.8, P3.14

// divider is the oracle: it tries all rectangles at the first cell that is left, a bit a cell.
type divider struct {
	w, h  int
	known map[uint64]int
}

func (d divider) fewest(left uint64) int {
	if left == 0 {
		return 0
	}
	if n, found := d.known[left]; found {
		return n
	}
	first := bits.TrailingZeros64(left)
	x, best := first%d.w, d.w*d.h
	for w, row := 1, uint64(1)<<first; x+w <= d.w; w, row = w+1, row|row<<1 {
		if left&row != row {
			break
		}
		for h, all := 1, row; first/d.w+h <= d.h && left&all == all; h, all = h+1, all|row<<(h*d.w) {
			best = min(best, 1+d.fewest(left&^all))
		}
	}
	d.known[left] = best
	return best
}

func fewestOf(s []string, g int) int {
	d := divider{len(s[0]), len(s), map[uint64]int{}}
	left := uint64(0)
	for y := range s {
		for x := range s[y] {
			if usable(s, g, x, y) {
				left |= 1 << (y*d.w + x)
			}
		}
	}
	return d.fewest(left)
}

// wantDivision checks a division of any skin, and that it has n rectangles.
func wantDivision(t *testing.T, s []string, g, n int) {
	t.Helper()
	fewest, e := skin.Fewest(s, g)
	l, splitE := skin.Split(s, g)
	if fewest != n || len(l) != n || e != api.OK || splitE != api.OK {
		t.Fatalf("%q at %d: %d, error %d, and %v, error %d; want %d", s, g, fewest, e, l, splitE, n)
	}
	if !slices.IsSortedFunc(l, order) {
		t.Fatalf("%q at %d: %v is not in order", s, g, l)
	}
	times := map[[2]int]int{}
	for _, r := range l {
		if r.W < 1 || r.H < 1 || !liesWithin(r, whole(s)) {
			t.Fatalf("%q at %d: %v in %v", s, g, r, l)
		}
		for y := r.Y; y < r.Y+r.H; y++ {
			for x := r.X; x < r.X+r.W; x++ {
				times[[2]int{x, y}]++
			}
		}
	}
	for y := range s {
		for x := range s[y] {
			if n := times[[2]int{x, y}]; n != usableCells(s, g, rc(x, y, 1, 1)) {
				t.Fatalf("%q at %d: %v covers (%d, %d) %d times", s, g, l, x, y, n)
			}
		}
	}
}

func TestSplitExamples(t *testing.T) {
	for _, x := range []struct {
		s []string
		n int
	}{
		{[]string{"110", "111", "011"}, 3}, {[]string{"111", "101", "111"}, 4}, {[]string{"011", "101", "111"}, 4}, {[]string{"10", "01"}, 2}, {[]string{"010", "111", "010"}, 3},
		{[]string{"0"}, 0}, {[]string{"000", "000"}, 0}, {[]string{"1"}, 1}, {full(48, 48, "1"), 1}, {full(48, 48, "0"), 0},
		{[]string{"11", "10"}, 2}, {[]string{"0110", "1111", "1111", "0110"}, 3}, {[]string{"11111", "10101", "11111"}, 5},
		{[]string{"00100", "11111", "00100", "11111", "00100"}, 5},
	} {
		wantDivision(t, x.s, 1, x.n)
	}
	wantDivision(t, []string{"988", "188", "889"}, 9, 2)
	wantDivision(t, []string{"988", "188", "889"}, 8, 3)
	wantDivision(t, []string{"988", "188", "889"}, 1, 1)
}

func TestSplitOfAllSmallSkins(t *testing.T) {
	for _, size := range [][2]int{{4, 3}, {3, 4}, {6, 2}, {2, 6}, {12, 1}, {1, 12}} {
		for n := range 1 << 12 {
			s := binary(size[0], size[1], n)
			wantDivision(t, s, 1, fewestOf(s, 1))
		}
	}
	for n := 0; n < 1<<16; n += 7 {
		s := binary(4, 4, n)
		wantDivision(t, s, 1, fewestOf(s, 1))
	}
}

func TestSplitOfSamples(t *testing.T) {
	random := rand.New(rand.NewSource(3))
	for range 600 {
		w, h := 4+random.Intn(3), 4+random.Intn(3)
		s := blotched(random, w, h, 1+random.Intn(8))
		wantDivision(t, s, 1, fewestOf(s, 1))
		s = fill(w, h, func(x, y int) byte { return "0111111"[random.Intn(7)] })
		wantDivision(t, s, 1, fewestOf(s, 1))
	}
	for _, s := range samples(100) {
		for g := 1; g <= 9 && len(s)*len(s[0]) <= 36; g++ {
			wantDivision(t, s, g, fewestOf(s, g))
		}
	}
}

// Each cell becomes a rectangle of cells: the number stays.
func TestSplitOfGreatSkins(t *testing.T) {
	random := rand.New(rand.NewSource(4))
	widths, heights := []int{1, 2, 3, 10, 12, 20}, []int{20, 1, 7, 2, 3, 14}
	for i := range 60 {
		s := blotched(random, 6, 6, 6)
		if i%2 == 0 {
			s = fill(6, 6, func(x, y int) byte { return "01111"[random.Intn(5)] })
		}
		wantDivision(t, stretched(s, widths, heights), 1, fewestOf(s, 1))
		wantDivision(t, stretched(s, heights, widths), 1, fewestOf(s, 1))
	}
}

// stretched repeats each cell of a row so many times, and each row.
func stretched(s []string, widths, heights []int) []string {
	var l []string
	for y, row := range s {
		wide := ""
		for x := range row {
			wide += strings.Repeat(row[x:x+1], widths[x])
		}
		l = append(l, slices.Repeat([]string{wide}, heights[y])...)
	}
	return l
}

// Blocks with free rows and columns between them: their numbers sum.
func TestSplitOfBlocks(t *testing.T) {
	random := rand.New(rand.NewSource(5))
	for range 4 {
		s := fill(47, 47, func(x, y int) byte {
			if x%6 == 5 || y%6 == 5 {
				return '0'
			}
			return "0111"[random.Intn(4)]
		})
		sum := 0
		for y := 0; y < 47; y += 6 {
			for x := 0; x < 47; x += 6 {
				block, _ := skin.Crop(s, rc(x, y, 5, 5))
				sum += fewestOf(block, 1)
			}
		}
		wantDivision(t, s, 1, sum)
	}
}

// Holes of one cell in n rows and columns. Of the lines around each cell between four holes two are chords of the greatest set, of those between two holes at the edge one.
func TestSplitOfSieves(t *testing.T) {
	for _, n := range []int{2, 3, 10, 23} {
		s := fill(2*n+1, 2*n+1, func(x, y int) byte { return "10"[min(x%2, y%2)] })
		corners, holes, chords := 4*n*n, n*n, 2*(n-1)*(n-1)+4*(n-1)
		wantDivision(t, s, 1, corners-chords-holes+1)
		if n <= 3 {
			wantDivision(t, s, 1, fewestOf(s, 1))
		}
	}
	wantDivision(t, fill(48, 48, func(x, y int) byte { return "10"[(x+y)%2] }), 1, 1152)
}
