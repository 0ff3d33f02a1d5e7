package skin_test

import (
	"math"
	"math/rand"
	"slices"
	"strings"
	"testing"

	"trank/api"
)

func rc(x, y, w, h int) api.Rect { return api.Rect{X: x, Y: y, W: w, H: h} }

// full returns a skin of one grade.
func full(w, h int, grade string) []string {
	return slices.Repeat([]string{strings.Repeat(grade, w)}, h)
}

func with(s []string, x, y int, grade byte) []string {
	s = slices.Clone(s)
	row := []byte(s[y])
	row[x] = grade
	s[y] = string(row)
	return s
}

// invalid are slices that every function must refuse.
func invalid() map[string][]string {
	l := map[string][]string{
		"nil":                 nil,
		"empty":               {},
		"an empty row":        {""},
		"empty rows":          {"", ""},
		"49 rows":             full(1, 49, "1"),
		"1000 rows":           full(2, 1000, "1"),
		"49 columns":          full(49, 1, "1"),
		"49 by 49":            full(49, 49, "1"),
		"1000 columns":        full(1000, 2, "1"),
		"a first row longer":  {"111", "11", "11"},
		"a first row shorter": {"11", "111", "111"},
		"a row longer":        {"11", "111", "11"},
		"a row shorter":       {"11", "1", "11"},
		"a last row longer":   {"11", "11", "111"},
		"a last row shorter":  {"11", "11", "1"},
		"a first row empty":   {"", "11"},
		"a last row empty":    {"11", ""},
		"a long last row":     {"11", strings.Repeat("1", 49)},
		"two bytes":           {"é"},
		"another digit":       {"1٣1"},
	}
	for _, b := range []byte{0, '/', ':', ' ', '-', '+', '.', 'a', 'j', 'O', '\n', 127, 128, '0' + 128, 255} {
		for y := range 3 {
			for x := range 3 {
				l[string([]byte{'1' + byte(x), '1' + byte(y), b})] = with(full(3, 3, "5"), x, y, b)
			}
		}
	}
	return l
}

// examples are the skins that the document names, and others of special shape.
func examples() [][]string {
	return [][]string{
		{"110", "111", "011"}, {"12", "34"}, {"0011", "5555"}, {"0"}, {"1"}, {"9"}, {"00", "00"},
		{"111", "101", "111"}, {"011", "101", "111"}, {"111", "111", "111"}, {"10", "01"}, {"010", "111", "010"},
		{"0123456789"}, {"9", "8", "7", "6", "5", "4", "3", "2", "1", "0"},
		{"11111", "10001", "10101", "10001", "11111"}, {"11111", "10101", "11111", "10101", "11111"},
		{"1110111", "1010101", "1111111", "1010101", "1110111"}, {"0110", "1111", "1111", "0110"},
		{"00000", "01100", "00110", "00000"}, {"9990", "9594", "9999"},
	}
}

// randomSkin has w by h cells; how many of them have low grades differs from skin to skin.
func randomSkin(random *rand.Rand, w, h int) []string {
	level := random.Intn(10)
	var s []string
	for range h {
		row := make([]byte, w)
		for x := range row {
			row[x] = '0' + byte(random.Intn(10))
			if random.Intn(10) < level {
				row[x] = '0' + byte(random.Intn(3)*4)
			}
		}
		s = append(s, string(row))
	}
	return s
}

// blotched has rectangles of one grade, so that its parts are large.
func blotched(random *rand.Rand, w, h, blots int) []string {
	rows := make([][]byte, h)
	for y := range rows {
		rows[y] = []byte(strings.Repeat("5", w))
	}
	for range blots {
		x, y, grade := random.Intn(w), random.Intn(h), "0159"[random.Intn(4)]
		for i := y; i < min(y+1+random.Intn(4), h); i++ {
			for j := x; j < min(x+1+random.Intn(4), w); j++ {
				rows[i][j] = grade
			}
		}
	}
	var s []string
	for _, row := range rows {
		s = append(s, string(row))
	}
	return s
}

// samples are the examples and n others, up to 9 by 9.
func samples(n int) [][]string {
	random := rand.New(rand.NewSource(int64(n)))
	l := examples()
	for i := range n {
		w, h := 1+random.Intn(9), 1+random.Intn(9)
		if i%2 == 0 {
			l = append(l, randomSkin(random, w, h))
		} else {
			l = append(l, blotched(random, w, h, random.Intn(9)))
		}
	}
	return l
}

// great are skins at the limit.
func great() [][]string {
	random := rand.New(rand.NewSource(48))
	l := [][]string{
		full(48, 48, "0"), full(48, 48, "9"), full(48, 1, "3"), full(1, 48, "3"),
		fill(48, 48, func(x, y int) byte { return "10"[(x+y)%2] }),
		fill(48, 48, func(x, y int) byte { return "01"[max(x%2, y%2)] }),
		fill(48, 48, func(x, y int) byte { return "10"[min(x, y, 47-x, 47-y)%2] }),
		fill(48, 48, func(x, y int) byte { return "10"[max(x, y)%2] }),
	}
	for range 4 {
		l = append(l, randomSkin(random, 48, 48), blotched(random, 48, 48, 150), blotched(random, 48, 47, 30))
	}
	return l
}

func fill(w, h int, grade func(x, y int) byte) []string {
	var s []string
	for y := range h {
		row := make([]byte, w)
		for x := range row {
			row[x] = grade(x, y)
		}
		s = append(s, string(row))
	}
	return s
}

// binary is the skin of w by h cells whose grades are the bits of n.
func binary(w, h, n int) []string {
	return fill(w, h, func(x, y int) byte { return '0' + byte(n>>(y*w+x)&1) })
}

// usable is the oracle's view of a cell, also beyond the skin.
func usable(s []string, g, x, y int) bool {
	return y >= 0 && y < len(s) && x >= 0 && x < len(s[0]) && int(s[y][x]-'0') >= g
}

func usableCells(s []string, g int, r api.Rect) int {
	n := 0
	for y := r.Y; y < r.Y+r.H; y++ {
		for x := r.X; x < r.X+r.W; x++ {
			if usable(s, g, x, y) {
				n++
			}
		}
	}
	return n
}

func whole(s []string) api.Rect { return rc(0, 0, len(s[0]), len(s)) }

// allRects are all rectangles within w by h cells, in the order of rectangles.
func allRects(w, h int) []api.Rect {
	var l []api.Rect
	for y := range h {
		for x := range w {
			for rw := 1; x+rw <= w; rw++ {
				for rh := 1; y+rh <= h; rh++ {
					l = append(l, rc(x, y, rw, rh))
				}
			}
		}
	}
	return l
}

func usableRects(s []string, g int) []api.Rect {
	var l []api.Rect
	for _, r := range allRects(len(s[0]), len(s)) {
		if usableCells(s, g, r) == r.W*r.H {
			l = append(l, r)
		}
	}
	return l
}

func liesWithin(r, o api.Rect) bool {
	return r.X >= o.X && r.Y >= o.Y && r.X+r.W <= o.X+o.W && r.Y+r.H <= o.Y+o.H
}

// notRects are rectangles that every function must refuse.
func notRects() []api.Rect {
	return []api.Rect{
		{}, rc(0, 0, 0, 1), rc(0, 0, 1, 0), rc(0, 0, -1, 1), rc(0, 0, 1, -1), rc(-1, 0, 1, 1), rc(0, -1, 1, 1), rc(-1, 0, 2, 1), rc(0, -1, 1, 2),
		rc(2, 2, -1, 1), rc(2, 2, 1, -1), rc(2, 2, 0, 1), rc(-1, -1, 4, 4), rc(0, 0, math.MinInt, 1), rc(0, 0, 1, math.MinInt), rc(math.MinInt, 0, 1, 1), rc(0, math.MinInt, 1, 1),
		rc(math.MinInt, 0, math.MaxInt, 1), rc(math.MaxInt, 0, math.MinInt, 1), rc(0, math.MaxInt, 1, math.MinInt), rc(1000, 0, 0, 1), rc(0, 1000, 1, 0), rc(-1, 0, 1000, 1),
	}
}

// outside are valid rectangles that do not lie within w by h cells.
func outside(w, h int) []api.Rect {
	return []api.Rect{
		rc(w, 0, 1, 1), rc(0, h, 1, 1), rc(0, 0, w+1, 1), rc(0, 0, 1, h+1), rc(w-1, 0, 2, 1), rc(0, h-1, 1, 2), rc(w, h, w, h), rc(0, 0, w+1, h+1),
		rc(49, 0, 1, 1), rc(0, 49, 1, 1), rc(0, 0, 49, 1), rc(0, 0, 1, 49), rc(48, 0, 1, 1), rc(0, 48, 1, 1),
		rc(math.MaxInt, 0, 1, 1), rc(0, math.MaxInt, 1, 1), rc(0, 0, math.MaxInt, 1), rc(0, 0, 1, math.MaxInt),
		rc(math.MaxInt, 0, math.MaxInt, 1), rc(0, math.MaxInt, 1, math.MaxInt), rc(math.MaxInt, math.MaxInt, math.MaxInt, math.MaxInt),
		rc(1, 0, math.MaxInt, 1), rc(0, 1, 1, math.MaxInt), rc(1<<62, 0, 1<<62, 1), rc(0, 1<<62, 1, 1<<62), rc(math.MaxInt-1, 0, 3, 1), rc(0, math.MaxInt-1, 1, 3),
	}
}

func notGrades() []int { return []int{0, -1, 10, 11, math.MinInt, math.MaxInt, 256 + 1, 1 << 32} }

func wantSkin(t *testing.T, what string, got []string, e api.Errno, want []string) {
	t.Helper()
	if !slices.Equal(got, want) || e != api.OK {
		t.Errorf("%s: %q, error %d; want %q", what, got, e, want)
	}
}

func wantRect(t *testing.T, what string, got api.Rect, e api.Errno, want api.Rect, wantE api.Errno) {
	t.Helper()
	if got != want || e != wantE {
		t.Errorf("%s: %v, error %d; want %v, error %d", what, got, e, want, wantE)
	}
}
