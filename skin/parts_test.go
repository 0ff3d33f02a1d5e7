package skin_test

import (
	"math/rand"
	"slices"
	"testing"

	"trank/api"
	"trank/skin"
)

// P3.6, P3.12

// forest is the oracle's classes: each place has a root, and what is connected has the same one.
type forest map[[2]int][2]int

func (f forest) root(p [2]int) [2]int {
	for f[p] != p {
		f[p] = f[f[p]]
		p = f[p]
	}
	return p
}

func (f forest) join(p, q [2]int) {
	if a, b := f.root(p), f.root(q); a != b {
		f[a] = b
	}
}

// roots joins the places of w by h cells, with a frame of one cell around them, that are in, by those steps; and returns the root of each.
func roots(w, h int, steps [][2]int, in func(x, y int) bool) map[[2]int][2]int {
	f := forest{}
	for y := -1; y <= h; y++ {
		for x := -1; x <= w; x++ {
			if in(x, y) {
				f[[2]int{x, y}] = [2]int{x, y}
			}
		}
	}
	for y := -1; y <= h; y++ {
		for x := -1; x <= w; x++ {
			for _, d := range steps {
				if _, found := f[[2]int{x + d[0], y + d[1]}]; in(x, y) && found {
					f.join([2]int{x, y}, [2]int{x + d[0], y + d[1]})
				}
			}
		}
	}
	l := map[[2]int][2]int{}
	for p := range f {
		l[p] = f.root(p)
	}
	return l
}

func different(l map[[2]int][2]int) int {
	seen := map[[2]int]bool{}
	for _, root := range l {
		seen[root] = true
	}
	return len(seen)
}

// partsOf is the document's definition.
func partsOf(s []string, g int) []skin.Part {
	w, h := len(s[0]), len(s)
	class := roots(w, h, [][2]int{{1, 0}, {0, 1}}, func(x, y int) bool { return usable(s, g, x, y) })
	var parts []skin.Part
	done := map[[2]int]bool{}
	for y := range h {
		for x := range w {
			root, found := class[[2]int{x, y}]
			if !found || done[root] {
				continue
			}
			done[root] = true
			parts = append(parts, partOf(w, h, func(x, y int) bool {
				r, found := class[[2]int{x, y}]
				return found && r == root
			}))
		}
	}
	return parts
}

func partOf(w, h int, in func(x, y int) bool) skin.Part {
	s := fill(w, h, func(x, y int) byte {
		if in(x, y) {
			return '1'
		}
		return '0'
	})
	p := skin.Part{Cells: usableCells(s, 1, whole(s))}
	p.Box, _ = boxOf(s, 1)
	for y := range h {
		for x := range w {
			for _, d := range [][2]int{{1, 0}, {0, 1}, {-1, 0}, {0, -1}} {
				if in(x, y) && !in(x+d[0], y+d[1]) {
					p.Edge++
				}
			}
		}
	}
	p.Holes = different(roots(w, h, [][2]int{{1, 0}, {0, 1}, {1, 1}, {1, -1}}, func(x, y int) bool { return !in(x, y) })) - 1
	return p
}

func wantParts(t *testing.T, s []string, g int, want []skin.Part) {
	t.Helper()
	if got, e := skin.Parts(s, g); !slices.Equal(got, want) || e != api.OK {
		t.Fatalf("%q at %d: %v, error %d; want %v", s, g, got, e, want)
	}
}

func TestParts(t *testing.T) {
	for _, s := range samples(200) {
		for g := 1; g <= 9; g++ {
			wantParts(t, s, g, partsOf(s, g))
		}
	}
	for n := range 1 << 12 {
		wantParts(t, binary(4, 3, n), 1, partsOf(binary(4, 3, n), 1))
	}
}

func TestPartsExamples(t *testing.T) {
	wantParts(t, []string{"110", "111", "011"}, 1, []skin.Part{{Cells: 7, Edge: 12, Holes: 0, Box: rc(0, 0, 3, 3)}})
	wantParts(t, []string{"111", "101", "111"}, 1, []skin.Part{{Cells: 8, Edge: 16, Holes: 1, Box: rc(0, 0, 3, 3)}})
	wantParts(t, []string{"011", "101", "111"}, 1, []skin.Part{{Cells: 7, Edge: 16, Holes: 0, Box: rc(0, 0, 3, 3)}})
	wantParts(t, []string{"000", "000"}, 1, nil)
	wantParts(t, []string{"321", "999"}, 4, []skin.Part{{Cells: 3, Edge: 8, Holes: 0, Box: rc(0, 1, 3, 1)}})
	// Parts that touch at a corner only, the first by its first cell.
	wantParts(t, []string{"010", "100"}, 1, []skin.Part{{Cells: 1, Edge: 4, Box: rc(1, 0, 1, 1)}, {Cells: 1, Edge: 4, Box: rc(0, 1, 1, 1)}})
	// A part within the hole of another: that hole is one, with the other's cells.
	wantParts(t, []string{"11111", "10001", "10101", "10001", "11111"}, 1, []skin.Part{{Cells: 16, Edge: 32, Holes: 1, Box: rc(0, 0, 5, 5)}, {Cells: 1, Edge: 4, Holes: 0, Box: rc(2, 2, 1, 1)}})
	// Holes that touch at a corner are one.
	wantParts(t, []string{"1111", "1011", "1101", "1111"}, 1, []skin.Part{{Cells: 14, Edge: 24, Holes: 1, Box: rc(0, 0, 4, 4)}})
	wantParts(t, []string{"11111", "10101", "11111"}, 1, []skin.Part{{Cells: 13, Edge: 24, Holes: 2, Box: rc(0, 0, 5, 3)}})
}

func TestPartsOfGreatSkins(t *testing.T) {
	random := rand.New(rand.NewSource(2))
	for range 3 {
		s := blotched(random, 48, 48, 100)
		wantParts(t, s, 1, partsOf(s, 1))
		s = blotched(random, 40, 48, 200)
		wantParts(t, s, 9, partsOf(s, 9))
	}
	parts, e := skin.Parts(fill(48, 48, func(x, y int) byte { return "10"[(x+y)%2] }), 1)
	if len(parts) != 1152 || parts[1151] != (skin.Part{Cells: 1, Edge: 4, Box: rc(47, 47, 1, 1)}) || e != api.OK {
		t.Error(len(parts), e)
	}
	parts, e = skin.Parts(fill(48, 48, func(x, y int) byte { return "01"[max(x%2, y%2)] }), 1)
	if len(parts) != 1 || parts[0].Cells != 1728 || parts[0].Holes != 23*23 || e != api.OK {
		t.Error(parts, e)
	}
	// Rings within rings.
	parts, e = skin.Parts(fill(48, 48, func(x, y int) byte { return "10"[min(x, y, 47-x, 47-y)%2] }), 1)
	if len(parts) != 12 || parts[0] != (skin.Part{Cells: 188, Edge: 376, Holes: 1, Box: rc(0, 0, 48, 48)}) || parts[11].Holes != 1 || e != api.OK {
		t.Error(parts, e)
	}
}

func TestPartsSumToTheUsableCells(t *testing.T) {
	for _, s := range slices.Concat(samples(200), great()) {
		for g := 1; g <= 9; g++ {
			parts, e := skin.Parts(s, g)
			sum := 0
			for _, p := range parts {
				sum += p.Cells
			}
			if sum != usableCells(s, g, whole(s)) || e != api.OK {
				t.Fatalf("%q at %d: %v", s, g, parts)
			}
		}
	}
}
