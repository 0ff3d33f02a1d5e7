package skin_test

import (
	"fmt"
	"math"
	"math/rand"
	"slices"
	"testing"

	"trank/api"
	"trank/skin"
)

// P3.5, P3.11

// around is the document's definition: what the pick makes of the grades of the square, where those that are no cells have the grade beyond, if it is one.
func around(s []string, k int, beyond string, pick func(l []byte) byte) []string {
	var l []byte
	return fill(len(s[0]), len(s), func(x, y int) byte {
		l = l[:0]
		for j := y - k; j <= y+k; j++ {
			for i := x - k; i <= x+k; i++ {
				if j < 0 || j >= len(s) || i < 0 || i >= len(s[0]) {
					l = append(l, beyond...)
				} else {
					l = append(l, s[j][i])
				}
			}
		}
		return pick(l)
	})
}

func eroded(s []string, k int) []string { return around(s, k, "0", slices.Min[[]byte]) }

func dilated(s []string, k int) []string { return around(s, k, "", slices.Max[[]byte]) }

func TestErodeDilateOpen(t *testing.T) {
	for _, s := range samples(150) {
		for _, k := range []int{0, 1, 2, 3, 4, 8, 9} {
			what := fmt.Sprint(s, k)
			got, e := skin.Erode(s, k)
			wantSkin(t, "erode "+what, got, e, eroded(s, k))
			got, e = skin.Dilate(s, k)
			wantSkin(t, "dilate "+what, got, e, dilated(s, k))
			got, e = skin.Open(s, k)
			wantSkin(t, "open "+what, got, e, dilated(eroded(s, k), k))
		}
	}
}

func TestErodeDilateOpenOfGreatSkins(t *testing.T) {
	random := rand.New(rand.NewSource(1))
	for _, s := range [][]string{with(full(48, 48, "0"), 0, 47, '3'), with(full(48, 48, "9"), 47, 0, '3'), full(47, 48, "8"), full(48, 1, "8"), randomSkin(random, 48, 48), blotched(random, 48, 47, 30)} {
		for _, k := range []int{1, 23, 24, 47, 48} {
			what := fmt.Sprint(s, k)
			got, e := skin.Erode(s, k)
			wantSkin(t, "erode "+what, got, e, eroded(s, k))
			got, e = skin.Dilate(s, k)
			wantSkin(t, "dilate "+what, got, e, dilated(s, k))
		}
	}
	got, e := skin.Open(full(47, 48, "8"), 23)
	wantSkin(t, "one square that fits", got, e, full(47, 48, "8"))
	got, e = skin.Open(full(47, 48, "8"), 24)
	wantSkin(t, "a square too great", got, e, full(47, 48, "0"))
}

func TestOpenExamples(t *testing.T) {
	s := full(3, 3, "1")
	got, e := skin.Erode(s, 1)
	wantSkin(t, "erode", got, e, []string{"000", "010", "000"})
	got, e = skin.Open(s, 1)
	wantSkin(t, "open", got, e, s)
	got, e = skin.Dilate([]string{"0000", "0700", "0000", "0003"}, 1)
	wantSkin(t, "dilate", got, e, []string{"7770", "7770", "7773", "0033"})
}

func TestErodeDilateOpenErrors(t *testing.T) {
	calls := []func(s []string, k int) ([]string, api.Errno){skin.Erode, skin.Dilate, skin.Open}
	for i, call := range calls {
		for _, k := range []int{-1, 49, 50, math.MinInt, math.MaxInt, 1 << 32} {
			if got, e := call(full(3, 3, "1"), k); len(got) > 0 || e != api.ErrArg {
				t.Errorf("call %d, k %d: %q, error %d", i, k, got, e)
			}
		}
		for _, k := range []int{0, 1, 48} {
			if got, e := call([]string{"5"}, k); len(got) != 1 || e != api.OK {
				t.Errorf("call %d, k %d: %q, error %d", i, k, got, e)
			}
			for what, s := range invalid() {
				if got, e := call(s, k); len(got) > 0 || e != api.ErrArg {
					t.Errorf("call %d, k %d, %s: %q, error %d", i, k, what, got, e)
				}
			}
		}
	}
}

func TestOpening(t *testing.T) {
	for _, s := range slices.Concat(samples(100), great()) {
		for k := range 4 {
			open, e := skin.Open(s, k)
			if e != api.OK {
				t.Fatalf("%q %d: error %d", s, k, e)
			}
			again, e := skin.Open(open, k)
			wantSkin(t, fmt.Sprint(s, k), again, e, open)
			for y := range s {
				for x := range s[y] {
					if open[y][x] > s[y][x] {
						t.Fatalf("%q %d: %q is greater", s, k, open)
					}
				}
			}
		}
	}
}

func TestErodedSquares(t *testing.T) {
	for _, s := range samples(60) {
		for k := range 3 {
			got, _ := skin.Erode(s, k)
			for _, r := range allRects(len(s[0]), len(s)) {
				for g := 1; g <= 9 && r.W == 1 && r.H == 1; g++ {
					square := rc(r.X-k, r.Y-k, 2*k+1, 2*k+1)
					all := liesWithin(square, whole(s)) && usableCells(s, g, square) == square.W*square.H
					if usable(got, g, r.X, r.Y) != all {
						t.Fatalf("%q %d: %q at %v and %d", s, k, got, r, g)
					}
				}
			}
		}
	}
}
