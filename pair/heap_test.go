package pair_test

import (
	"fmt"
	"math"
	"math/rand"
	"slices"
	"testing"

	"trank/api"
	"trank/pair"
)

// heap is gloves that fit either hand.
type heap struct {
	h []pair.Glove
	u pair.Rule
}

func (h heap) String() string { return fmt.Sprint(h.h, " by ", h.u) }

func (h heap) joins(i, j int) bool {
	_, ok := cost(h.h[i], h.h[j], h.u)
	return ok && i != j
}

// most finds the greatest number of pairs through all sets of gloves.
func (h heap) most() int {
	best := make([]int, 1<<len(h.h))
	for set := range best {
		for i := range h.h {
			if set>>i&1 == 0 {
				continue
			}
			// Glove i is the first of the set: it is single, or has another of the set.
			rest := set &^ (1 << i)
			best[set] = best[rest]
			for j := range h.h {
				if rest>>j&1 == 1 && h.joins(i, j) {
					best[set] = max(best[set], 1+best[rest&^(1<<j)])
				}
			}
			break
		}
	}
	return best[len(best)-1]
}

// isMatching is the definition.
func (h heap) isMatching(m []int) bool {
	for i, j := range m {
		if j != -1 && (j < 0 || j >= len(m) || !h.joins(i, j) || m[j] != i) {
			return false
		}
	}
	return len(m) == len(h.h)
}

// odd joins the classes of the gloves that are not of b, and counts the odd ones.
func (h heap) odd(b []int) int {
	class := identity(len(h.h))
	for i := range h.h {
		for j := range h.h {
			if h.joins(i, j) && !slices.Contains(b, i) && !slices.Contains(b, j) {
				one, other := class[i], class[j]
				for k := range class {
					if class[k] == other {
						class[k] = one
					}
				}
			}
		}
	}
	count := map[int]int{}
	for i := range h.h {
		if !slices.Contains(b, i) {
			count[class[i]]++
		}
	}
	odd := 0
	for _, n := range count {
		odd += n % 2
	}
	return odd
}

func couples(m []int) int {
	n := 0
	for i, j := range m {
		if i < j {
			n++
		}
	}
	return n
}

// wantHeap checks that Heap and Barrier prove each other, which no error of theirs survives.
func wantHeap(t *testing.T, h heap) (int, []int) {
	t.Helper()
	m, e := pair.Heap(h.h, h.u)
	b, f := pair.Barrier(h.h, h.u)
	n := couples(m)
	if e != api.OK || f != api.OK || !h.isMatching(m) || !areIndices(b, len(h.h)) || 2*n != len(h.h)+len(b)-h.odd(b) || 2*n > len(h.h) {
		t.Errorf("Heap %v: %v, error %d; Barrier %v, error %d", h, m, e, b, f)
	}
	pairs, e := pair.Pairs(h.h, h.u, m)
	wantNumber(t, fmt.Sprint("Pairs ", h, m), pairs, e, n)
	odd, e := pair.Odd(h.h, h.u, b)
	wantNumber(t, fmt.Sprint("Odd ", h, b), odd, e, h.odd(b))
	return n, b
}

func heapExamples() []heap {
	u := ofShade(1, 10)
	square := pair.Rule{Limit: gl(2, 2, 0, 0)}
	var ring []pair.Glove // of 5: each has two others next to it
	for _, p := range [][2]int{{0, 0}, {2, 0}, {3, 2}, {1, 3}, {0, 2}} {
		ring = append(ring, gl(p[0], p[1], 0, 0))
	}
	return []heap{
		{shades(0, 8, 16), u}, {nil, u}, {shades(1), u}, {shades(1, 2), u}, {shades(1, 12), u}, {shades(1, 11), u}, {shades(1, 2, 3), u}, {shades(0, 5, 9, 14, 22, 26, 31), u}, {shades(0, 8, 16, 24), u},
		{shades(8, 0, 16, 24, 100, 101, 102, 200, 201), u}, {shades(5, 5, 5, 5, 5), ofShade(1, 0)}, {shades(0, 10, 20, 30, 40), u}, {shades(0, 0, 0, 10, 20, 20, 20), u}, {ring, square},
		{append(slices.Clone(ring), gl(5, 4, 0, 0), gl(7, 6, 0, 0)), square},
	}
}

// plane returns a heap of n gloves with few or many others next to each one.
func plane(random *rand.Rand, n int) heap {
	span := 2 + random.Intn(30)
	spans := [4]int{span, span, random.Intn(3) * span / 2, random.Intn(2) * span / 2}
	limit := 1 + random.Intn(1+span/3)
	return heap{randomGloves(random, n, spans), pair.Rule{Weight: gl(1, 1, 1, 1), Limit: gl(limit, limit, limit, limit)}}
}

func heaps(n, most int) []heap {
	random := rand.New(rand.NewSource(int64(n * most)))
	l := heapExamples()
	for k := range n {
		if k%3 == 0 {
			s := randomSample(random, random.Intn(most+1), 0)
			l = append(l, heap{s.l, s.u})
		} else {
			l = append(l, plane(random, random.Intn(most+1)))
		}
	}
	return l
}

// P6.8: the greatest number of pairs of small heaps.
func TestHeapOfAllMatchings(t *testing.T) {
	found := seen{}
	for _, h := range heaps(400, 10) {
		n, b := wantHeap(t, h)
		if most := h.most(); n != most {
			t.Errorf("Heap %v: %d pairs; want %d", h, n, most)
		}
		found.note("gloves are left", 2*n < len(h.h)-1)
		found.note("a barrier", len(b) > 0)
		found.note("no barrier, and an odd class", len(b) == 0 && h.odd(b) > 0)
	}
	found.want(t, 30, "gloves are left", "a barrier", "no barrier, and an odd class")
}

// P6.8, P6.14: large heaps, by the proof.
func TestLargeHeaps(t *testing.T) {
	random := rand.New(rand.NewSource(14))
	found := seen{}
	for range 1500 {
		h := plane(random, 24+random.Intn(9))
		n, b := wantHeap(t, h)
		found.note("a barrier of two", len(b) > 1)
		found.note("all", 2*n >= len(h.h)-1)
	}
	found.want(t, 100, "a barrier of two", "all")
	for _, s := range great() {
		wantHeap(t, heap{s.l, s.u})
	}
	for n, want := range map[int]int{1: 0, 2: 1, 31: 15, 32: 16} {
		for _, h := range []heap{{steps(n, 0, 1), ofShade(1, 1)}, {steps(n, 0, 31), ofShade(1, 31)}, {steps(n, 0, 0), ofShade(0, 0)}} {
			if pairs, _ := wantHeap(t, h); pairs != want {
				t.Errorf("Heap %v: %d pairs; want %d", h, pairs, want)
			}
		}
	}
	wantHeap(t, heap{steps(32, 0, 2), ofShade(1, 1)})
}

// P6.8: rings of an odd number that hang together, and whose gloves come in any order.
func TestHeapOfRings(t *testing.T) {
	random := rand.New(rand.NewSource(9))
	ring := heapExamples()[13].h
	for range 300 {
		var l []pair.Glove
		for k := range 5 {
			x, y := 3*k+random.Intn(3), random.Intn(3)*k
			for _, g := range ring[:3+random.Intn(3)] {
				l = append(l, gl(g.Shade+x, g.Grain+y, 0, 0))
			}
		}
		random.Shuffle(len(l), func(i, j int) { l[i], l[j] = l[j], l[i] })
		wantHeap(t, heap{l, pair.Rule{Limit: gl(2, 2, 0, 0)}})
	}
}

// Example 4.
func TestHeapExample(t *testing.T) {
	h := heap{shades(0, 8, 16), ofShade(1, 10)}
	n, _ := wantHeap(t, h)
	odd, e := pair.Odd(h.h, h.u, []int{1})
	if n != 1 || odd != 2 || e != api.OK {
		t.Errorf("Heap: %d pairs; Odd: %d, error %d", n, odd, e)
	}
}

// P6.8: all slices of indices of small heaps, with indices that are none.
func TestPairsOfAllSlices(t *testing.T) {
	found := seen{}
	for _, h := range heaps(60, 4) {
		if len(h.h) > 4 {
			continue
		}
		all := [][]int{nil}
		for range h.h {
			var longer [][]int
			for _, m := range all {
				for j := -2; j <= len(h.h); j++ {
					longer = append(longer, append(append([]int{}, m...), j))
				}
			}
			all = longer
		}
		for _, m := range all {
			n, e := pair.Pairs(h.h, h.u, m)
			if h.isMatching(m) {
				wantNumber(t, fmt.Sprint("Pairs ", h, m), n, e, couples(m))
			} else {
				wantError(t, fmt.Sprint("Pairs ", h, m), n, e, api.ErrForm)
			}
			found[fmt.Sprint(h.isMatching(m), couples(m))]++
		}
	}
	found.want(t, 5, "true 0", "true 1", "true 2", "false 0", "false 1", "false 2")
}

// P6.8: ErrForm case by case, and ErrSize before it.
func TestPairsErrors(t *testing.T) {
	h, u := shades(0, 8, 16, 24), ofShade(1, 10)
	for _, m := range [][]int{
		{0, -1, -1, -1}, {-1, -1, -1, 3}, {1, -1, -1, -1}, {-1, 0, -1, -1}, {1, 2, 0, -1}, {1, 0, 1, -1}, {2, -1, 0, -1}, {3, -1, -1, 0}, {4, -1, -1, -1}, {-2, -1, -1, -1}, {-1, -1, -1, 4}, {math.MaxInt, -1, -1, -1}, {-1, math.MinInt, -1, -1}, {1, 0, 3, 33}, {1, 0, 32, -1},
	} {
		n, e := pair.Pairs(h, u, m)
		wantError(t, fmt.Sprint("Pairs ", m), n, e, api.ErrForm)
	}
	for _, m := range [][]int{nil, {}, {1, 0, 3}, {1, 0, 3, 2, -1}, {0, 0, 0}, {9, 9, 9, 9, 9}, make([]int, 33), make([]int, 100000)} {
		n, e := pair.Pairs(h, u, m)
		wantError(t, fmt.Sprint("Pairs ", len(m)), n, e, api.ErrSize)
	}
	n, e := pair.Pairs(h, u, []int{1, 0, 3, 2})
	wantNumber(t, "Pairs", n, e, 2)
}

// P6.9: the odd classes without any gloves, and what they say of all matchings.
func TestOddWithoutAnyGloves(t *testing.T) {
	for _, h := range heaps(60, 9) {
		most := h.most()
		for set := range 1 << len(h.h) {
			var b []int
			for i := range h.h {
				if set>>i&1 == 1 {
					b = append(b, i)
				}
			}
			d, e := pair.Odd(h.h, h.u, b)
			wantNumber(t, fmt.Sprint("Odd ", h, b), d, e, h.odd(b))
			if 2*most > len(h.h)+len(b)-d {
				t.Errorf("Odd %v, %v: %d, but there are %d pairs", h, b, d, most)
			}
		}
	}
}

// P6.9: ErrArg unless b has rising indices.
func TestOddErrors(t *testing.T) {
	h, u := shades(0, 8, 16, 24), ofShade(1, 10)
	for _, b := range [][]int{
		{-1}, {4}, {0, 0}, {3, 3}, {1, 0}, {0, 2, 1}, {0, 1, 2, 3, 4}, {0, 1, 2, 3, 3}, {-1, 0}, {-2}, {-1, 2}, {32}, {33}, {31}, {math.MinInt}, {math.MaxInt}, {0, math.MaxInt}, {1, math.MinInt}, make([]int, 100000),
	} {
		n, e := pair.Odd(h, u, b)
		wantError(t, fmt.Sprint("Odd ", len(b)), n, e, api.ErrArg)
	}
	if n, e := pair.Odd(nil, u, []int{0}); n != 0 || e != api.ErrArg {
		t.Errorf("Odd of nothing: %d, error %d", n, e)
	}
	for _, x := range []struct {
		b    []int
		want int
	}{{nil, 0}, {[]int{0}, 1}, {[]int{1}, 1}, {[]int{1, 2}, 2}, {[]int{0, 1, 2, 3}, 0}, {[]int{3}, 1}} {
		n, e := pair.Odd(h, u, x.b)
		wantNumber(t, fmt.Sprint("Odd ", x.b), n, e, x.want)
	}
}
