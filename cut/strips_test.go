package cut_test

import (
	"fmt"
	"math"
	"math/rand"
	"slices"
	"testing"

	"trank/api"
	"trank/cut"
)

func wantFill(t *testing.T, n int, lengths, worths []int, worth int, count []int) {
	t.Helper()
	if v, l, e := cut.Fill(n, lengths, worths); v != worth || !slices.Equal(l, count) || e != api.OK {
		t.Errorf("Fill %d %v %v: %d, %v, error %d; want %d, %v", n, lengths, worths, v, l, e, worth, count)
	}
}

// fill goes through all ways, those that take most of the first lengths first.
func fill(n int, lengths, worths []int) (int, []int) {
	if len(lengths) == 0 {
		return 0, nil
	}
	best, count := -1, []int(nil)
	for take := n / lengths[0]; take >= 0; take-- {
		worth, l := fill(n-take*lengths[0], lengths[1:], worths[1:])
		if worth += take * worths[0]; worth > best {
			best, count = worth, append([]int{take}, l...)
		}
	}
	return best, count
}

// P5.6 and example 4.
func TestFill(t *testing.T) {
	wantFill(t, 7, []int{3, 2}, []int{4, 3}, 10, []int{1, 2})
	wantFill(t, 4, []int{2, 2}, []int{1, 1}, 2, []int{2, 0})
	wantFill(t, 4, []int{2, 1, 2}, []int{2, 1, 2}, 4, []int{2, 0, 0})
	wantFill(t, 5, []int{3, 2, 1}, []int{3, 2, 1}, 5, []int{1, 1, 0})
	wantFill(t, 0, nil, nil, 0, nil)
	wantFill(t, 2000, nil, nil, 0, nil)
	wantFill(t, 0, []int{1, 2000}, []int{5, 5}, 0, []int{0, 0})
	wantFill(t, 4, []int{5}, []int{5}, 0, []int{0})
	wantFill(t, 5, []int{5}, []int{1000000}, 1000000, []int{1})
	wantFill(t, 2000, []int{2000, 1}, []int{1000000, 1000000}, 2000000000, []int{0, 2000})
	wantFill(t, 2000, []int{2000, 1999}, []int{1, 2}, 2, []int{0, 1})
	wantFill(t, 1999, []int{2000, 1999}, []int{9, 2}, 2, []int{0, 1})
	wantFill(t, 2000, slices.Repeat([]int{7}, 12), slices.Repeat([]int{3}, 12), 855, append([]int{285}, make([]int, 11)...))
}

// P5.6: all ways.
func TestFillOfAllWays(t *testing.T) {
	random := rand.New(rand.NewSource(6))
	for range 2000 {
		n, kinds := random.Intn(25), random.Intn(5)
		var lengths, worths []int
		for range kinds {
			length := 1 + random.Intn(9)
			lengths, worths = append(lengths, length), append(worths, 1+length*(1+random.Intn(2))-random.Intn(2))
		}
		worth, count := fill(n, lengths, worths)
		wantFill(t, n, lengths, worths, worth, count)
	}
}

// P5.6: of many ways with the same worth, the one that takes most of the first lengths.
func TestFillOfEqualWorths(t *testing.T) {
	random := rand.New(rand.NewSource(66))
	for range 300 {
		n := random.Intn(40)
		lengths := []int{2 + random.Intn(9), 2 + random.Intn(9), 2 + random.Intn(9)}
		worth, count := fill(n, lengths, lengths)
		wantFill(t, n, lengths, lengths, worth, count)
	}
}

// P5.6: what is not valid.
func TestFillErrors(t *testing.T) {
	ones := slices.Repeat([]int{1}, 13)
	bad := []int{0, -1, math.MinInt, math.MaxInt}
	refused := func(n int, lengths, worths []int) {
		t.Helper()
		v, l, e := cut.Fill(n, lengths, worths)
		if v != 0 || len(l) != 0 || e != api.ErrArg {
			t.Errorf("Fill %d %v %v: %d, %v, error %d", n, lengths, worths, v, l, e)
		}
	}
	for _, n := range []int{-1, 2001, math.MinInt, math.MaxInt} {
		refused(n, []int{1}, []int{1})
		refused(n, nil, nil)
	}
	for _, n := range append(bad, 2001) {
		refused(5, []int{n, 1}, []int{1, 1})
		refused(2000, []int{1, n}, []int{1, 1})
	}
	for _, n := range append(bad, 1000001) {
		refused(5, []int{1, 1}, []int{n, 1})
		refused(0, []int{1, 1}, []int{1, n})
	}
	refused(5, []int{1}, nil)
	refused(5, nil, []int{1})
	refused(5, []int{1, 2}, []int{1})
	refused(5, []int{1}, []int{1, 2})
	refused(5, ones, ones)
	refused(5, ones, ones[:12])
	refused(5, ones[:12], ones)
	wantFill(t, 5, ones[:12], ones[:12], 5, append([]int{5}, make([]int, 11)...))
	wantFill(t, 5, []int{2000, 5}, []int{1000000, 1}, 1, []int{0, 1})
}

// fewest goes through all divisions of the strips among bars.
func fewest(n int, strips, left []int, best int) int {
	if len(left) >= best || len(strips) == 0 {
		return min(best, len(left))
	}
	for i := range left {
		if left[i] >= strips[0] {
			left[i] -= strips[0]
			best = fewest(n, strips[1:], left, best)
			left[i] += strips[0]
		}
	}
	return fewest(n, strips[1:], append(slices.Clip(left), n-strips[0]), best)
}

// firstFit is the definition.
func firstFit(n int, strips []int) []int {
	bar := slices.Repeat([]int{-1}, len(strips))
	used := make([]int, len(strips))
	for range strips {
		next := -1
		for i, length := range strips {
			if bar[i] < 0 && (next < 0 || length > strips[next]) {
				next = i
			}
		}
		at := 0
		for used[at]+strips[next] > n {
			at++
		}
		used[at] += strips[next]
		bar[next] = at
	}
	return bar
}

// floor is the definition: n times the bars for what has no room, so that nothing is divided before the end.
func floor(n int, strips []int) int {
	best := 0
	for t := 0; t <= n/2; t++ {
		a, b, m, f := 0, 0, 0, 0
		for _, l := range strips {
			if l > n-t {
				a++
			}
			if 2*l > n && l <= n-t {
				b++
				f += n - l
			}
			if 2*l <= n && l >= t {
				m += l
			}
		}
		c := 0
		for c*n < m-f {
			c++
		}
		best = max(best, a+b+c)
	}
	return best
}

func barsOf(bar []int) int {
	n := 0
	for _, b := range bar {
		n = max(n, b+1)
	}
	return n
}

// wantBins checks that no bar is exceeded, and that the bars have the numbers from 0 on.
func wantBins(t *testing.T, n int, strips []int, bars int) {
	t.Helper()
	l, e := cut.Bins(n, strips)
	if len(l) != len(strips) || e != api.OK {
		t.Errorf("Bins %d %v: %v, error %d", n, strips, l, e)
		return
	}
	used := make([]int, bars)
	for i, bar := range l {
		if bar < 0 || bar >= bars {
			t.Errorf("Bins %d %v: %v; there are %d bars", n, strips, l, bars)
			return
		}
		used[bar] += strips[i]
	}
	for _, u := range used {
		if u > n || u == 0 {
			t.Errorf("Bins %d %v: %v uses %v", n, strips, l, used)
		}
	}
}

// wantStrips checks all functions of strips.
func wantStrips(t *testing.T, n int, strips []int, bars int) {
	t.Helper()
	what := fmt.Sprint(" ", n, strips)
	few, e := cut.Fewest(n, strips)
	wantNumber(t, "Fewest"+what, few, e, bars)
	wantBins(t, n, strips, bars)
	fit, e := cut.FirstFit(n, strips)
	wantNumbers(t, "FirstFit"+what, fit, e, firstFit(n, strips))
	low, e := cut.Floor(n, strips)
	wantNumber(t, "Floor"+what, low, e, floor(n, strips))
	if low > few || few > barsOf(fit) || 9*barsOf(fit) > 11*few+6 { // P5.13
		t.Errorf("%s: Floor %d, Fewest %d, FirstFit %d", what, low, few, barsOf(fit))
	}
}

// Example 5, and P5.7, P5.8 at their ends.
func TestStripsOfTheExamples(t *testing.T) {
	l, e := cut.FirstFit(10, []int{6, 5, 5, 4})
	wantNumbers(t, "FirstFit", l, e, []int{0, 1, 1, 0})
	v, e := cut.Floor(10, []int{6, 5, 5, 4})
	wantNumber(t, "Floor", v, e, 2)
	wantStrips(t, 10, []int{6, 5, 5, 4}, 2)
	wantStrips(t, 10, nil, 0)
	wantStrips(t, 10, []int{}, 0)
	wantStrips(t, 1, nil, 0)
	wantStrips(t, 1, []int{1}, 1)
	wantStrips(t, 1, slices.Repeat([]int{1}, 14), 14)
	wantStrips(t, 2000, slices.Repeat([]int{2000}, 14), 14)
	wantStrips(t, 2000, slices.Repeat([]int{1000}, 14), 7)
	wantStrips(t, 2000, slices.Repeat([]int{1001}, 14), 14)
	wantStrips(t, 2000, slices.Repeat([]int{1}, 14), 1)
	wantStrips(t, 7, []int{3, 4, 3, 4, 7, 1}, 4)
	wantStrips(t, 100, []int{44, 24, 24, 22, 21, 17, 8, 8, 6, 6, 44, 24, 24, 22}, 3)
	wantStrips(t, 10, []int{4, 4, 5, 5, 3, 3, 3, 3}, 3) // the longest ones first take a bar more
}

// P5.7, P5.8, P5.13: all divisions.
func TestStrips(t *testing.T) {
	random := rand.New(rand.NewSource(7))
	found := seen{}
	for i := range 4000 {
		n, most := 1+random.Intn(30), random.Intn(9)
		if i%10 == 0 {
			n = 1900 + random.Intn(101)
		}
		low, high := 1+random.Intn(n), 1+random.Intn(n)
		low, high = min(low, high), max(low, high)
		var strips []int
		for range most {
			strips = append(strips, low+random.Intn(high-low+1))
		}
		bars := fewest(n, strips, nil, len(strips))
		wantStrips(t, n, strips, bars)
		if barsOf(firstFit(n, strips)) > bars {
			found["first fit is more"]++
		}
		if floor(n, strips) < bars {
			found["floor is less"]++
		}
	}
	found.want(t, 5, "first fit is more", "floor is less")
}

// P5.7: 14 strips that fill their bars.
func TestManyStrips(t *testing.T) {
	random := rand.New(rand.NewSource(14))
	for range 12 {
		bars := 2 + random.Intn(4)
		n := 60 + random.Intn(1941)
		strips := filling(random, n, bars)
		wantStrips(t, n, strips, bars)
	}
}

// filling cuts so many bars into 14 strips without a rest.
func filling(random *rand.Rand, n, bars int) []int {
	strips := slices.Repeat([]int{n}, bars)
	for len(strips) < 14 {
		i := random.Intn(len(strips))
		if strips[i] > 1 {
			cut := 1 + random.Intn(strips[i]-1)
			strips[i] -= cut
			strips = append(strips, cut)
		}
	}
	random.Shuffle(len(strips), func(i, j int) { strips[i], strips[j] = strips[j], strips[i] })
	return strips
}

// Chapter 5, 'Errors': ErrArg of bars and strips.
func TestStripErrors(t *testing.T) {
	refused := func(n int, strips []int) {
		t.Helper()
		what := fmt.Sprint(" ", n, strips)
		v, e := cut.Fewest(n, strips)
		wantError(t, "Fewest"+what, v, e, api.ErrArg)
		l, e := cut.Bins(n, strips)
		wantError(t, "Bins"+what, l, e, api.ErrArg)
		l, e = cut.FirstFit(n, strips)
		wantError(t, "FirstFit"+what, l, e, api.ErrArg)
		v, e = cut.Floor(n, strips)
		wantError(t, "Floor"+what, v, e, api.ErrArg)
	}
	for _, n := range []int{0, -1, 2001, math.MinInt, math.MaxInt} {
		refused(n, nil)
		refused(n, []int{1})
		refused(n, []int{n})
	}
	for _, length := range []int{0, -1, 11, 2000, math.MinInt, math.MaxInt} {
		refused(10, []int{length, 1, 1})
		refused(10, []int{1, 1, length})
	}
	refused(2000, []int{2001})
	refused(10, slices.Repeat([]int{1}, 15))
	refused(10, slices.Repeat([]int{1}, 64))
	refused(2000, slices.Repeat([]int{1}, 1000))
}
