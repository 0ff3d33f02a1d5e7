package cut

import (
	"slices"

	"trank/api"
)

const (
	maxBar    = 2000 // the length of a bar
	maxStrips = 14
)

// Fill returns the most worthy strips of a bar.
func Fill(n int, lengths, worths []int) (int, []int, api.Errno) {
	if n < 0 || n > maxBar || !areLengths(lengths, maxBar, api.MaxKinds) || !areWorths(worths) || len(lengths) != len(worths) {
		return 0, nil, api.ErrArg
	}
	best := fills(n, lengths, worths)
	count := make([]int, len(lengths))
	room := n
	for i, length := range lengths {
		most := room / length
		for best[i][room] != most*worths[i]+best[i+1][room-most*length] {
			most--
		}
		count[i] = most
		room -= most * length
	}
	return best[0][n], count, api.OK
}

// fills returns for each index of a length, and for each room up to n, the greatest worth of strips of that length and the following ones.
func fills(n int, lengths, worths []int) [][]int {
	best := make([][]int, len(lengths)+1)
	best[len(lengths)] = make([]int, n+1)
	for i := len(lengths) - 1; i >= 0; i-- {
		best[i] = slices.Clone(best[i+1])
		for room := lengths[i]; room <= n; room++ {
			best[i][room] = max(best[i][room], worths[i]+best[i][room-lengths[i]])
		}
	}
	return best
}

// areLengths reports whether there are at most so many lengths, each from 1 to the greatest one.
func areLengths(lengths []int, greatest, many int) bool {
	for _, l := range lengths {
		if l < 1 || l > greatest {
			return false
		}
	}
	return len(lengths) <= many
}

func areWorths(worths []int) bool {
	for _, w := range worths {
		if w < 1 || w > maxWorth {
			return false
		}
	}
	return true
}

// areStrips reports whether n is the length of a bar and the strips are valid.
func areStrips(n int, strips []int) bool {
	return n >= 1 && n <= maxBar && areLengths(strips, n, maxStrips)
}

// Fewest returns the least number of bars.
func Fewest(n int, strips []int) (int, api.Errno) {
	if !areStrips(n, strips) {
		return 0, api.ErrArg
	}
	sets := fewest(n, strips)
	return sets[len(sets)-1].bars, api.OK
}

// Bins returns a bar for each strip, with the least number of bars.
func Bins(n int, strips []int) ([]int, api.Errno) {
	if !areStrips(n, strips) {
		return nil, api.ErrArg
	}
	sets := fewest(n, strips)
	bar := make([]int, len(strips))
	for set := len(sets) - 1; set > 0; set ^= 1 << sets[set].last {
		bar[sets[set].last] = sets[set].bars - 1
	}
	return bar, api.OK
}

// filled is how far bars are filled one after another: their number, the length used of the last one, and the strip put in last.
type filled struct{ bars, used, last int }

// fewest returns for each set of strips, as the bits of its index, the way to fill bars one after another that takes the fewest bars, and of these uses least of the last one.
func fewest(n int, strips []int) []filled {
	sets := make([]filled, 1<<len(strips))
	sets[0] = filled{used: n}
	for set := 1; set < len(sets); set++ {
		sets[set].bars = len(strips) + 1
		for i, length := range strips {
			if set>>i&1 == 0 {
				continue
			}
			if f := sets[set^1<<i].add(n, i, length); f.isLess(sets[set]) {
				sets[set] = f
			}
		}
	}
	return sets
}

// add puts a strip into the last bar, or into a new one.
func (f filled) add(n, strip, length int) filled {
	if f.used+length > n {
		return filled{f.bars + 1, length, strip}
	}
	return filled{f.bars, f.used + length, strip}
}

func (f filled) isLess(g filled) bool {
	return f.bars < g.bars || f.bars == g.bars && f.used < g.used
}

// FirstFit returns a bar for each strip, the longest ones first.
func FirstFit(n int, strips []int) ([]int, api.Errno) {
	if !areStrips(n, strips) {
		return nil, api.ErrArg
	}
	var order, room []int
	for i := range strips {
		order = append(order, i)
	}
	slices.SortStableFunc(order, func(i, j int) int { return strips[j] - strips[i] })
	bar := make([]int, len(strips))
	for _, i := range order {
		at := slices.IndexFunc(room, func(left int) bool { return left >= strips[i] })
		if at < 0 {
			at = len(room)
			room = append(room, n)
		}
		room[at] -= strips[i]
		bar[i] = at
	}
	return bar, api.OK
}

// Floor returns a lower bound of the number of bars.
func Floor(n int, strips []int) (int, api.Errno) {
	if !areStrips(n, strips) {
		return 0, api.ErrArg
	}
	floor := 0
	for t := range n/2 + 1 {
		floor = max(floor, floorAt(n, strips, t))
	}
	return floor, api.OK
}

// floorAt counts a bar for each strip longer than n/2, since no two of them share one, and the bars for what of the strips from t to n/2 their bars have no room for. (A strip longer than n - t leaves no room for these.)
func floorAt(n int, strips []int, t int) int {
	bars, middle, free := 0, 0, 0
	for _, length := range strips {
		switch {
		case length > n-t:
			bars++
		case 2*length > n:
			bars++
			free += n - length
		case length >= t:
			middle += length
		}
	}
	return bars + (max(middle-free, 0)+n-1)/n
}
