package pair

import (
	"slices"
	"sort"

	"trank/api"
)

// Most returns the greatest size of a pairing.
func Most(l, r []Glove, u Rule) (int, api.Errno) {
	t, ok := open(l, r, u)
	if !ok {
		return 0, api.ErrArg
	}
	return t.most(maxCost), api.OK
}

// most returns the greatest size of a pairing whose pairs cost at most so much each.
func (t *table) most(cost int) int { return newMarket(t.upTo(cost)).size() }

// Cover returns gloves of which each allowed pair has one.
func Cover(l, r []Glove, u Rule) ([]int, []int, api.Errno) {
	t, ok := open(l, r, u)
	if !ok {
		return nil, nil, api.ErrArg
	}
	// Where each pair is worth 1, each price is 0 or 1.
	m := newMarket(t.upTo(maxCost))
	return priced(m.a), priced(m.b), api.OK
}

// priced returns the indices of the gloves that have a price above 0.
func priced(prices [api.MaxHands]int) []int {
	var l []int
	for i, price := range prices {
		if price > 0 {
			l = append(l, i)
		}
	}
	return l
}

// Cheapest returns the first of the cheapest pairings.
func Cheapest(l, r []Glove, u Rule) ([]int, api.Errno) {
	t, ok := open(l, r, u)
	if !ok {
		return nil, api.ErrArg
	}
	return newMarket(t).first(), api.OK
}

// Prices returns prices that prove that a pairing is cheapest.
func Prices(l, r []Glove, u Rule) ([]int, []int, api.Errno) {
	t, ok := open(l, r, u)
	if !ok {
		return nil, nil, api.ErrArg
	}
	m := newMarket(t)
	return slices.Clone(m.a[:t.lefts]), slices.Clone(m.b[:t.rights]), api.OK
}

// Worth returns the sum of prices, and whether they are a proof.
func Worth(l, r []Glove, u Rule, a, b []int) (int, bool, api.Errno) {
	t, ok := open(l, r, u)
	if !ok {
		return 0, false, api.ErrArg
	}
	if len(a) != t.lefts || len(b) != t.rights {
		return 0, false, api.ErrSize
	}
	if !arePrices(a) || !arePrices(b) {
		return 0, false, api.ErrArg
	}
	if !t.isProof(a, b) {
		return 0, false, api.OK
	}
	return sum(a) + sum(b), true, api.OK
}

func arePrices(l []int) bool {
	for _, price := range l {
		if price < 0 || price > whole {
			return false
		}
	}
	return true
}

// isProof asks nothing of a pair that is not allowed, since its worth is 0.
func (t *table) isProof(a, b []int) bool {
	for i := range a {
		for j := range b {
			if a[i]+b[j] < t.worth[i][j] {
				return false
			}
		}
	}
	return true
}

func sum(l []int) int {
	n := 0
	for _, price := range l {
		n += price
	}
	return n
}

// Even returns the least possible cost of the costliest pair.
func Even(l, r []Glove, u Rule) (int, api.Errno) {
	t, ok := open(l, r, u)
	if !ok {
		return 0, api.ErrArg
	}
	most := t.most(maxCost)
	return sort.Search(maxCost, func(cost int) bool { return t.most(cost) == most }), api.OK
}
