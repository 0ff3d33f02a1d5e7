package frac

import (
	"cmp"
	"slices"

	"trank/api"
)

const maxWeight = 1000000 // of Blend

// Sum returns the sum of a slice, added from the first element on.
func Sum(l []api.Frac) (api.Frac, api.Errno) {
	if len(l) > api.MaxTerms {
		return api.Frac{}, api.ErrSize
	}
	if !allValid(l...) {
		return api.Frac{}, api.ErrArg
	}
	t := api.Frac{Num: 0, Den: 1}
	for _, f := range l {
		var e api.Errno
		if t, e = Add(t, f); e != api.OK {
			return api.Frac{}, e
		}
	}
	return t, api.OK
}

// Blend returns the mean of a slice with weights.
func Blend(l []api.Frac, w []int) (api.Frac, api.Errno) {
	if len(l) > api.MaxTerms || len(w) > api.MaxTerms {
		return api.Frac{}, api.ErrSize
	}
	if len(l) != len(w) || !allValid(l...) || !areFrom0To(maxWeight, w) {
		return api.Frac{}, api.ErrArg
	}
	total := sum(w)
	if total == 0 {
		return api.Frac{}, api.ErrZero
	}
	t := api.Frac{Num: 0, Den: 1}
	for i, f := range l {
		var e api.Errno
		if t, e = addTimes(t, f, w[i]); e != api.OK {
			return api.Frac{}, e
		}
	}
	return Div(t, api.Frac{Num: total, Den: 1})
}

// addTimes is t + f*n, by way of a representable product.
func addTimes(t, f api.Frac, n int) (api.Frac, api.Errno) {
	p, e := Mul(f, api.Frac{Num: n, Den: 1})
	if e != api.OK {
		return api.Frac{}, e
	}
	return Add(t, p)
}

// Share distributes n pieces in proportion to weights, what is left over to the greatest remainders.
func Share(n int, w []int) ([]int, api.Errno) {
	if len(w) > api.MaxTerms {
		return nil, api.ErrSize
	}
	if n < 0 || n > api.MaxPart || !areFrom0To(api.MaxPart, w) {
		return nil, api.ErrArg
	}
	total := sum(w)
	if total == 0 {
		return nil, api.ErrZero
	}
	shares := make([]int, len(w))
	rests := make([]int, len(w))
	for i, x := range w {
		shares[i], rests[i] = n*x/total, n*x%total
	}
	left := n - sum(shares)
	for _, i := range byFalling(rests)[:left] {
		shares[i]++
	}
	return shares, api.OK
}

// byFalling returns the indices of l by falling element, of equal ones the lower index first.
func byFalling(l []int) []int {
	indices := make([]int, len(l))
	for i := range indices {
		indices[i] = i
	}
	slices.SortStableFunc(indices, func(i, j int) int { return cmp.Compare(l[j], l[i]) })
	return indices
}

func areFrom0To(most int, l []int) bool {
	for _, x := range l {
		if x < 0 || x > most {
			return false
		}
	}
	return true
}

func sum(l []int) int {
	t := 0
	for _, x := range l {
		t += x
	}
	return t
}
