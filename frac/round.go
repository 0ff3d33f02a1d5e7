package frac

import "trank/api"

// Round returns the whole number to which f is rounded.
func Round(f api.Frac, m api.Mode) (int, api.Errno) {
	if !Valid(f) || !isMode(m) {
		return 0, api.ErrArg
	}
	return of(f).rounded(m), api.OK
}

// RoundTo returns the multiple of unit to which f is rounded.
func RoundTo(f, unit api.Frac, m api.Mode) (api.Frac, api.Errno) {
	if !allValid(f, unit) || unit.Num <= 0 || !isMode(m) {
		return api.Frac{}, api.ErrArg
	}
	k := of(f).times(of(unit).inverse()).rounded(m)
	// k is within 1 of f/unit, so k*unit.Num is within unit.Num of f*unit.Den: far from the end of the ints.
	return New(k*unit.Num, unit.Den)
}

func isMode(m api.Mode) bool { return m >= api.Floor && m <= api.HalfEven }

func (r ratio) rounded(m api.Mode) int {
	w := r.floor()
	rest := r.num - w*r.den
	if r.roundsUp(w, rest, m) {
		return w + 1
	}
	return w
}

// roundsUp says whether the mode takes r to w + 1 instead of its floor w; rest/den is what r exceeds w by.
func (r ratio) roundsUp(w, rest int, m api.Mode) bool {
	switch m {
	case api.Ceil:
		return rest > 0
	case api.Trunc:
		return rest > 0 && w < 0
	case api.HalfUp:
		return 2*rest >= r.den
	case api.HalfEven:
		return 2*rest > r.den || 2*rest == r.den && w%2 != 0
	}
	return false
}

func (r ratio) floor() int {
	w := r.num / r.den
	if r.num < 0 && r.num%r.den != 0 {
		return w - 1
	}
	return w
}
