package frac

import "trank/api"

// Terms returns the continued fraction of f.
func Terms(f api.Frac) ([]int, api.Errno) {
	if !Valid(f) {
		return nil, api.ErrArg
	}
	r := of(f)
	w := r.floor()
	l := []int{w}
	for r.den != 1 {
		r = r.shifted(-w).inverse()
		w = r.floor()
		l = append(l, w)
	}
	return l, api.OK
}

// FromTerms returns the fraction whose Terms are l.
func FromTerms(l []int) (api.Frac, api.Errno) {
	if len(l) > api.MaxTerms {
		return api.Frac{}, api.ErrSize
	}
	if !areTerms(l) {
		return api.Frac{}, api.ErrArg
	}
	last := len(l) - 1
	r := ratio{l[last], 1}
	for i := last - 1; i >= 0; i-- {
		// The numerator so far becomes the denominator, and from step to step denominators only grow:
		// so nothing above MaxPart leads to a representable value, and the products stay within an int.
		if r.num > api.MaxPart || size(l[i]) > api.MaxPart {
			return api.Frac{}, api.ErrRange
		}
		r = r.inverse().shifted(l[i])
	}
	return r.reduced()
}

func areTerms(l []int) bool {
	if len(l) == 0 {
		return false
	}
	for _, a := range l[1:] {
		if a < 1 {
			return false
		}
	}
	return len(l) == 1 || l[len(l)-1] != 1
}

// Below returns the greatest fraction not above f whose denominator is at most d.
func Below(f api.Frac, d int) (api.Frac, api.Errno) {
	if !Valid(f) || !isDen(d) {
		return api.Frac{}, api.ErrArg
	}
	lo, _ := of(f).neighbours(d)
	return lo.reduced()
}

// Above returns the least fraction not below f whose denominator is at most d.
func Above(f api.Frac, d int) (api.Frac, api.Errno) {
	if !Valid(f) || !isDen(d) {
		return api.Frac{}, api.ErrArg
	}
	_, hi := of(f).neighbours(d)
	return hi.reduced()
}

// Near returns the one of Below and Above that is nearer to f; Below if both are equally near.
func Near(f api.Frac, d int) (api.Frac, api.Errno) {
	if !Valid(f) || !isDen(d) {
		return api.Frac{}, api.ErrArg
	}
	lo, hi := of(f).neighbours(d)
	if of(f).compare(lo.plus(hi).half()) > 0 {
		return hi.reduced()
	}
	return lo.reduced()
}

func isDen(d int) bool { return d >= 1 && d <= api.MaxPart }

// neighbours returns the fractions with denominators up to d that are nearest to r, below and above it; r is in lowest terms.
func (r ratio) neighbours(d int) (lo, hi ratio) {
	if r.den <= d {
		return r, r
	}
	w := r.floor()
	lo, hi = ratio{w, 1}, ratio{w + 1, 1}
	for lo.den+hi.den <= d {
		lo = lo.toward(hi, r, d)
		hi = hi.toward(lo, r, d)
	}
	return lo, hi
}

// toward takes the mediant of r and other, and of that and other, and so on, as long as it does not cross goal
// and its denominator is at most d. Goal lies strictly between the two, and its own denominator is above d:
// so no mediant hits it. One division finds how many there are: taken one by one they could be MaxPart.
func (r ratio) toward(other, goal ratio, d int) ratio {
	k := min((d-r.den)/other.den, r.apart(goal)/other.apart(goal))
	return ratio{r.num + k*other.num, r.den + k*other.den}
}

// apart is the numerator of the distance of two ratios, over the product of their denominators.
func (r ratio) apart(o ratio) int {
	return r.plus(o.negative()).absolute().num
}

// Simplest returns the fraction from a to b with the least denominator, and of these the least absolute value.
func Simplest(a, b api.Frac) (api.Frac, api.Errno) {
	if !allValid(a, b) || of(a).compare(of(b)) > 0 {
		return api.Frac{}, api.ErrArg
	}
	switch {
	case a.Num > 0:
		return simplest(of(a), of(b)).reduced()
	case b.Num < 0:
		return simplest(of(b).negative(), of(a).negative()).negative().reduced()
	}
	return api.Frac{Num: 0, Den: 1}, api.OK
}

// simplest is for a above zero. Where no whole number lies from a to b, both have the same floor,
// and the simplest fraction of the inverses of what exceeds it leads to that of a and b.
func simplest(a, b ratio) ratio {
	w := a.rounded(api.Ceil)
	if w <= b.floor() {
		return ratio{w, 1}
	}
	w--
	return simplest(b.shifted(-w).inverse(), a.shifted(-w).inverse()).inverse().shifted(w)
}
