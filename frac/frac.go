// Package frac is layer 1: exact arithmetic on fractions whose parts are bounded. See shared/doc/01-frac.md.
package frac

import "trank/api"

// Valid reports whether f is a fraction in lowest terms within the limits.
func Valid(f api.Frac) bool {
	return f.Den >= 1 && f.Den <= api.MaxPart &&
		f.Num >= -api.MaxPart && f.Num <= api.MaxPart &&
		divisor(size(f.Num), size(f.Den)) == 1
}

// New returns the fraction of the value num/den.
func New(num, den int) (api.Frac, api.Errno) {
	if den == 0 {
		return api.Frac{}, api.ErrZero
	}
	n, d := size(num), size(den)
	g := divisor(n, d)
	n, d = n/g, d/g
	if n > api.MaxPart || d > api.MaxPart {
		return api.Frac{}, api.ErrRange
	}
	if (num < 0) != (den < 0) {
		return api.Frac{Num: -int(n), Den: int(d)}, api.OK
	}
	return api.Frac{Num: int(n), Den: int(d)}, api.OK
}

// Whole returns the fraction of the value n.
func Whole(n int) (api.Frac, api.Errno) { return New(n, 1) }

// Cmp compares two fractions: -1, 0 or 1, as a is below, equal to or above b.
func Cmp(a, b api.Frac) (int, api.Errno) {
	if !allValid(a, b) {
		return 0, api.ErrArg
	}
	return of(a).compare(of(b)), api.OK
}

// Add returns the sum.
func Add(a, b api.Frac) (api.Frac, api.Errno) {
	if !allValid(a, b) {
		return api.Frac{}, api.ErrArg
	}
	return of(a).plus(of(b)).reduced()
}

// Sub returns the difference.
func Sub(a, b api.Frac) (api.Frac, api.Errno) {
	if !allValid(a, b) {
		return api.Frac{}, api.ErrArg
	}
	return of(a).plus(of(b).negative()).reduced()
}

// Mul returns the product.
func Mul(a, b api.Frac) (api.Frac, api.Errno) {
	if !allValid(a, b) {
		return api.Frac{}, api.ErrArg
	}
	return of(a).times(of(b)).reduced()
}

// Div returns the quotient.
func Div(a, b api.Frac) (api.Frac, api.Errno) {
	if !allValid(a, b) {
		return api.Frac{}, api.ErrArg
	}
	if b.Num == 0 {
		return api.Frac{}, api.ErrZero
	}
	return New(a.Num*b.Den, a.Den*b.Num)
}

// Neg returns the fraction with the other sign.
func Neg(a api.Frac) (api.Frac, api.Errno) {
	if !allValid(a) {
		return api.Frac{}, api.ErrArg
	}
	return of(a).negative().reduced()
}

// Abs returns the absolute value.
func Abs(a api.Frac) (api.Frac, api.Errno) {
	if !allValid(a) {
		return api.Frac{}, api.ErrArg
	}
	return of(a).absolute().reduced()
}

// Mediant returns the value (a.Num + b.Num)/(a.Den + b.Den).
func Mediant(a, b api.Frac) (api.Frac, api.Errno) {
	if !allValid(a, b) {
		return api.Frac{}, api.ErrArg
	}
	return New(a.Num+b.Num, a.Den+b.Den)
}

func allValid(l ...api.Frac) bool {
	for _, f := range l {
		if !Valid(f) {
			return false
		}
	}
	return true
}
