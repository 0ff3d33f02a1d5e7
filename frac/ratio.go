package frac

import (
	"cmp"
	"math/bits"

	"trank/api"
)

// ratio is the number num/den; den is above zero.
// Unlike an api.Frac it need not be in lowest terms, and its parts may exceed
// MaxPart: what is built from two valid fractions has parts of at most 2e18,
// which an int holds, so that nothing is rounded on the way to a result.
type ratio struct{ num, den int }

func of(f api.Frac) ratio { return ratio{f.Num, f.Den} }

func (r ratio) reduced() (api.Frac, api.Errno) { return New(r.num, r.den) }

func (r ratio) negative() ratio { return ratio{-r.num, r.den} }

func (r ratio) absolute() ratio {
	if r.num < 0 {
		return r.negative()
	}
	return r
}

// inverse is 1/r; r is above zero.
func (r ratio) inverse() ratio { return ratio{r.den, r.num} }

func (r ratio) plus(o ratio) ratio {
	return ratio{r.num*o.den + o.num*r.den, r.den * o.den}
}

func (r ratio) times(o ratio) ratio {
	return ratio{r.num * o.num, r.den * o.den}
}

// shifted is r + n; of an r in lowest terms it is in lowest terms too.
func (r ratio) shifted(n int) ratio { return ratio{r.num + n*r.den, r.den} }

func (r ratio) half() ratio { return ratio{r.num, 2 * r.den} }

// compare is exact for all ratios: their cross products may exceed an int.
func (r ratio) compare(o ratio) int {
	s, t := cmp.Compare(r.num, 0), cmp.Compare(o.num, 0)
	if s != t {
		return cmp.Compare(s, t)
	}
	return s * compareProducts(size(r.num), size(o.den), size(o.num), size(r.den))
}

// compareProducts compares a*b with c*d.
func compareProducts(a, b, c, d uint) int {
	leftHigh, leftLow := bits.Mul(a, b)
	rightHigh, rightLow := bits.Mul(c, d)
	return cmp.Or(cmp.Compare(leftHigh, rightHigh), cmp.Compare(leftLow, rightLow))
}

// size is the absolute value; of the least int too, which no int is.
func size(n int) uint {
	if n < 0 {
		return -uint(n)
	}
	return uint(n)
}

// divisor is the greatest common divisor; at least one of a and b is above zero.
func divisor(a, b uint) uint {
	for b != 0 {
		a, b = b, a%b
	}
	return a
}
