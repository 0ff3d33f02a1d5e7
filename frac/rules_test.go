package frac_test

import (
	"fmt"
	"math"
	"slices"
	"testing"

	"trank/api"
	"trank/frac"
)

// everyCall makes each call of the package with arguments of a, b, n, m, and returns what they return, one string a call.
func everyCall(a, b api.Frac, n, m int) []string {
	var said []string
	say := func(result any, e api.Errno) { said = append(said, fmt.Sprint(result, e)) }
	said = append(said, fmt.Sprint(frac.Valid(a)))
	for _, call := range []binary{frac.Add, frac.Sub, frac.Mul, frac.Div, frac.Mediant, frac.Simplest} {
		f, e := call(a, b)
		say(f, e)
	}
	for _, call := range []bounding{frac.Below, frac.Above, frac.Near} {
		f, e := call(a, n)
		say(f, e)
	}
	for _, call := range []func(api.Frac) (api.Frac, api.Errno){frac.Neg, frac.Abs} {
		f, e := call(a)
		say(f, e)
	}
	f, e := frac.New(n, m)
	say(f, e)
	f, e = frac.Whole(n)
	say(f, e)
	order, e := frac.Cmp(a, b)
	say(order, e)
	rounded, e := frac.Round(a, api.Mode(n))
	say(rounded, e)
	f, e = frac.RoundTo(a, b, api.Mode(m))
	say(f, e)
	text, e := frac.Print(a)
	say(text, e)
	f, e = frac.Parse(text)
	say(f, e)
	terms, e := frac.Terms(a)
	say(terms, e)
	f, e = frac.FromTerms([]int{n, m})
	say(f, e)
	f, e = frac.Sum([]api.Frac{a, b, a})
	say(f, e)
	f, e = frac.Blend([]api.Frac{a, b}, []int{n, m})
	say(f, e)
	shares, e := frac.Share(n, []int{m, n, m})
	say(shares, e)
	return said
}

// P1, P8: every call ends without a panic, and says the same again.

func TestEveryCallSaysTheSameAgain(t *testing.T) {
	fracs := append(edges(), notValid()...)
	ints := []int{math.MinInt, math.MinInt + 1, -most - 1, -most, -1, 0, 1, 2, 3, 4, 5, 1000000, 1000001, most, most + 1, 1 << 32, 1 << 62, math.MaxInt}
	for i, a := range fracs {
		b := fracs[(i*7+3)%len(fracs)]
		for _, n := range ints {
			for _, m := range ints {
				first, again := everyCall(a, b, n, m), everyCall(a, b, n, m)
				if !slices.Equal(first, again) {
					t.Fatalf("%v %v %d %d: %v and then %v", a, b, n, m, first, again)
				}
			}
		}
	}
}

// P1, P2: every fraction that is returned is valid, and with an error it is the zero value.

func TestResultsAreValidOrZero(t *testing.T) {
	check := func(what string, f api.Frac, e api.Errno) {
		if (e == api.OK) != frac.Valid(f) || e != api.OK && f != (api.Frac{}) {
			t.Errorf("%s: %v, error %d", what, f, e)
		}
	}
	fracs := append(samples(120), notValid()...)
	for _, a := range fracs {
		for _, b := range fracs {
			for i, call := range []binary{frac.Add, frac.Sub, frac.Mul, frac.Div, frac.Mediant, frac.Simplest} {
				f, e := call(a, b)
				check(fmt.Sprint("binary ", i, a, b), f, e)
			}
			f, e := frac.RoundTo(a, b, api.HalfEven)
			check(fmt.Sprint("RoundTo ", a, b), f, e)
			f, e = frac.Sum([]api.Frac{a, b, b})
			check(fmt.Sprint("Sum ", a, b), f, e)
			f, e = frac.Blend([]api.Frac{a, b}, []int{3, 4})
			check(fmt.Sprint("Blend ", a, b), f, e)
		}
	}
}

// Rule 4: no argument is changed, and no result shares memory with one, or with another result.

func TestSlicesStayApart(t *testing.T) {
	fracs, weights, terms := []api.Frac{fr(1, 2), fr(1, 3)}, []int{2, 1}, []int{1, 2, 3, 4}
	frac.Sum(fracs)
	frac.Blend(fracs, weights)
	frac.FromTerms(terms)
	shares, _ := frac.Share(10, weights)
	if fracs[0] != fr(1, 2) || fracs[1] != fr(1, 3) || !slices.Equal(weights, []int{2, 1}) || !slices.Equal(terms, []int{1, 2, 3, 4}) {
		t.Error("an argument was changed:", fracs, weights, terms)
	}
	shares[0], shares[1] = -1, -1
	if again, _ := frac.Share(10, weights); !slices.Equal(again, []int{7, 3}) || !slices.Equal(weights, []int{2, 1}) {
		t.Error("a result shares memory:", again, weights)
	}
	got, _ := frac.Terms(fr(43, 30))
	got[0] = -1
	if again, _ := frac.Terms(fr(43, 30)); !slices.Equal(again, terms) {
		t.Error("two results share memory:", again)
	}
}
