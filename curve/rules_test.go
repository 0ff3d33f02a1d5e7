package curve_test

import (
	"fmt"
	"reflect"
	"slices"
	"testing"

	"trank/api"
	"trank/curve"
)

// call is a call of the package with the arguments that it needs of a, b, x and y.
type call struct {
	name string
	// two says that b is an argument, fractions how many of x and y are.
	two       bool
	fractions int
	make      func(a, b []api.Point, x, y api.Frac) (any, api.Errno)
}

func one[T any](name string, f func(c []api.Point) (T, api.Errno)) call {
	return call{name, false, 0, func(a, b []api.Point, x, y api.Frac) (any, api.Errno) { return either(f(a)) }}
}

func two[T any](name string, f func(a, b []api.Point) (T, api.Errno)) call {
	return call{name, true, 0, func(a, b []api.Point, x, y api.Frac) (any, api.Errno) { return either(f(a, b)) }}
}

func atX[T any](name string, f func(c []api.Point, x api.Frac) (T, api.Errno)) call {
	return call{name, false, 1, func(a, b []api.Point, x, y api.Frac) (any, api.Errno) { return either(f(a, x)) }}
}

func either[T any](result T, e api.Errno) (any, api.Errno) { return result, e }

func calls() []call {
	return []call{
		one("Slopes", curve.Slopes), one("Norm", curve.Norm), one("Inverse", curve.Inverse),
		one("Convex", curve.Convex), one("Concave", curve.Concave),
		atX("At", curve.At), atX("Solve", curve.Solve), atX("Cut", curve.Cut), atX("Work", curve.Work),
		two("Join", curve.Join), two("Sum", curve.Sum), two("Series", curve.Series), two("Compose", curve.Compose),
		two("Upper", curve.Upper), two("Lower", curve.Lower), two("Crossings", curve.Crossings),
		two("Under", curve.Under), two("Same", curve.Same),
		{"Scale", false, 2, func(a, b []api.Point, x, y api.Frac) (any, api.Errno) { return either(curve.Scale(a, x, y)) }},
	}
}

// isZero holds of a slice that is nil or empty too.
func isZero(result any) bool {
	v := reflect.ValueOf(result)
	return v.IsZero() || v.Kind() == reflect.Slice && v.Len() == 0
}

// All functions return ErrArg first: before ErrSize of the other curve, and before ErrRange of another argument.
func TestErrArgComesFirst(t *testing.T) {
	good := []([]api.Point){whole(2, 1, 4, 4), steep(), line(47, 1, 1), halves(47, 1, 2), whole(1, most)}
	numbers := []api.Frac{fr(0, 1), fr(1, 1), fr(1, 20), fr(-1, 1), fr(most, 1), fr(1, most), {}}
	for _, f := range calls() {
		for what, bad := range invalid() {
			for _, c := range good {
				for _, x := range numbers {
					wantErrArg(t, f, what, bad, c, x, x)
					if f.two {
						wantErrArg(t, f, what, c, bad, x, x)
					}
				}
			}
			if f.two {
				wantErrArg(t, f, what, bad, bad, fr(1, 1), fr(1, 1))
			}
		}
	}
}

func TestErrArgOfFractions(t *testing.T) {
	for _, f := range calls() {
		for _, bad := range notFractions() {
			for _, c := range [][]api.Point{whole(2, 1, 4, 4), steep(), whole(most, most)} {
				for _, x := range []api.Frac{fr(1, 1), fr(most, 1), fr(1, most)} {
					if f.fractions > 0 {
						wantErrArg(t, f, fmt.Sprint(bad), c, c, bad, x)
					}
					if f.fractions > 1 {
						wantErrArg(t, f, fmt.Sprint(bad), c, c, x, bad)
					}
				}
			}
		}
	}
}

func wantErrArg(t *testing.T, f call, what string, a, b []api.Point, x, y api.Frac) {
	t.Helper()
	if got, e := f.make(a, b, x, y); e != api.ErrArg || !isZero(got) {
		t.Errorf("%s, %s: %v, error %d", f.name, what, got, e)
	}
}

// arguments are of all kinds.
func arguments() ([][]api.Point, []api.Frac) {
	curves := [][]api.Point{
		whole(2, 1, 4, 4), whole(4, 2), whole(4, 3), whole(2, 2), whole(1, 2, 2, 3, 3, 6), whole(1, 1, 2, 2, 3, 3), whole(most, most), whole(1, most),
		steep(), through(pt(fr(1, most), fr(1, most)), pt(fr(1, most-1), fr(1, most-1))), line(47, 1, 1), line(24, 1, 2), halves(24, 1, 2), halves(47, 1, 1),
		nil, whole(1, 0), line(48, 1, 1),
	}
	numbers := append(notFractions(), fr(0, 1), fr(1, 1), fr(1, 2), fr(3, 1), fr(4, 1), fr(5, 1), fr(-1, 1), fr(most, 1), fr(-most, 1), fr(1, most), fr(most-1, most))
	return curves, numbers
}

// P1, P8: every call ends without a panic and says the same again; with an error the result is the zero value; a curve that is returned is valid. Rule 4: no argument is changed.
func TestEveryCall(t *testing.T) {
	curves, numbers := arguments()
	for _, f := range calls() {
		for _, a := range curves {
			for _, b := range curves {
				for i, x := range numbers {
					y := numbers[(i*5+3)%len(numbers)]
					wantCall(t, f, a, b, x, y)
				}
				if f.fractions == 0 && !f.two {
					break
				}
			}
		}
	}
}

func wantCall(t *testing.T, f call, a, b []api.Point, x, y api.Frac) {
	t.Helper()
	left, right := slices.Clone(a), slices.Clone(b)
	got, e := f.make(a, b, x, y)
	again, againE := f.make(a, b, x, y)
	if e != againE || !reflect.DeepEqual(got, again) {
		t.Errorf("%s %v %v %v %v: %v, error %d, and then %v, error %d", f.name, a, b, x, y, got, e, again, againE)
	}
	if e != api.OK && !isZero(got) {
		t.Errorf("%s %v %v %v %v: %v together with error %d", f.name, a, b, x, y, got, e)
	}
	if c, ok := got.([]api.Point); ok && e == api.OK && !curve.Valid(c) {
		t.Errorf("%s %v %v %v %v: %v is not valid", f.name, a, b, x, y, c)
	}
	if !slices.Equal(a, left) || !slices.Equal(b, right) {
		t.Errorf("%s changed an argument: %v %v, were %v %v", f.name, a, b, left, right)
	}
}

// Rule 4: a result shares no memory with an argument, nor with another result, also where an argument has room behind its end.
func TestResultsShareNothing(t *testing.T) {
	behind := pt(fr(77, 1), fr(77, 1))
	for _, f := range calls() {
		for _, c := range [][]api.Point{whole(2, 1, 4, 4), whole(1, 2, 2, 3, 3, 6), whole(1, 3, 2, 4, 3, 7)} {
			a, b := withRoom(c, behind), withRoom(whole(1, 2, 3, 4), behind)
			first, e := f.make(a, b, fr(1, 1), fr(2, 1))
			if e != api.OK {
				t.Errorf("%s %v %v: error %d", f.name, a, b, e)
			}
			said := fmt.Sprint(first)
			second, _ := f.make(a, b, fr(1, 1), fr(2, 1))
			overwrite(second)
			if fmt.Sprint(first) != said {
				t.Errorf("%s: two results share memory", f.name)
			}
			if !slices.Equal(a, c) || !slices.Equal(b, whole(1, 2, 3, 4)) || a[:len(a)+1][len(a)] != behind || b[:len(b)+1][len(b)] != behind {
				t.Errorf("%s: a result shares memory with an argument", f.name)
			}
		}
	}
}

func withRoom(c []api.Point, behind api.Point) []api.Point {
	return append(slices.Clone(c), behind)[:len(c)]
}

func overwrite(result any) {
	switch l := result.(type) {
	case []api.Point:
		clear(l[:cap(l)])
	case []api.Frac:
		clear(l[:cap(l)])
	}
}

func TestIsotoneSharesNothing(t *testing.T) {
	l := []int{3, 1, 2, 5, 4}
	first, _ := curve.Isotone(l)
	second, _ := curve.Isotone(l)
	clear(second[:cap(second)])
	if !slices.Equal(l, []int{3, 1, 2, 5, 4}) || first[0] != fr(2, 1) || first[4] != fr(9, 2) {
		t.Error("shared or changed:", l, first)
	}
}

// An empty slice is an argument like nil.
func TestEmptyIsLikeNil(t *testing.T) {
	for _, f := range calls() {
		for _, c := range [][]api.Point{nil, {}} {
			wantErrArg(t, f, "empty", c, c, fr(1, 1), fr(1, 1))
		}
	}
}
