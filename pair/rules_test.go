package pair_test

import (
	"fmt"
	"math"
	"reflect"
	"slices"
	"testing"

	"trank/api"
	"trank/pair"
)

// arguments are those that a call needs some of.
type arguments struct {
	sample
	m, a, b []int
}

// call is a call of the package; its results are put into one.
type call struct {
	name   string
	make   func(x arguments) (any, api.Errno)
	ofHeap bool
}

// two are the results of a call that returns one result more.
type two struct{ First, Second any }

func either[T any](result T, e api.Errno) (any, api.Errno) { return result, e }

func both[A, B any](first A, second B, e api.Errno) (any, api.Errno) { return two{first, second}, e }

// calls are all but Cost, which has no slices.
func calls() []call {
	return []call{
		{"Weigh", func(x arguments) (any, api.Errno) { return both(pair.Weigh(x.l, x.r, x.u, x.m)) }, false},
		{"Most", func(x arguments) (any, api.Errno) { return either(pair.Most(x.l, x.r, x.u)) }, false},
		{"Cover", func(x arguments) (any, api.Errno) { return both(pair.Cover(x.l, x.r, x.u)) }, false},
		{"Cheapest", func(x arguments) (any, api.Errno) { return either(pair.Cheapest(x.l, x.r, x.u)) }, false},
		{"Prices", func(x arguments) (any, api.Errno) { return both(pair.Prices(x.l, x.r, x.u)) }, false},
		{"Worth", func(x arguments) (any, api.Errno) { return both(pair.Worth(x.l, x.r, x.u, x.a, x.b)) }, false},
		{"Even", func(x arguments) (any, api.Errno) { return either(pair.Even(x.l, x.r, x.u)) }, false},
		{"Stable", func(x arguments) (any, api.Errno) { return either(pair.Stable(x.l, x.r, x.u)) }, false},
		{"Blocking", func(x arguments) (any, api.Errno) { return either(pair.Blocking(x.l, x.r, x.u, x.m)) }, false},
		{"Heap", func(x arguments) (any, api.Errno) { return either(pair.Heap(x.l, x.u)) }, true},
		{"Pairs", func(x arguments) (any, api.Errno) { return either(pair.Pairs(x.l, x.u, x.m)) }, true},
		{"Barrier", func(x arguments) (any, api.Errno) { return either(pair.Barrier(x.l, x.u)) }, true},
		{"Odd", func(x arguments) (any, api.Errno) { return either(pair.Odd(x.l, x.u, x.b)) }, true},
	}
}

// isZero holds of slices that are nil or empty too.
func isZero(result any) bool {
	if l, ok := result.(two); ok {
		return isZero(l.First) && isZero(l.Second)
	}
	v := reflect.ValueOf(result)
	return v.IsZero() || v.Kind() == reflect.Slice && v.Len() == 0
}

// good are arguments that no call but Pairs and Worth has an error for.
func good() arguments {
	return arguments{sample{shades(0, 8, 3, 30), shades(4, 12, 9, 31, 17), ofShade(3, 10)}, []int{-1, 0, -1, 3}, []int{5, 6, 7, 8}, []int{0, 1, 3}}
}

// Chapter 6, 'Errors': ErrArg of a side, a heap or a rule comes first, whatever else is wrong.
func TestErrArgComesFirst(t *testing.T) {
	other := good()
	other.m, other.a, other.b = []int{99}, []int{-1}, []int{7, 7}
	for _, f := range calls() {
		for _, x := range []arguments{good(), other} {
			for _, l := range notSides() {
				bad := x
				bad.l = l
				got, e := f.make(bad)
				wantError(t, f.name+" of a left side", got, e, api.ErrArg)
				bad.l, bad.r = x.l, l
				if !f.ofHeap {
					got, e = f.make(bad)
					wantError(t, f.name+" of a right side", got, e, api.ErrArg)
				}
			}
			for _, u := range notRules() {
				bad := x
				bad.u = u
				got, e := f.make(bad)
				wantError(t, fmt.Sprint(f.name, " by ", u), got, e, api.ErrArg)
				bad.l, bad.r = nil, nil
				got, e = f.make(bad)
				wantError(t, fmt.Sprint(f.name, " of nothing by ", u), got, e, api.ErrArg)
			}
		}
	}
}

// The greatest and the least that is valid.
func TestLimitsAreAccepted(t *testing.T) {
	most, least := gl(1000, 1000, 1000, 1000), pair.Glove{}
	for _, u := range []pair.Rule{{}, {Weight: most}, {Limit: most}, {Weight: most, Limit: most}} {
		for _, l := range [][]pair.Glove{nil, {least}, {most}, slices.Repeat([]pair.Glove{least}, 32), slices.Repeat([]pair.Glove{most}, 32), slices.Repeat([]pair.Glove{least, most}, 16)} {
			for _, r := range [][]pair.Glove{nil, {least}, {most}, slices.Repeat([]pair.Glove{most, least}, 16)} {
				x := arguments{sample{l, r, u}, slices.Repeat([]int{-1}, len(l)), make([]int, len(l)), nil}
				for _, f := range calls() {
					if f.name == "Worth" {
						x.b = make([]int, len(r))
					}
					if got, e := f.make(x); e != api.OK {
						t.Errorf("%s %v: %v, error %d", f.name, x.sample, got, e)
					}
					x.b = nil
				}
			}
		}
	}
}

// P1, P8: every call ends without a panic and says the same again; with an error the result is the zero value. Rule 4: no argument is changed.
func TestEveryCall(t *testing.T) {
	all := append(samples(100, 9), great()...)
	for n, bad := range notSides() {
		all = append(all, sample{bad, shades(1, 2), ofShade(1, 1)}, sample{shades(1), bad, ofShade(1, 1)}, sample{bad, bad, notRules()[n%len(notRules())]})
	}
	numbers := []int{math.MinInt, -2, -1, 0, 1, 2, 31, 32, 33, whole, whole + 1, math.MaxInt}
	for n, s := range all {
		var l []int
		for k := range len(s.l) % 50 {
			l = append(l, numbers[(n+k*k)%len(numbers)])
		}
		for _, f := range calls() {
			wantCall(t, f, arguments{s, l, l, l})
			wantCall(t, f, arguments{s, identity(len(l)), slices.Repeat([]int{whole}, len(s.l)), slices.Repeat([]int{whole}, len(s.r))})
			wantCall(t, f, arguments{s, slices.Repeat([]int{-1}, len(s.l)), l, []int{0}})
		}
	}
}

func copyOf(x arguments) arguments {
	x.l, x.r = slices.Clone(x.l), slices.Clone(x.r)
	x.m, x.a, x.b = slices.Clone(x.m), slices.Clone(x.a), slices.Clone(x.b)
	return x
}

func wantCall(t *testing.T, f call, x arguments) {
	t.Helper()
	before := copyOf(x)
	got, e := f.make(x)
	again, againE := f.make(x)
	if e != againE || !reflect.DeepEqual(got, again) {
		t.Errorf("%s %v: %v, error %d, and then %v, error %d", f.name, x, got, e, again, againE)
	}
	if e != api.OK && !isZero(got) {
		t.Errorf("%s %v: %v together with error %d", f.name, x, got, e)
	}
	if !reflect.DeepEqual(x, before) {
		t.Errorf("%s changed its arguments: %v, were %v", f.name, x, before)
	}
}

// Rule 4: a result shares no memory with an argument, nor with another result, also where an argument has room behind its end.
func TestResultsShareNothing(t *testing.T) {
	for _, f := range calls() {
		x := good()
		x.l, x.r = roomy(x.l, gl(9, 9, 9, 9)), roomy(x.r, gl(9, 9, 9, 9))
		x.m, x.a, x.b = roomy(x.m, 99), roomy(x.a, 99), roomy(x.b, 99)
		before := said(x)
		first, e := f.make(x)
		if e != api.OK && f.name != "Pairs" && f.name != "Worth" {
			t.Errorf("%s: error %d", f.name, e)
		}
		text := fmt.Sprint(first)
		second, _ := f.make(x)
		overwrite(second)
		if said(x) != before {
			t.Errorf("%s: the result shares memory with an argument", f.name)
		}
		clear(x.l)
		clear(x.r)
		clear(x.m)
		clear(x.a)
		clear(x.b)
		if fmt.Sprint(first) != text {
			t.Errorf("%s: the result was %s, then %v", f.name, text, first)
		}
	}
}

// Rule 4: the two slices of one result.
func TestTwoResultsShareNothing(t *testing.T) {
	for _, f := range calls() {
		got, _ := f.make(good())
		l, ok := got.(two)
		if !ok {
			continue
		}
		text := fmt.Sprint(l.Second)
		overwrite(l.First)
		if fmt.Sprint(l.Second) != text {
			t.Errorf("%s: the first result shares memory with the second", f.name)
		}
	}
}

func roomy[T any](l []T, behind T) []T { return append(slices.Clone(l), behind, behind)[:len(l)] }

// said shows the slices with what is behind their ends.
func said(x arguments) string {
	return fmt.Sprint(x.l[:cap(x.l)], x.r[:cap(x.r)], x.m[:cap(x.m)], x.a[:cap(x.a)], x.b[:cap(x.b)])
}

func overwrite(result any) {
	switch l := result.(type) {
	case two:
		overwrite(l.First)
		overwrite(l.Second)
	case []int:
		for k := range l[:cap(l)] {
			l[:cap(l)][k] = -77
		}
	case [][2]int:
		clear(l[:cap(l)])
	}
}

// An empty slice is an argument like nil.
func TestEmptyIsLikeNil(t *testing.T) {
	for _, f := range calls() {
		for _, sides := range [][2][]pair.Glove{{}, {nil, shades(1, 2)}, {shades(1, 2), nil}} {
			x := arguments{sample: sample{sides[0], sides[1], ofShade(1, 10)}}
			y := arguments{sample{append([]pair.Glove{}, sides[0]...), append([]pair.Glove{}, sides[1]...), ofShade(1, 10)}, []int{}, []int{}, []int{}}
			got, e := f.make(x)
			other, otherE := f.make(y)
			if e != otherE || fmt.Sprint(got) != fmt.Sprint(other) {
				t.Errorf("%s: %v, error %d, of nil; %v, error %d, of empty slices", f.name, got, e, other, otherE)
			}
		}
	}
}
