package grade_test

import (
	"fmt"
	"math"
	"reflect"
	"slices"
	"testing"

	"trank/api"
	"trank/grade"
)

// arguments are those that a call needs some of.
type arguments struct {
	p, q    grade.Pattern
	s, most api.Frac
	x       []api.Frac
	i, j    int
}

// call is a call of the package; its results are put into one.
type call struct {
	name  string
	make  func(a arguments) (any, api.Errno)
	sized bool
}

// three are the results of a call that returns one result more.
type three[A, B any] struct {
	First  A
	Second B
}

func both[A, B any](first A, second B, e api.Errno) (any, api.Errno) {
	return three[A, B]{first, second}, e
}

func either[T any](result T, e api.Errno) (any, api.Errno) { return result, e }

func calls() []call {
	return []call{
		{"Fits", func(a arguments) (any, api.Errno) { return either(grade.Fits(a.p, a.s, a.x)) }, true},
		{"Slack", func(a arguments) (any, api.Errno) { return either(grade.Slack(a.p, a.s, a.x)) }, true},
		{"Least", func(a arguments) (any, api.Errno) { return either(grade.Least(a.p, a.s)) }, true},
		{"Greatest", func(a arguments) (any, api.Errno) { return either(grade.Greatest(a.p, a.s, a.most)) }, true},
		{"Gap", func(a arguments) (any, api.Errno) { return both(grade.Gap(a.p, a.s, a.i, a.j)) }, true},
		{"Loop", func(a arguments) (any, api.Errno) { return either(grade.Loop(a.p, a.s)) }, true},
		{"Sizes", func(a arguments) (any, api.Errno) { return both(grade.Sizes(a.p)) }, false},
		{"Ends", func(a arguments) (any, api.Errno) { return both(grade.Ends(a.p)) }, false},
		{"Conflict", func(a arguments) (any, api.Errno) { return either(grade.Conflict(a.p)) }, false},
		{"Tight", func(a arguments) (any, api.Errno) { return either(grade.Tight(a.p, a.s)) }, true},
		{"Chain", func(a arguments) (any, api.Errno) { return either(grade.Chain(a.p, a.s, a.i)) }, true},
		{"Implied", func(a arguments) (any, api.Errno) { return either(grade.Implied(a.p, a.s, a.i)) }, true},
		{"Core", func(a arguments) (any, api.Errno) { return either(grade.Core(a.p, a.s)) }, true},
		{"Equal", func(a arguments) (any, api.Errno) { return either(grade.Equal(a.p, a.q, a.s)) }, true},
		{"Equal turned", func(a arguments) (any, api.Errno) { return either(grade.Equal(a.q, a.p, a.s)) }, true},
	}
}

// isZero holds of slices that are nil or empty too.
func isZero(result any) bool {
	v := reflect.ValueOf(result)
	if v.Kind() == reflect.Struct && v.NumField() == 2 && v.Type() != reflect.TypeOf(api.Frac{}) {
		return isZero(v.Field(0).Interface()) && isZero(v.Field(1).Interface())
	}
	return v.IsZero() || v.Kind() == reflect.Slice && v.Len() == 0
}

func good() arguments {
	return arguments{p: example(), q: example(), s: fr(7, 1), most: fr(100, 1), x: fracs(0, 24, 36), i: 1, j: 2}
}

// contrary are arguments that lead to other errors, if the patterns and the sizes are valid.
func contrary() []arguments {
	loop := good()
	loop.s, loop.q = fr(16, 1), pat(1, rl(0, 0, 1, 0))
	other := good()
	other.most, other.x, other.i, other.j = fr(-1, 1), nil, -1, 99
	return []arguments{good(), loop, other}
}

// All functions return ErrArg first if a pattern or a size is not valid.
func TestErrArgComesFirst(t *testing.T) {
	for _, f := range calls() {
		for what, p := range invalid() {
			for _, a := range contrary() {
				a.p = p
				wantErrArg(t, f, what, a)
			}
		}
		for _, s := range notSizes() {
			for _, a := range contrary() {
				if a.s = s; f.sized {
					wantErrArg(t, f, fmt.Sprint("size ", s), a)
				}
			}
		}
	}
}

func wantErrArg(t *testing.T, f call, what string, a arguments) {
	t.Helper()
	if got, e := f.make(a); e != api.ErrArg || !isZero(got) {
		t.Errorf("%s, %s: %v, error %d", f.name, what, got, e)
	}
}

// All sizes from 0 to 40 are accepted.
func TestSizesAreAccepted(t *testing.T) {
	for _, f := range calls() {
		for _, s := range someSizes() {
			a := good()
			a.s = s
			if got, e := f.make(a); e == api.ErrArg {
				t.Errorf("%s, %v: %v, error %d", f.name, s, got, e)
			}
		}
	}
}

// P1, P8: every call ends without a panic and says the same again; with an error the result is the zero value. Rule 4: no argument is changed.
func TestEveryCall(t *testing.T) {
	patterns := append(samples(12), great()...)
	for _, p := range invalid() {
		patterns = append(patterns, p)
	}
	indices := []int{math.MinInt, -1, 0, 1, 2, 15, 16, 63, 64, math.MaxInt}
	sizes, mosts := append(notSizes(), someSizes()...), append(notMosts(), fr(0, 1), fr(60, 1), fr(99999999, 100))
	for _, f := range calls() {
		for n, p := range patterns {
			for m := range 12 {
				a := arguments{p: p, q: patterns[(n*7+m)%len(patterns)], s: sizes[(n*5+m*3)%len(sizes)], most: mosts[(n+m)%len(mosts)], i: indices[(n+m)%10], j: indices[m%10]}
				if m%2 == 0 {
					a.s, a.x = someSizes()[m], slices.Repeat(fracs(0), max(0, min(p.N, 20)))
				}
				wantCall(t, f, a)
			}
		}
	}
}

func copyOf(a arguments) arguments {
	a.p.Rules, a.q.Rules, a.x = slices.Clone(a.p.Rules), slices.Clone(a.q.Rules), slices.Clone(a.x)
	return a
}

func wantCall(t *testing.T, f call, a arguments) {
	t.Helper()
	before := copyOf(a)
	got, e := f.make(a)
	again, againE := f.make(a)
	if e != againE || !reflect.DeepEqual(got, again) {
		t.Errorf("%s %v: %v, error %d, and then %v, error %d", f.name, a, got, e, again, againE)
	}
	if e != api.OK && !isZero(got) {
		t.Errorf("%s %v: %v together with error %d", f.name, a, got, e)
	}
	if !reflect.DeepEqual(a, before) {
		t.Errorf("%s changed its arguments: %v, were %v", f.name, a, before)
	}
}

// Rule 4: a result shares no memory with an argument, nor with another result, also where an argument has room behind its end.
func TestResultsShareNothing(t *testing.T) {
	behind := rl(9, 9, 9, 9)
	for _, f := range calls() {
		for _, p := range []grade.Pattern{example(), pat(3), pat(1, rl(0, 0, -3, 1), rl(0, 0, 3, -1)), pat(1, rl(0, 0, -3, 1), rl(0, 0, 4, -1)), pat(2, rl(1, 0, 5, 0), rl(1, 0, 3, 0))} {
			a := good()
			rules := append(slices.Clone(p.Rules), behind, behind)
			elements := append(slices.Repeat(fracs(0), p.N), fr(77, 1))
			a.p, a.q, a.x, a.s = pat(p.N, rules[:len(p.Rules)]...), p, elements[:p.N], fr(3, 1)
			before := slices.Clone(rules)
			first, _ := f.make(a)
			said := fmt.Sprint(first)
			second, _ := f.make(a)
			overwrite(second)
			if !slices.Equal(rules, before) || elements[p.N] != fr(77, 1) {
				t.Errorf("%s %v: the result shares memory with an argument", f.name, p)
			}
			clear(rules)
			clear(elements)
			if fmt.Sprint(first) != said {
				t.Errorf("%s %v: the result was %s, then %v", f.name, p, said, first)
			}
		}
	}
}

func overwrite(result any) {
	switch l := result.(type) {
	case []api.Frac:
		clear(l[:cap(l)])
	case []int:
		clear(l[:cap(l)])
	case three[[]int, []int]:
		clear(l.First[:cap(l.First)])
		clear(l.Second[:cap(l.Second)])
	case [][]int:
		for _, loop := range l {
			clear(loop[:cap(loop)])
		}
		clear(l[:cap(l)])
	}
}

// The loops of one result share no memory.
func TestLoopsShareNothing(t *testing.T) {
	p := pat(1, rl(0, 0, -3, 1), rl(0, 0, 3, -1))
	low, high, _ := grade.Ends(p)
	clear(low[:cap(low)])
	if !slices.Equal(high, []int{0}) {
		t.Error(high)
	}
	l, _ := grade.Conflict(pat(1, rl(0, 0, -3, 1), rl(0, 0, 4, -1)))
	second := slices.Clone(l[1])
	clear(l[0][:cap(l[0])])
	l[0] = append(l[0], 5, 6, 7)
	if !slices.Equal(l[1], second) {
		t.Error(l)
	}
}

// An empty slice is an argument like nil.
func TestEmptyIsLikeNil(t *testing.T) {
	for _, f := range calls() {
		for n := range 4 {
			a, b := good(), good()
			a.p, a.q, a.x = grade.Pattern{N: n}, grade.Pattern{N: n}, nil
			b.p, b.q, b.x = grade.Pattern{N: n, Rules: []grade.Rule{}}, grade.Pattern{N: n, Rules: []grade.Rule{}}, []api.Frac{}
			got, e := f.make(a)
			other, otherE := f.make(b)
			if e != otherE || fmt.Sprint(got) != fmt.Sprint(other) {
				t.Errorf("%s, %d unknowns: %v, error %d, of nil; %v, error %d, of an empty slice", f.name, n, got, e, other, otherE)
			}
		}
	}
}
