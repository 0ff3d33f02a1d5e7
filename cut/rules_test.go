package cut_test

import (
	"fmt"
	"math"
	"reflect"
	"slices"
	"testing"

	"trank/api"
	"trank/cut"
)

// arguments are those that a call needs some of.
type arguments struct {
	sample
	p                      []cut.Node
	table, lengths, worths []int
	n, turns               int
	r                      api.Rect
}

// call is a call of the package; its results are put into one.
type call struct {
	name    string
	make    func(a arguments) (any, api.Errno)
	ofBoard bool
}

// two are the results of a call that returns one result more.
type two struct{ First, Second any }

func either[T any](result T, e api.Errno) (any, api.Errno) { return result, e }

func pairOf[A, B any](first A, second B, e api.Errno) (any, api.Errno) { return two{first, second}, e }

func calls() []call {
	return []call{
		{"Best", func(a arguments) (any, api.Errno) { return either(cut.Best(a.b, a.k)) }, true},
		{"Plan", func(a arguments) (any, api.Errno) { return either(cut.Plan(a.b, a.k)) }, true},
		{"Read", func(a arguments) (any, api.Errno) { return pairOf(cut.Read(a.b, a.k, a.p)) }, true},
		{"Counts", func(a arguments) (any, api.Errno) { return either(cut.Counts(a.b, a.k, a.p)) }, true},
		{"Rest", func(a arguments) (any, api.Errno) { return either(cut.Rest(a.b, a.k, a.p)) }, true},
		{"Prove", func(a arguments) (any, api.Errno) { return either(cut.Prove(a.b, a.k)) }, true},
		{"Check", func(a arguments) (any, api.Errno) { return pairOf(cut.Check(a.b, a.k, a.table)) }, true},
		{"Strict", func(a arguments) (any, api.Errno) { return either(cut.Strict(a.b, a.k, a.turns)) }, true},
		{"Rects", func(a arguments) (any, api.Errno) { return either(cut.Rects(a.n, a.turns)) }, false},
		{"Number", func(a arguments) (any, api.Errno) { return either(cut.Number(a.n, a.turns, a.r)) }, false},
		{"Fill", func(a arguments) (any, api.Errno) { return pairOf(cut.Fill(a.n, a.lengths, a.worths)) }, false},
		{"Fewest", func(a arguments) (any, api.Errno) { return either(cut.Fewest(a.n, a.lengths)) }, false},
		{"Bins", func(a arguments) (any, api.Errno) { return either(cut.Bins(a.n, a.lengths)) }, false},
		{"FirstFit", func(a arguments) (any, api.Errno) { return either(cut.FirstFit(a.n, a.lengths)) }, false},
		{"Floor", func(a arguments) (any, api.Errno) { return either(cut.Floor(a.n, a.lengths)) }, false},
	}
}

// isZero holds of slices that are nil or empty too.
func isZero(result any) bool {
	if l, ok := result.(two); ok {
		return isZero(l.First) && isZero(l.Second)
	}
	v := reflect.ValueOf(result)
	return v.IsZero() || v.Kind() == reflect.Slice && v.Len() == 0
}

func good() arguments {
	a := arguments{sample: example(), lengths: []int{6, 5, 5, 4}, worths: []int{7, 5, 6, 4}, n: 10, turns: 2, r: rc(1, 1, 1, 1)}
	a.p, _ = cut.Plan(a.b, a.k)
	a.table, _ = cut.Prove(a.b, a.k)
	return a
}

// Chapter 5, 'Errors': all functions of a board return ErrArg first, whatever else is wrong.
func TestErrArgComesFirst(t *testing.T) {
	other := good()
	other.p, other.table, other.turns = nil, nil, 99
	for _, f := range calls() {
		for _, a := range []arguments{good(), other} {
			if !f.ofBoard {
				continue
			}
			for what, b := range notBoards() {
				a.b, a.k = b, example().k
				got, e := f.make(a)
				wantError(t, f.name+", "+what, got, e, api.ErrArg)
			}
			for what, k := range notKinds() {
				a.b, a.k = example().b, k
				got, e := f.make(a)
				wantError(t, f.name+", "+what, got, e, api.ErrArg)
			}
		}
	}
}

// The greatest and the least that is valid.
func TestLimitsAreAccepted(t *testing.T) {
	for _, b := range [][]string{{"0"}, {"9"}, full(16, 16, "5"), full(1, 16, "1"), full(16, 1, "1")} {
		for _, k := range [][]cut.Kind{nil, {kd(1, 1, 1, 1, false)}, {kd(16, 16, 9, 1000000, true)}, {kd(1, 16, 9, 1, false), kd(16, 1, 1, 1, true)}, slices.Repeat([]cut.Kind{kd(1, 1, 1, 1, true)}, 12)} {
			for _, f := range calls() {
				a := good()
				a.b, a.k = b, k
				if got, e := f.make(a); e == api.ErrArg {
					t.Errorf("%s %v: %v, error %d", f.name, a.sample, got, e)
				}
			}
		}
	}
}

// P1, P8: every call ends without a panic and says the same again; with an error the result is the zero value. Rule 4: no argument is changed.
func TestEveryCall(t *testing.T) {
	all := append(samples(12, 5), great()[:4]...)
	for _, b := range notBoards() {
		all = append(all, sample{b, example().k})
	}
	for _, k := range notKinds() {
		all = append(all, sample{example().b, k})
	}
	numbers := []int{math.MinInt, -1, 0, 1, 2, 10, 16, 17, 32, 33, 2000, 2001, math.MaxInt}
	for _, f := range calls() {
		for n, s := range all {
			a := arguments{sample: s, n: numbers[n%13], turns: numbers[n/13%13], r: rc(n%3, n%2, 1, n%4)}
			if n%2 == 0 {
				a.lengths, a.worths = []int{n % 7, 3, 9, 2}, []int{5, n % 5, 1, 1}
			}
			if n%3 == 0 {
				a.p, _ = cut.Plan(s.b, s.k)
				a.table, _ = cut.Prove(s.b, s.k)
			}
			wantCall(t, f, a)
		}
		wantCall(t, f, good())
	}
}

func copyOf(a arguments) arguments {
	a.b, a.k, a.p = slices.Clone(a.b), slices.Clone(a.k), slices.Clone(a.p)
	a.table, a.lengths, a.worths = slices.Clone(a.table), slices.Clone(a.lengths), slices.Clone(a.worths)
	return a
}

func wantCall(t *testing.T, f call, a arguments) {
	t.Helper()
	before := copyOf(a)
	got, e := f.make(a)
	again, againE := f.make(a)
	if e != againE || !reflect.DeepEqual(got, again) {
		t.Errorf("%s %v: %v, error %d, and then %v, error %d", f.name, a, got, e, again, againE)
	}
	if e != api.OK && !isZero(got) {
		t.Errorf("%s %v: %v together with error %d", f.name, a, got, e)
	}
	if !reflect.DeepEqual(a, before) {
		t.Errorf("%s changed its arguments: %v, were %v", f.name, a, before)
	}
}

// Rule 4: a result shares no memory with an argument, nor with another result, also where an argument has room behind its end.
func TestResultsShareNothing(t *testing.T) {
	for _, f := range calls() {
		a := good()
		a.b, a.k, a.p = roomy(a.b, "9"), roomy(a.k, kd(9, 9, 9, 9, true)), roomy(a.p, node(9, 9, true))
		a.table, a.lengths, a.worths = roomy(a.table, 99), roomy(a.lengths, 99), roomy(a.worths, 99)
		before := said(a)
		first, _ := f.make(a)
		text := fmt.Sprint(first)
		second, _ := f.make(a)
		overwrite(second)
		if said(a) != before {
			t.Errorf("%s: the result shares memory with an argument", f.name)
		}
		clear(a.b)
		clear(a.k)
		clear(a.p)
		clear(a.table)
		clear(a.lengths)
		clear(a.worths)
		if fmt.Sprint(first) != text {
			t.Errorf("%s: the result was %s, then %v", f.name, text, first)
		}
	}
}

func roomy[T any](l []T, behind T) []T { return append(slices.Clone(l), behind, behind)[:len(l)] }

// said shows the slices with what is behind their ends.
func said(a arguments) string {
	return fmt.Sprint(a.b[:cap(a.b)], a.k[:cap(a.k)], a.p[:cap(a.p)], a.table[:cap(a.table)], a.lengths[:cap(a.lengths)], a.worths[:cap(a.worths)])
}

func overwrite(result any) {
	switch l := result.(type) {
	case two:
		overwrite(l.First)
		overwrite(l.Second)
	case []int:
		clear(l[:cap(l)])
	case []string:
		clear(l[:cap(l)])
	case []cut.Node:
		clear(l[:cap(l)])
	case []cut.Placed:
		clear(l[:cap(l)])
	}
}

// An empty slice is an argument like nil.
func TestEmptyIsLikeNil(t *testing.T) {
	for _, f := range calls() {
		for _, b := range [][]string{nil, {"1"}, {"12", "21"}} {
			x := arguments{sample: sample{b, nil}, n: 10, turns: 2, r: rc(0, 0, 1, 1)}
			y := arguments{sample: sample{append([]string{}, b...), []cut.Kind{}}, p: []cut.Node{}, table: []int{}, lengths: []int{}, worths: []int{}, n: 10, turns: 2, r: rc(0, 0, 1, 1)}
			got, e := f.make(x)
			other, otherE := f.make(y)
			if e != otherE || fmt.Sprint(got) != fmt.Sprint(other) {
				t.Errorf("%s %q: %v, error %d, of nil; %v, error %d, of empty slices", f.name, b, got, e, other, otherE)
			}
		}
	}
}
