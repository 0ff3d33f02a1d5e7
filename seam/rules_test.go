package seam_test

import (
	"fmt"
	"math"
	"reflect"
	"slices"
	"testing"

	"trank/api"
	"trank/seam"
)

// arguments are those that a call needs some of.
type arguments struct {
	g    seam.Graph
	a, b int
	runs [][]seam.Move
	p    []seam.Op
	s    string
}

// call is a call of the package; its results are put into one.
type call struct {
	name    string
	make    func(x arguments) (any, api.Errno)
	ofGraph bool
}

// two are the results of a call that returns one result more.
type two struct{ First, Second any }

func either[T any](result T, e api.Errno) (any, api.Errno) { return result, e }

func both[A, B any](first A, second B, e api.Errno) (any, api.Errno) { return two{first, second}, e }

// calls are all but Valid.
func calls() []call {
	return []call{
		{"Odd", func(x arguments) (any, api.Errno) { return either(seam.Odd(x.g, x.a)) }, true},
		{"Fewest", func(x arguments) (any, api.Errno) { return either(seam.Fewest(x.g)) }, true},
		{"Runs", func(x arguments) (any, api.Errno) { return either(seam.Runs(x.g)) }, true},
		{"Sews", func(x arguments) (any, api.Errno) { return either(seam.Sews(x.g, x.runs)) }, true},
		{"Far", func(x arguments) (any, api.Errno) { return both(seam.Far(x.g, x.a, x.b)) }, true},
		{"Round", func(x arguments) (any, api.Errno) { return either(seam.Round(x.g, x.a)) }, true},
		{"Tour", func(x arguments) (any, api.Errno) { return either(seam.Tour(x.g, x.a)) }, true},
		{"Pieces", func(x arguments) (any, api.Errno) { return either(seam.Pieces(x.g)) }, true},
		{"Bridges", func(x arguments) (any, api.Errno) { return either(seam.Bridges(x.g)) }, true},
		{"Run", func(x arguments) (any, api.Errno) { return either(seam.Run(x.g, x.p, x.b)) }, true},
		{"Compile", func(x arguments) (any, api.Errno) { return either(seam.Compile(x.g, x.runs)) }, true},
		{"Thread", func(x arguments) (any, api.Errno) { return either(seam.Thread(x.g)) }, true},
		{"Text", func(x arguments) (any, api.Errno) { return either(seam.Text(x.p)) }, false},
		{"Read", func(x arguments) (any, api.Errno) { return either(seam.Read(x.s)) }, false},
	}
}

// isZero holds of slices that are nil or empty too, also in a report.
func isZero(result any) bool {
	switch x := result.(type) {
	case two:
		return isZero(x.First) && isZero(x.Second)
	case seam.Report:
		return len(x.Sewn) == 0 && len(x.Used) == 0 && [5]int{x.Fault, x.Steps, x.At, x.Held, x.Cuts} == [5]int{}
	}
	v := reflect.ValueOf(result)
	return v.IsZero() || v.Kind() == reflect.Slice && v.Len() == 0
}

// good are arguments that no call has an error for, and all of whose results are more than nothing.
func good() arguments {
	g := gr(4, triangle(sm(0, 2, 7, 1), sm(2, 3, 1, 0)).Seams...)
	p := []seam.Op{op(goTo, 2), op(take, 0), op(lock, 0), sewBack(1), op(cut, 0)}
	return arguments{g, 0, 3, [][]seam.Move{{mv(4)}, {mv(0), mv(1), mv(2)}, {back(3)}}, p, "g2 t0 l s1- c"}
}

// The arguments of the other tests have errors for nothing but what they say.
func TestGoodArguments(t *testing.T) {
	for _, f := range calls() {
		if got, e := f.make(good()); e != api.OK || isZero(got) {
			t.Errorf("%s: %v, error %d", f.name, got, e)
		}
	}
}

// Chapter 7, 'Errors': ErrArg of a graph comes first, whatever else is wrong.
func TestErrArgComesFirst(t *testing.T) {
	other := good()
	other.a, other.b, other.runs, other.p = -1, math.MinInt, nil, tooLong()[0]
	for _, f := range calls() {
		for _, x := range []arguments{good(), other} {
			for _, g := range notGraphs() {
				x.g = g
				if got, e := f.make(x); f.ofGraph {
					wantError(t, fmt.Sprint(f.name, " of ", g.N, " joints"), got, e, api.ErrArg)
				}
			}
		}
	}
}

// The greatest and the least that is valid.
func TestLimitsAreAccepted(t *testing.T) {
	for _, g := range great() {
		x := good()
		x.g, x.a, x.b = g, 0, g.N-1
		x.runs, _ = seam.Runs(g)
		for _, f := range calls() {
			got, e := f.make(x)
			isNone := e == api.ErrNone && (f.name == "Round" || f.name == "Tour") && !isRoundable(g, 0)
			if e != api.OK && !isNone {
				t.Errorf("%s %v: %v, error %d", f.name, g, got, e)
			}
		}
	}
}

// P1, P8: every call ends without a panic and says the same again; with an error the result is the zero value. Rule 4: no argument is changed.
func TestEveryCall(t *testing.T) {
	all := append(samples(60, 16, 20), great()...)
	all = append(all, slices.DeleteFunc(notGraphs(), func(g seam.Graph) bool { return len(g.Seams) > 1000 })...)
	numbers := []int{math.MinInt, -2, -1, 0, 1, 2, 7, 8, 15, 16, 63, 64, 99, 100, 100000, 100001, math.MaxInt}
	bad, long := notPrograms(), tooLong()
	strings := []string{"", "l", "t1 g2", "x", " ", "t1  l", "s63-", "r100"}
	for n, g := range all {
		x := arguments{g, numbers[n%len(numbers)], numbers[n*5%len(numbers)], nil, bad[n%len(bad)], strings[n%len(strings)]}
		for k := range 3 {
			var run []seam.Move
			for i := range n % 7 {
				run = append(run, seam.Move{numbers[(n+i*i+k)%len(numbers)], i%2 == k%2})
			}
			x.runs = append(x.runs, run)
		}
		y := good()
		y.g = g
		y.a, y.b = n%18-1, n*7%20-2
		y.runs, _ = seam.Runs(g)
		y.p = compiledIfSewing(g, y.runs)
		for _, f := range calls() {
			wantCall(t, f, x)
			wantCall(t, f, y)
		}
		x.p = long[n%len(long)]
		wantCall(t, calls()[n%len(calls())], x)
	}
}

func compiledIfSewing(g seam.Graph, runs [][]seam.Move) []seam.Op {
	if !isSewing(g, runs) {
		return nil
	}
	return compiled(g, runs)
}

func copyOf(x arguments) arguments {
	x.g.Seams, x.p, x.runs = slices.Clone(x.g.Seams), slices.Clone(x.p), slices.Clone(x.runs)
	for k := range x.runs {
		x.runs[k] = slices.Clone(x.runs[k])
	}
	return x
}

func wantCall(t *testing.T, f call, x arguments) {
	t.Helper()
	before := copyOf(x)
	got, e := f.make(x)
	again, againE := f.make(x)
	if e != againE || !reflect.DeepEqual(got, again) {
		t.Errorf("%s %v: %v, error %d, and then %v, error %d", f.name, x, got, e, again, againE)
	}
	if e != api.OK && !isZero(got) {
		t.Errorf("%s %v: %v together with error %d", f.name, x, got, e)
	}
	if !reflect.DeepEqual(x, before) {
		t.Errorf("%s changed its arguments: %v, were %v", f.name, x, before)
	}
}

func roomy[T any](l []T, behind T) []T { return append(slices.Clone(l), behind, behind)[:len(l)] }

func roomyArguments() arguments {
	x := good()
	x.g.Seams, x.p, x.runs = roomy(x.g.Seams, sm(9, 9, 9, 9)), roomy(x.p, op(9, 9)), roomy(x.runs, nil)
	for k := range x.runs {
		x.runs[k] = roomy(x.runs[k], mv(99))
	}
	return x
}

// said shows the slices with what is behind their ends.
func said(x arguments) string {
	text := fmt.Sprint(x.g.Seams[:cap(x.g.Seams)], x.p[:cap(x.p)], x.runs[:cap(x.runs)])
	for _, run := range x.runs {
		text += fmt.Sprint(run[:cap(run)])
	}
	return text
}

// Rule 4: a result shares no memory with an argument, also where an argument has room behind its end.
func TestResultsShareNothing(t *testing.T) {
	for _, f := range calls() {
		x := roomyArguments()
		before := said(x)
		first, _ := f.make(x)
		text := fmt.Sprint(first)
		second, _ := f.make(x)
		overwrite(second)
		if said(x) != before {
			t.Errorf("%s: the result shares memory with an argument", f.name)
		}
		clear(x.g.Seams)
		clear(x.p)
		for _, run := range x.runs {
			clear(run)
		}
		if fmt.Sprint(first) != text {
			t.Errorf("%s: the result was %s, then %v", f.name, text, first)
		}
	}
}

func overwrite(result any) {
	switch x := result.(type) {
	case seam.Report:
		overwrite(x.Sewn)
		overwrite(x.Used)
	case []int:
		for k := range x[:cap(x)] {
			x[:cap(x)][k] = -77
		}
	case []seam.Move:
		clear(x[:cap(x)])
	case []seam.Op:
		clear(x[:cap(x)])
	case [][]seam.Move:
		for _, run := range x {
			overwrite(run)
		}
	}
}

// Rule 4: two slices of one result share no memory, also behind their ends.
func TestTwoResultsShareNothing(t *testing.T) {
	for _, g := range append(samples(30, 8, 30), great()...) {
		runs, _ := seam.Runs(g)
		text := fmt.Sprint(runs)
		for k, run := range runs {
			kept := slices.Clone(run)
			overwrite(run)
			copy(run, kept)
			if fmt.Sprint(runs) != text {
				t.Errorf("Runs %v: run %d shares memory with another", g, k)
			}
		}
	}
	r, _ := seam.Run(triangle(), good().p, 9)
	used := slices.Clone(r.Used)
	overwrite(r.Sewn)
	if !slices.Equal(r.Used, used) {
		t.Error("Sewn shares memory with Used")
	}
}

// An empty slice is an argument like nil.
func TestEmptyIsLikeNil(t *testing.T) {
	for _, f := range calls() {
		for _, g := range []seam.Graph{gr(1), gr(16), triangle()} {
			x := arguments{g: g}
			y := arguments{g: seam.Graph{g.N, append([]seam.Seam{}, g.Seams...)}, runs: [][]seam.Move{}, p: []seam.Op{}}
			got, e := f.make(x)
			other, otherE := f.make(y)
			if e != otherE || fmt.Sprint(got) != fmt.Sprint(other) {
				t.Errorf("%s: %v, error %d, of nil; %v, error %d, of empty slices", f.name, got, e, other, otherE)
			}
		}
	}
}
