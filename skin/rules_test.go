package skin_test

import (
	"fmt"
	"math"
	"reflect"
	"slices"
	"strings"
	"testing"

	"trank/api"
	"trank/skin"
)

// call is a call of the package with the arguments that it needs of s, a number and a rectangle.
type call struct {
	name string
	make func(s []string, n int, r api.Rect) (any, api.Errno)
	// grade says that the number is a least grade.
	grade bool
}

func plain[T any](name string, f func(s []string) (T, api.Errno)) call {
	return call{name, func(s []string, n int, r api.Rect) (any, api.Errno) { return either(f(s)) }, false}
}

func number[T any](name string, f func(s []string, n int) (T, api.Errno)) call {
	return call{name, func(s []string, n int, r api.Rect) (any, api.Errno) { return either(f(s, n)) }, false}
}

func atGrade[T any](name string, f func(s []string, g int) (T, api.Errno)) call {
	return call{name, func(s []string, n int, r api.Rect) (any, api.Errno) { return either(f(s, n)) }, true}
}

func ofRect[T any](name string, f func(s []string, r api.Rect) (T, api.Errno)) call {
	return call{name, func(s []string, n int, r api.Rect) (any, api.Errno) { return either(f(s, r)) }, false}
}

func either[T any](result T, e api.Errno) (any, api.Errno) { return result, e }

func worth(s []string, n int) (int, api.Errno) { return skin.Worth(s, slices.Repeat([]int{n}, 10)) }

func calls() []call {
	return []call{
		plain("Grades", skin.Grades), plain("Mirror", skin.Mirror), plain("Trim", skin.Trim), plain("Pack", skin.Pack),
		number("Worth", worth), number("Turn", skin.Turn), number("Erode", skin.Erode), number("Dilate", skin.Dilate), number("Open", skin.Open),
		ofRect("Crop", skin.Crop), ofRect("Punch", skin.Punch),
		atGrade("NewTable", skin.NewTable), atGrade("Parts", skin.Parts), atGrade("Largest", skin.Largest), atGrade("Square", skin.Square),
		atGrade("Maximal", skin.Maximal), atGrade("Fewest", skin.Fewest), atGrade("Split", skin.Split),
	}
}

// isZero holds of a slice that is nil or empty too.
func isZero(result any) bool {
	v := reflect.ValueOf(result)
	return v.IsZero() || v.Kind() == reflect.Slice && v.Len() == 0
}

// All functions return ErrArg first: before ErrRange of a rectangle, and before ErrNone.
func TestErrArgComesFirst(t *testing.T) {
	rects := append(outside(3, 3), rc(0, 0, 1, 1), api.Rect{})
	for _, f := range calls() {
		for what, s := range invalid() {
			for i, r := range rects {
				if got, e := f.make(s, i, r); e != api.ErrArg || !isZero(got) {
					t.Errorf("%s, %s, %d, %v: %v, error %d", f.name, what, i, r, got, e)
				}
			}
		}
	}
}

func TestErrArgOfGrades(t *testing.T) {
	for _, f := range calls() {
		for _, s := range [][]string{{"0"}, {"9"}, {"110", "111", "011"}, full(48, 48, "0")} {
			for _, g := range notGrades() {
				if got, e := f.make(s, g, rc(0, 0, 1, 1)); f.grade && (e != api.ErrArg || !isZero(got)) {
					t.Errorf("%s, %d: %v, error %d", f.name, g, got, e)
				}
			}
			for g := 1; g <= 9; g++ {
				if _, e := f.make(s, g, rc(0, 0, 1, 1)); e != api.OK && e != api.ErrNone {
					t.Errorf("%s, %d: error %d", f.name, g, e)
				}
			}
		}
	}
}

// P1, P8: every call ends without a panic and says the same again; with an error the result is the zero value. Rule 4: no argument is changed.
func TestEveryCall(t *testing.T) {
	skins := append(samples(6), full(48, 48, "9"), full(49, 48, "9"), nil)
	for what, s := range invalid() {
		if len(what) > 3 {
			skins = append(skins, s)
		}
	}
	numbers := append(notGrades(), 1, 2, 5, 9, 48, 49)
	for _, f := range calls() {
		for _, s := range skins {
			for i, r := range append(slices.Concat(notRects(), outside(3, 3)), rc(0, 0, 1, 1), rc(1, 0, 1, 2)) {
				wantCall(t, f, s, numbers[i%len(numbers)], r)
			}
		}
	}
}

func wantCall(t *testing.T, f call, s []string, n int, r api.Rect) {
	t.Helper()
	before := slices.Clone(s)
	got, e := f.make(s, n, r)
	again, againE := f.make(s, n, r)
	if e != againE || !reflect.DeepEqual(got, again) {
		t.Errorf("%s %q %d %v: %v, error %d, and then %v, error %d", f.name, s, n, r, got, e, again, againE)
	}
	if e != api.OK && !isZero(got) {
		t.Errorf("%s %q %d %v: %v together with error %d", f.name, s, n, r, got, e)
	}
	if l, ok := got.([]string); ok && e == api.OK && !skin.Valid(l) {
		t.Errorf("%s %q %d %v: %q is not valid", f.name, s, n, r, l)
	}
	if !slices.Equal(s, before) {
		t.Errorf("%s changed its argument: %q, was %q", f.name, s, before)
	}
}

// Rule 4: a result shares no memory with an argument, nor with another result, also where an argument has room behind its end.
func TestResultsShareNothing(t *testing.T) {
	for _, f := range calls() {
		for _, n := range []int{0, 1, 4} {
			for _, r := range []api.Rect{rc(0, 0, 3, 3), rc(1, 1, 2, 2)} {
				if f.grade && n == 0 {
					continue
				}
				wantApart(t, f, n, r)
			}
		}
	}
}

func wantApart(t *testing.T, f call, n int, r api.Rect) {
	t.Helper()
	want := []string{"550", "555", "057", "behind"}
	s := slices.Clone(want)
	first, e := f.make(s[:3], n, r)
	if e != api.OK {
		t.Errorf("%s %d %v: error %d", f.name, n, r, e)
	}
	said := fmt.Sprint(first)
	second, _ := f.make(s[:3], n, r)
	overwrite(second)
	if !slices.Equal(s, want) {
		t.Errorf("%s %d %v: the result shares memory with the argument", f.name, n, r)
	}
	clear(s)
	if fmt.Sprint(first) != said {
		t.Errorf("%s %d %v: the result was %s, then %v", f.name, n, r, said, first)
	}
}

func overwrite(result any) {
	switch l := result.(type) {
	case []string:
		clear(l[:cap(l)])
	case []int:
		clear(l[:cap(l)])
	case []api.Rect:
		clear(l[:cap(l)])
	case []skin.Part:
		clear(l[:cap(l)])
	}
}

func TestPricesStay(t *testing.T) {
	price := []int{9, 8, 7, 6, 5, 4, 3, 2, 1, 0}
	if n, e := skin.Worth([]string{"0123456789"}, price); n != 45 || e != api.OK {
		t.Error(n, e)
	}
	if !slices.Equal(price, []int{9, 8, 7, 6, 5, 4, 3, 2, 1, 0}) {
		t.Error(price)
	}
}

// An empty slice is an argument like nil.
func TestEmptyIsLikeNil(t *testing.T) {
	for _, f := range calls() {
		for _, s := range [][]string{nil, {}} {
			if got, e := f.make(s, 1, rc(0, 0, 1, 1)); e != api.ErrArg || !isZero(got) {
				t.Errorf("%s: %v, error %d", f.name, got, e)
			}
		}
	}
	for _, price := range [][]int{nil, {}} {
		if n, e := skin.Worth([]string{"1"}, price); n != 0 || e != api.ErrArg {
			t.Error(n, e)
		}
	}
	if skin.Valid(nil) || skin.Valid([]string{}) {
		t.Error("no rows are valid")
	}
}

// Unpack makes new rows each time.
func TestUnpackSharesNothing(t *testing.T) {
	first, _ := skin.Unpack("2a2b/4f")
	second, _ := skin.Unpack("2a2b/4f")
	clear(second)
	if strings.Join(first, "/") != "0011/5555" {
		t.Error(first)
	}
}

// A table of any rectangle says the same as a table made again.
func TestCountOfAnyRectangle(t *testing.T) {
	s := []string{"110", "111", "011"}
	for g := 1; g <= 9; g++ {
		for _, x := range []int{math.MinInt, -1, 0, 1, 2, 3, 48, 49, math.MaxInt} {
			for _, w := range []int{math.MinInt, -1, 0, 1, 2, 3, 48, 49, math.MaxInt} {
				for _, r := range []api.Rect{rc(x, 0, w, 1), rc(0, x, 1, w), rc(x, x, w, w), rc(x, w, w, x)} {
					table := newTable(t, s, g)
					n, e := table.Count(r)
					again, againE := table.Count(r)
					if n != again || e != againE || e != api.OK && n != 0 || e == api.OK && n != usableCells(s, g, r) {
						t.Errorf("%v: %d, error %d, and then %d, error %d", r, n, e, again, againE)
					}
				}
			}
		}
	}
}
