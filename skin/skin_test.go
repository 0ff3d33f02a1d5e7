package skin_test

import (
	"math"
	"slices"
	"testing"

	"trank/api"
	"trank/skin"
)

// P3.1

func TestValid(t *testing.T) {
	for what, s := range invalid() {
		if skin.Valid(s) {
			t.Errorf("%s is valid: %q", what, s)
		}
	}
	for _, s := range slices.Concat(samples(200), great()) {
		if !skin.Valid(s) {
			t.Errorf("not valid: %q", s)
		}
	}
	for side := 1; side <= api.MaxSide; side++ {
		if !skin.Valid(full(side, 1, "0")) || !skin.Valid(full(1, side, "9")) || !skin.Valid(full(side, side, "5")) {
			t.Errorf("not valid: side %d", side)
		}
	}
}

func TestGrades(t *testing.T) {
	for _, s := range slices.Concat(samples(200), great()) {
		want := make([]int, 10)
		for _, row := range s {
			for _, b := range []byte(row) {
				want[b-'0']++
			}
		}
		if got, e := skin.Grades(s); !slices.Equal(got, want) || e != api.OK {
			t.Errorf("%q: %v, error %d; want %v", s, got, e, want)
		}
	}
	if got, _ := skin.Grades([]string{"110", "111", "011"}); !slices.Equal(got, []int{2, 7, 0, 0, 0, 0, 0, 0, 0, 0}) {
		t.Error(got)
	}
}

func TestWorth(t *testing.T) {
	price := []int{3, 1000, 20, 7, 0, 1000000, 999999, 5, 11, 123456}
	for _, s := range slices.Concat(samples(200), great()) {
		want := 0
		for _, row := range s {
			for _, b := range []byte(row) {
				want += price[b-'0']
			}
		}
		if got, e := skin.Worth(s, price); got != want || e != api.OK {
			t.Errorf("%q: %d, error %d; want %d", s, got, e, want)
		}
	}
	most := slices.Repeat([]int{1000000}, 10)
	if got, e := skin.Worth(full(48, 48, "0"), most); got != 2304000000 || e != api.OK {
		t.Error(got, e)
	}
	if got, e := skin.Worth(full(48, 48, "0"), make([]int, 10)); got != 0 || e != api.OK {
		t.Error(got, e)
	}
}

func TestWorthRefusesPrices(t *testing.T) {
	s := []string{"00", "11"}
	for n := range 21 {
		want := api.ErrArg
		if n == 10 {
			want = api.OK
		}
		if got, e := skin.Worth(s, make([]int, n)); got != 0 || e != want {
			t.Errorf("%d prices: %d, error %d", n, got, e)
		}
	}
	for i := range 10 {
		for _, p := range []int{-1, 1000001, math.MinInt, math.MaxInt} {
			price := make([]int, 10)
			price[i] = p
			if got, e := skin.Worth(s, price); got != 0 || e != api.ErrArg {
				t.Errorf("price %d of grade %d: %d, error %d", p, i, got, e)
			}
		}
	}
}

// P3.2

func TestCount(t *testing.T) {
	for _, s := range samples(60) {
		for g := 1; g <= 9; g++ {
			table := newTable(t, s, g)
			for _, r := range allRects(len(s[0]), len(s)) {
				if n, e := table.Count(r); n != usableCells(s, g, r) || e != api.OK {
					t.Fatalf("%q at %d, %v: %d, error %d", s, g, r, n, e)
				}
			}
		}
	}
}

func TestCountOfGreatSkins(t *testing.T) {
	rects := allRects(48, 48)
	for _, s := range great() {
		table := newTable(t, s, 5)
		for i, r := range rects {
			if i%5003 > 0 || !liesWithin(r, whole(s)) {
				continue
			}
			if n, e := table.Count(r); n != usableCells(s, 5, r) || e != api.OK {
				t.Fatalf("%v: %d, error %d", r, n, e)
			}
		}
		if n, e := table.Count(whole(s)); n != usableCells(s, 5, whole(s)) || e != api.OK {
			t.Errorf("all: %d, error %d", n, e)
		}
	}
}

func TestCountErrors(t *testing.T) {
	for _, s := range [][]string{{"1"}, {"110", "111", "011"}, {"0123456789"}, full(1, 48, "2"), full(48, 48, "2")} {
		table := newTable(t, s, 1)
		for _, r := range notRects() {
			wantCount(t, table, r, api.ErrArg)
		}
		for _, r := range outside(len(s[0]), len(s)) {
			wantCount(t, table, r, api.ErrRange)
		}
	}
	for _, r := range slices.Concat(notRects(), outside(1, 1), []api.Rect{rc(0, 0, 1, 1)}) {
		wantCount(t, nil, r, api.ErrNil)
		wantCount(t, &skin.Table{}, r, api.ErrNil)
		wantCount(t, new(skin.Table), r, api.ErrNil)
	}
}

// A table stays what it is, whatever becomes of the slice it was made of and of other tables.
func TestTableDoesNotChange(t *testing.T) {
	s := []string{"110", "111", "011"}
	table := newTable(t, s, 1)
	s[0], s[1], s[2] = "000", "000", "000"
	newTable(t, s, 9)
	for range 2 {
		if n, e := table.Count(rc(0, 0, 3, 3)); n != 7 || e != api.OK {
			t.Error(n, e)
		}
		table.Count(rc(0, 0, 4, 4))
	}
}

func newTable(t *testing.T, s []string, g int) *skin.Table {
	t.Helper()
	table, e := skin.NewTable(s, g)
	if table == nil || e != api.OK {
		t.Fatalf("%q at %d: no table, error %d", s, g, e)
	}
	return table
}

func wantCount(t *testing.T, table *skin.Table, r api.Rect, want api.Errno) {
	t.Helper()
	if n, e := table.Count(r); n != 0 || e != want {
		t.Errorf("%v: %d, error %d; want error %d", r, n, e, want)
	}
}
