package seam_test

import (
	"fmt"
	"math/rand"
	"reflect"
	"slices"
	"strings"
	"testing"

	"trank/api"
	"trank/seam"
)

func wantReport(t *testing.T, g seam.Graph, p []seam.Op, fuel int, got seam.Report, e api.Errno, want seam.Report) {
	t.Helper()
	got.Sewn, want.Sewn = append([]int{}, got.Sewn...), append([]int{}, want.Sewn...)
	if e != api.OK || !reflect.DeepEqual(got, want) {
		text, _ := seam.Text(p[:min(len(p), 50)])
		t.Errorf("Run %v %q, %d Ops, fuel %d: %+v, error %d; want %+v", g, text, len(p), fuel, got, e, want)
	}
}

// faultOf is the table of the document: the first fault of an Op, which is followed by rest, in a state.
func faultOf(g seam.Graph, r seam.Report, x seam.Op, rest []seam.Op) int {
	isSeam := x.Code == sew && x.Arg < len(g.Seams)
	thread, start := -1, -1
	if isSeam {
		thread, start = g.Seams[x.Arg].Thread, ends(g, seam.Move{x.Arg, x.Back})[0]
	}
	faults := [][]struct {
		is     bool
		number int
	}{
		take:   {{r.Held != -1, 1}},
		goTo:   {{r.Held != -1, 2}, {x.Arg >= g.N, 3}},
		lock:   {{r.Held == -1, 4}},
		sew:    {{r.Held == -1, 4}, {!isSeam, 5}, {thread != r.Held, 6}, {start != r.At, 7}},
		cut:    {{r.Held == -1, 4}},
		repeat: {{len(rest) == 0, 8}, {len(rest) > 0 && rest[0].Code == repeat, 9}},
	}
	for _, f := range faults[x.Code] {
		if f.is {
			return f.number
		}
	}
	return 0
}

// done is the state after an Op that does not fault.
func done(g seam.Graph, r seam.Report, x seam.Op) seam.Report {
	r.Sewn, r.Used = slices.Clone(r.Sewn), slices.Clone(r.Used)
	r.Steps++
	switch x.Code {
	case take:
		r.Held = x.Arg
	case goTo:
		r.At = x.Arg
	case lock:
		r.Used[r.Held] += 4
	case sew:
		r.Used[r.Held] += 3 * g.Seams[x.Arg].Len
		r.Sewn[x.Arg]++
		r.At = ends(g, seam.Move{x.Arg, x.Back})[1]
	case cut:
		r.Used[r.Held] += 2
		r.Held = -1
		r.Cuts++
	}
	return r
}

func atFirst(g seam.Graph) seam.Report {
	return seam.Report{Held: -1, Sewn: make([]int, len(g.Seams)), Used: make([]int, 8)}
}

// executed is the definition, with the place in the program and how often its Op is still to be executed.
func executed(g seam.Graph, p []seam.Op, fuel int) seam.Report {
	r := atFirst(g)
	for place, times := 0, 1; place < len(p); {
		if times == 0 {
			place, times = place+1, 1
			continue
		}
		r.Fault = 10
		if r.Steps < fuel {
			r.Fault = faultOf(g, r, p[place], p[place+1:])
		}
		if r.Fault != 0 {
			return r
		}
		r = done(g, r, p[place])
		times--
		if p[place].Code == repeat {
			times, place = p[place].Arg, place+1
		}
	}
	return r
}

func randomOp(random *rand.Rand, g seam.Graph) seam.Op {
	switch random.Intn(12) {
	case 0:
		return op(take, random.Intn(8))
	case 1:
		return op(goTo, random.Intn(min(16, g.N+2)))
	case 2:
		return op(lock, 0)
	case 3, 4:
		return op(cut, 0)
	case 5:
		return op(repeat, random.Intn(5))
	}
	return seam.Op{sew, random.Intn(min(64, len(g.Seams)+1)), random.Intn(2) == 0}
}

// randomProgram mostly goes on with an Op that does not fault, as far as one is found.
func randomProgram(random *rand.Rand, g seam.Graph, n int) []seam.Op {
	var p []seam.Op
	for len(p) < n {
		p = append(p, randomOp(random, g))
		for try := 0; try < 40 && random.Intn(40) > 0; try++ {
			if fault := executed(g, p, 1000).Fault; fault == 0 || fault == 8 {
				break
			}
			p[len(p)-1] = randomOp(random, g)
		}
	}
	return p
}

// P7.6: the reports of programs, with every fuel that matters.
func TestRun(t *testing.T) {
	random := rand.New(rand.NewSource(7))
	seen := seen{}
	for _, g := range samples(400, 4, 8) {
		p := randomProgram(random, g, random.Intn(30))
		whole := executed(g, p, 1000)
		for _, fuel := range []int{0, 1, 2, whole.Steps / 2, max(0, whole.Steps-1), whole.Steps, whole.Steps + 1, 100000} {
			r, e := seam.Run(g, p, fuel)
			want := executed(g, p, fuel)
			wantReport(t, g, p, fuel, r, e, want)
			seen.note(fmt.Sprint("fault ", want.Fault), true)
			seen.note("long", want.Steps > 20)
			seen.note("thread", slices.Max(want.Used) > 100)
			seen.note("several cuts", want.Cuts > 2)
			seen.note("sewn again", len(want.Sewn) > 0 && slices.Max(want.Sewn) > 2)
		}
	}
	seen.want(t, 30, "fault 0", "fault 1", "fault 2", "fault 4", "fault 5", "fault 6", "fault 10", "long", "thread", "several cuts", "sewn again")
	seen.want(t, 5, "fault 3", "fault 7", "fault 8", "fault 9")
}

// P7.6: programs of Ops that are drawn without care.
func TestRunOfAnything(t *testing.T) {
	random := rand.New(rand.NewSource(9))
	seen := seen{}
	for _, g := range samples(5000, 3, 4) {
		var p []seam.Op
		for range random.Intn(12) {
			p = append(p, randomOp(random, g))
		}
		fuel := random.Intn(15)
		r, e := seam.Run(g, p, fuel)
		want := executed(g, p, fuel)
		wantReport(t, g, p, fuel, r, e, want)
		seen.note(fmt.Sprint("fault ", want.Fault), true)
	}
	seen.want(t, 10, "fault 0", "fault 1", "fault 2", "fault 3", "fault 4", "fault 5", "fault 6", "fault 7", "fault 8", "fault 9", "fault 10")
}

// text is a program's report in short: fault, steps, joint, thread held, cuts.
type text struct {
	program string
	fuel    int
	want    [5]int
}

func wantShort(t *testing.T, g seam.Graph, x text) {
	t.Helper()
	p, e := seam.Read(x.program)
	if e != api.OK {
		t.Errorf("Read %q: error %d", x.program, e)
	}
	r, e := seam.Run(g, p, x.fuel)
	if got := [5]int{r.Fault, r.Steps, r.At, r.Held, r.Cuts}; got != x.want || e != api.OK {
		t.Errorf("Run %q, fuel %d: %v, error %d; want %v", x.program, x.fuel, got, e, x.want)
	}
}

// P7.6: the document's examples, each fault, and which of two comes first.
func TestRunExamples(t *testing.T) {
	for _, x := range []text{
		{"", 0, [5]int{0, 0, 0, -1, 0}}, {"", 9, [5]int{0, 0, 0, -1, 0}}, {"t0 t1", 9, [5]int{1, 1, 0, 0, 0}}, {"r3 l", 9, [5]int{4, 1, 0, -1, 0}}, {"r0 l", 9, [5]int{0, 1, 0, -1, 0}},
		{"t7", 1, [5]int{0, 1, 0, 7, 0}}, {"g2", 1, [5]int{0, 1, 2, -1, 0}}, {"t0 t0", 9, [5]int{1, 1, 0, 0, 0}}, {"t0 g1", 9, [5]int{2, 1, 0, 0, 0}}, {"g3", 9, [5]int{3, 0, 0, -1, 0}}, {"g15", 9, [5]int{3, 0, 0, -1, 0}},
		{"l", 9, [5]int{4, 0, 0, -1, 0}}, {"s0", 9, [5]int{4, 0, 0, -1, 0}}, {"c", 9, [5]int{4, 0, 0, -1, 0}}, {"t0 s4", 9, [5]int{5, 1, 0, 0, 0}}, {"t0 s63-", 9, [5]int{5, 1, 0, 0, 0}}, {"t1 s0", 9, [5]int{6, 1, 0, 1, 0}}, {"t0 s1", 9, [5]int{7, 1, 0, 0, 0}}, {"t0 s0-", 9, [5]int{7, 1, 0, 0, 0}},
		{"r0", 9, [5]int{8, 0, 0, -1, 0}}, {"r9", 9, [5]int{8, 0, 0, -1, 0}}, {"r0 r0 l", 9, [5]int{9, 0, 0, -1, 0}}, {"r1 r1", 9, [5]int{9, 0, 0, -1, 0}}, {"g1 g2 g0", 2, [5]int{10, 2, 2, -1, 0}}, {"g1", 0, [5]int{10, 0, 0, -1, 0}},
		{"t0 g9", 9, [5]int{2, 1, 0, 0, 0}}, {"s63", 9, [5]int{4, 0, 0, -1, 0}}, {"t5 s63", 9, [5]int{5, 1, 0, 5, 0}}, {"t5 s1", 9, [5]int{6, 1, 0, 5, 0}}, // the first of several faults
		{"t0 t1", 1, [5]int{10, 1, 0, 0, 0}}, {"r3 l", 1, [5]int{10, 1, 0, -1, 0}}, {"r3", 0, [5]int{10, 0, 0, -1, 0}}, {"g3", 0, [5]int{10, 0, 0, -1, 0}}, {"l", 0, [5]int{10, 0, 0, -1, 0}}, // fuel before others
		{"r3 g1", 4, [5]int{0, 4, 1, -1, 0}}, {"r3 g1", 3, [5]int{10, 3, 1, -1, 0}}, {"r3 g1 g2", 4, [5]int{10, 4, 1, -1, 0}}, {"r0 g1", 1, [5]int{0, 1, 0, -1, 0}}, {"r0 g1 g2", 2, [5]int{0, 2, 2, -1, 0}}, {"r0 g1 g2", 1, [5]int{10, 1, 0, -1, 0}},
		{"r1 g1 r2 g2 r0 g0", 9, [5]int{0, 6, 2, -1, 0}}, {"r2 t0", 9, [5]int{1, 2, 0, 0, 0}}, {"t0 r2 c", 9, [5]int{4, 3, 0, -1, 1}}, {"t0 r2 s0", 9, [5]int{7, 3, 1, 0, 0}}, {"g1 t0 s0- r3 l c r0 t0 g2", 12, [5]int{0, 10, 2, -1, 1}}, {"r0 l r0 c", 2, [5]int{0, 2, 0, -1, 0}},
		{"r0 g3 r0 t0 r0 s5", 3, [5]int{0, 3, 0, -1, 0}}, {"r0 l r0", 9, [5]int{8, 1, 0, -1, 0}}, {"t0 c t1 c t7", 9, [5]int{0, 5, 0, 7, 2}}, {"t0 s0 s1 s2 c", 9, [5]int{0, 5, 0, -1, 1}}, {"g2 t0 s1- s0- s2- l", 9, [5]int{0, 6, 2, 0, 0}},
	} {
		wantShort(t, triangle(sm(0, 2, 7, 1)), x)
	}
	for _, x := range []text{{"t1 s0", 9, [5]int{5, 1, 0, 1, 0}}, {"t0 s0", 9, [5]int{5, 1, 0, 0, 0}}, {"g1", 9, [5]int{3, 0, 0, -1, 0}}, {"g0", 9, [5]int{0, 1, 0, -1, 0}}} {
		wantShort(t, gr(1), x)
	}
}

// P7.6: how much is used of each thread, and how often each seam is sewn.
func TestRunCounts(t *testing.T) {
	g := triangle(sm(0, 2, 7, 1), sm(0, 0, 10000, 7))
	for _, x := range []struct {
		program    string
		sewn, used []int
	}{
		{"", []int{0, 0, 0, 0, 0}, []int{0, 0, 0, 0, 0, 0, 0, 0}},
		{"t0 l s0 l c g0 t0 l s0 s1 s2 l c", []int{2, 1, 1, 0, 0}, []int{4 + 15 + 4 + 2 + 4 + 36 + 4 + 2, 0, 0, 0, 0, 0, 0, 0}},
		{"t1 s3 s3- c t2 l c t7 r3 s4 s4- l", []int{0, 0, 0, 2, 4}, []int{0, 42 + 2, 6, 0, 0, 0, 0, 120000 + 4}},
		{"t1 s3 s3", []int{0, 0, 0, 1, 0}, []int{0, 21, 0, 0, 0, 0, 0, 0}},
	} {
		p, _ := seam.Read(x.program)
		r, e := seam.Run(g, p, 100)
		if !slices.Equal(r.Sewn, x.sewn) || !slices.Equal(r.Used, x.used) || e != api.OK {
			t.Errorf("Run %q: %+v, error %d; want %v and %v", x.program, r, e, x.sewn, x.used)
		}
	}
}

// P7.6: the longest programs, the most fuel.
func TestRunToTheLimits(t *testing.T) {
	g := seam.Graph{16, slices.Repeat([]seam.Seam{sm(0, 0, 10000, 7)}, 64)}
	long, _ := seam.Read("t7" + strings.Repeat(" r99 s63-", 2047))
	r, e := seam.Run(g, long, 100000)
	sewn, used := make([]int, 64), make([]int, 8)
	sewn[63] = 999*99 + 98 // the take is a step, and so is each repeat
	used[7] = 30000 * sewn[63]
	wantReport(t, g, long, 100000, r, e, seam.Report{10, 100000, 0, 7, 0, sewn, used})
	locks := append([]seam.Op{op(take, 3)}, slices.Repeat([]seam.Op{op(lock, 0)}, 4095)...)
	r, e = seam.Run(g, locks, 4096)
	wantReport(t, g, locks, 4096, r, e, seam.Report{0, 4096, 0, 3, 0, make([]int, 64), []int{0, 0, 0, 4 * 4095, 0, 0, 0, 0}})
	for thread := range 8 {
		p := []seam.Op{op(take, thread), op(lock, 0), op(cut, 0)}
		r, e := seam.Run(gr(16), p, 3)
		used := make([]int, 8)
		used[thread] = 6
		wantReport(t, gr(16), p, 3, r, e, seam.Report{0, 3, 0, -1, 1, nil, used})
	}
	for j := range 16 {
		r, e := seam.Run(gr(16), []seam.Op{op(goTo, j)}, 1)
		wantReport(t, gr(16), []seam.Op{op(goTo, j)}, 1, r, e, seam.Report{0, 1, j, -1, 0, nil, make([]int, 8)})
	}
	for _, n := range []int{0, 1, 2, 98, 99} {
		p := []seam.Op{op(take, 0), op(repeat, n), op(lock, 0)}
		r, e := seam.Run(gr(1), p, 200)
		wantReport(t, gr(1), p, 200, r, e, seam.Report{0, 2 + n, 0, 0, 0, nil, []int{4 * n, 0, 0, 0, 0, 0, 0, 0}})
	}
}

// P7.6: the errors of Run: ErrArg of a graph or of fuel, then ErrSize, then ErrArg of a program.
func TestRunErrors(t *testing.T) {
	for _, p := range notPrograms() {
		r, e := seam.Run(triangle(), p, 9)
		wantError(t, fmt.Sprint("Run of ", p[:min(len(p), 3)]), r, e, api.ErrArg)
	}
	for _, p := range tooLong() {
		r, e := seam.Run(triangle(), p, 9)
		wantError(t, fmt.Sprint("Run of Ops: ", len(p)), r, e, api.ErrSize)
	}
	for _, p := range append(tooLong(), nil, []seam.Op{op(take, 0)}, []seam.Op{op(6, 0)}) {
		for _, fuel := range append(strange(), 100001, 100002) {
			r, e := seam.Run(triangle(), p, fuel)
			wantError(t, fmt.Sprint("Run with fuel ", fuel), r, e, api.ErrArg)
		}
		for _, g := range notGraphs() {
			r, e := seam.Run(g, p, 9)
			wantError(t, fmt.Sprint("Run of ", g.N, " joints"), r, e, api.ErrArg)
		}
	}
	for _, fuel := range []int{0, 1, 99999, 100000} {
		if r, e := seam.Run(gr(1), nil, fuel); r.Fault != 0 || e != api.OK {
			t.Errorf("Run with fuel %d: %+v, error %d", fuel, r, e)
		}
	}
}
