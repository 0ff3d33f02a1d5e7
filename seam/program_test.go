package seam_test

import (
	"fmt"
	"math/rand"
	"slices"
	"strings"
	"testing"

	"trank/api"
	"trank/seam"
)

const (
	take = iota
	goTo
	lock
	sew
	cut
	repeat
)

func op(code, arg int) seam.Op { return seam.Op{Code: code, Arg: arg} }

func sewBack(i int) seam.Op { return seam.Op{Code: sew, Arg: i, Back: true} }

// words are all Ops there are, with their words.
func words() map[string]seam.Op {
	l := map[string]seam.Op{"l": op(lock, 0), "c": op(cut, 0)}
	for n := range 100 {
		if n < 8 {
			l[fmt.Sprintf("t%d", n)] = op(take, n)
		}
		if n < 16 {
			l[fmt.Sprintf("g%d", n)] = op(goTo, n)
		}
		if n < 64 {
			l[fmt.Sprintf("s%d", n)] = op(sew, n)
			l[fmt.Sprintf("s%d-", n)] = sewBack(n)
		}
		l[fmt.Sprintf("r%d", n)] = op(repeat, n)
	}
	return l
}

// notOps are not valid.
func notOps() []seam.Op {
	l := []seam.Op{
		op(take, 8), op(goTo, 16), op(lock, 1), op(sew, 64), op(cut, 1), op(repeat, 100), op(6, 0), op(7, 0), op(100, 0), {Code: sew, Arg: 64, Back: true}, {Code: sew, Arg: -1, Back: true}, {Code: 6, Back: true}, {Code: -1, Back: true},
		{Code: take, Back: true}, {Code: goTo, Back: true}, {Code: lock, Back: true}, {Code: cut, Back: true}, {Code: repeat, Back: true},
	}
	for _, n := range strange() {
		for code := range 6 {
			l = append(l, op(code, n), op(n, code))
		}
		l = append(l, op(n, n), sewBack(n))
	}
	return l
}

// notPrograms have an Op that is not valid.
func notPrograms() [][]seam.Op {
	var l [][]seam.Op
	for _, bad := range notOps() {
		l = append(l, []seam.Op{bad}, []seam.Op{op(take, 0), op(take, 0), bad}, append(slices.Repeat([]seam.Op{op(lock, 0)}, 4095), bad))
	}
	return l
}

// tooLong are more Ops than a program has, valid ones or not.
func tooLong() [][]seam.Op {
	long := slices.Repeat([]seam.Op{op(goTo, 1)}, 4097)
	return [][]seam.Op{long, append([]seam.Op{op(6, 0)}, long...), slices.Repeat([]seam.Op{op(-1, -1)}, 4097), slices.Repeat(long, 25)}
}

// P7.8, P7.12: every Op there is, alone and with others.
func TestTextOfEveryOp(t *testing.T) {
	for word, x := range words() {
		for text, p := range map[string][]seam.Op{word: {x}, word + " g0": {x, op(goTo, 0)}, "l " + word: {op(lock, 0), x}, word + " " + word + " " + word: {x, x, x}} {
			wantText(t, p, text)
		}
	}
	wantText(t, nil, "")
}

// wantText checks that a program has the text, and the text the program.
func wantText(t *testing.T, p []seam.Op, text string) {
	t.Helper()
	if s, e := seam.Text(p); s != text || e != api.OK {
		t.Errorf("Text %v: %q, error %d; want %q", p, s, e, text)
	}
	if l, e := seam.Read(text); !slices.Equal(l, p) || e != api.OK {
		t.Errorf("Read %q: %v, error %d; want %v", text, l, e, p)
	}
}

// P7.8: the document's example.
func TestTextExample(t *testing.T) {
	wantText(t, []seam.Op{op(goTo, 0), op(take, 2), op(repeat, 2), op(lock, 0), sewBack(0), op(cut, 0)}, "g0 t2 r2 l s0- c")
	wantText(t, []seam.Op{op(goTo, 15), op(take, 7), op(repeat, 99), sewBack(63), op(repeat, 10), op(sew, 10), op(repeat, 0), op(repeat, 1)}, "g15 t7 r99 s63- r10 s10 r0 r1")
}

// P7.12: Read of Text is the program, up to the greatest number of Ops.
func TestThereAndBack(t *testing.T) {
	random := rand.New(rand.NewSource(8))
	all := words()
	var names []string
	for word := range all {
		names = append(names, word)
	}
	slices.Sort(names)
	for _, n := range []int{2, 3, 7, 50, 300, 4094, 4095, 4096} {
		var p []seam.Op
		var text []string
		for range n {
			word := names[random.Intn(len(names))]
			p, text = append(p, all[word]), append(text, word)
		}
		wantText(t, p, strings.Join(text, " "))
	}
	for _, word := range []string{"l", "s63-", "r99"} {
		wantText(t, slices.Repeat([]seam.Op{all[word]}, 4096), strings.Repeat(word+" ", 4095)+word)
		for _, n := range []int{4097, 4098, 9000} {
			p, e := seam.Read(strings.Repeat(word+" ", n-1) + word)
			wantError(t, fmt.Sprint("Read of Ops: ", n), p, e, api.ErrForm)
		}
	}
}

// P7.8: the errors of Text, ErrSize first.
func TestTextErrors(t *testing.T) {
	for _, p := range notPrograms() {
		s, e := seam.Text(p)
		wantError(t, fmt.Sprint("Text of ", p[:min(len(p), 3)]), s, e, api.ErrArg)
	}
	for _, p := range tooLong() {
		s, e := seam.Text(p)
		wantError(t, fmt.Sprint("Text of Ops: ", len(p)), s, e, api.ErrSize)
	}
}

// P7.8: of all strings that are short, just those that are a text are read.
func TestReadOfAllStrings(t *testing.T) {
	all := words()
	read := 0
	var grow func(s string, more int)
	grow = func(s string, more int) {
		want := []seam.Op{}
		ok := true
		for k, word := range strings.Split(s, " ") {
			if x, is := all[word]; is {
				want = append(want, x)
			} else {
				ok = ok && k == 0 && s == ""
			}
		}
		p, e := seam.Read(s)
		if ok && (!slices.Equal(p, want) || e != api.OK) {
			t.Errorf("Read %q: %v, error %d; want %v", s, p, e, want)
		}
		if ok {
			read++
		} else {
			wantError(t, fmt.Sprintf("Read %q", s), p, e, api.ErrForm)
		}
		if more == 0 {
			return
		}
		for _, c := range "tglscr01679- +x" {
			grow(s+string(c), more-1)
		}
	}
	grow("", 4)
	if read < 100 {
		t.Error("read:", read)
	}
}

// P7.8: strings of another form.
func TestReadErrors(t *testing.T) {
	for _, s := range []string{
		"s00", "l0", "g16", "t1  l", "x", " ", "  ", " l", "l ", "l  l", "l\tl", "l\n", "\nl", "l,l", "l;l", "ll", "t1l", "T1", "L", "t", "g", "s", "r", "t-", "s-", "-", "s-1", "s1--", "s 1", "s1 -", "-s1",
		"t8", "t10", "t01", "t1-", "g00", "g015", "g99", "g1-", "l-", "c-", "c0", "s64", "s064", "s100", "s63 -", "r100", "r1000", "r00", "r099", "r1-", "r-1", "t+1", "s+1", "s1+", "t1.", "t1.0", "t 1", "t0x1", "r1_0", "r1e1", "0", "1t", "t१",
		"s18446744073709551616", "s18446744073709551617-", "r9223372036854775808", "t\x00", "\x00", "l\x00", "s0\x00", "é", "\xff", "t1 x", "x t1", "t1 g16 l", strings.Repeat("9", 10000), "s" + strings.Repeat("0", 10000), strings.Repeat(" ", 10000), strings.Repeat("l", 10000),
	} {
		p, e := seam.Read(s)
		wantError(t, fmt.Sprintf("Read %.30q", s), p, e, api.ErrForm)
	}
	for c := range 256 {
		s := string([]byte{byte(c)})
		p, e := seam.Read(s)
		if s != "l" && s != "c" {
			wantError(t, fmt.Sprintf("Read %q", s), p, e, api.ErrForm)
		}
		for _, s := range []string{"t1" + s + "l", "l" + s, s + "l", "s1-" + s} {
			if p, e := seam.Read(s); c != ' ' && e == api.OK {
				t.Errorf("Read %q: %v", s, p)
			}
		}
	}
}

// compiled is the definition, run by run.
func compiled(g seam.Graph, runs [][]seam.Move) []seam.Op {
	var p []seam.Op
	for _, run := range runs {
		p = append(p, op(goTo, ends(g, run[0])[0]), op(take, g.Seams[run[0].Seam].Thread), op(lock, 0))
		for _, m := range run {
			p = append(p, seam.Op{sew, m.Seam, m.Back})
		}
		p = append(p, op(lock, 0), op(cut, 0))
	}
	return p
}

// apart is the sewing that has a run for each seam.
func apart(random *rand.Rand, g seam.Graph) [][]seam.Move {
	var runs [][]seam.Move
	for _, i := range random.Perm(len(g.Seams)) {
		runs = append(runs, []seam.Move{{i, random.Intn(2) == 0}})
	}
	return runs
}

// sewings are some of a graph.
func sewings(random *rand.Rand, g seam.Graph) [][][]seam.Move {
	runs, _ := seam.Runs(g)
	l := [][][]seam.Move{runs, apart(random, g)}
	for range 4 {
		if x := changed(random, runs, len(g.Seams)); isSewing(g, x) {
			l = append(l, x)
		}
	}
	return l
}

// P7.7: the program of a sewing; P7.11: what the machine reports of it.
func TestCompile(t *testing.T) {
	random := rand.New(rand.NewSource(5))
	for _, g := range append(samples(200, 16, 40), great()...) {
		for _, runs := range sewings(random, g) {
			p, e := seam.Compile(g, runs)
			if !slices.Equal(p, compiled(g, runs)) || e != api.OK {
				t.Fatalf("Compile %v %v: %v, error %d", g, runs, p, e)
			}
			used := make([]int, 8)
			for _, run := range runs {
				for _, m := range run {
					used[g.Seams[m.Seam].Thread] += 3 * g.Seams[m.Seam].Len
				}
				used[g.Seams[run[0].Seam].Thread] += 10
			}
			at := 0
			if len(runs) > 0 {
				last := runs[len(runs)-1]
				at = ends(g, last[len(last)-1])[1]
			}
			want := seam.Report{0, len(p), at, -1, len(runs), slices.Repeat([]int{1}, len(g.Seams)), used}
			for _, fuel := range []int{len(p), len(p) + 1, 100000} {
				r, e := seam.Run(g, p, fuel)
				wantReport(t, g, p, fuel, r, e, want)
			}
		}
	}
}

// P7.7: the document's example, and a sewing of no seams.
func TestCompileExamples(t *testing.T) {
	for _, x := range []struct {
		g    seam.Graph
		runs [][]seam.Move
		want string
	}{
		{single(), [][]seam.Move{{mv(0)}}, "g0 t2 l s0 l c"}, {single(), [][]seam.Move{{back(0)}}, "g1 t2 l s0- l c"}, {gr(4), nil, ""},
		{triangle(sm(0, 2, 7, 1)), [][]seam.Move{{back(3)}, {mv(1), mv(2), mv(0)}}, "g2 t1 l s3- l c g1 t0 l s1 s2 s0 l c"},
	} {
		p, e := seam.Compile(x.g, x.runs)
		if s, _ := seam.Text(p); s != x.want || e != api.OK {
			t.Errorf("Compile %v %v: %q, error %d; want %q", x.g, x.runs, s, e, x.want)
		}
	}
}

// P7.7: ErrForm of what is no sewing.
func TestCompileErrors(t *testing.T) {
	random := rand.New(rand.NewSource(6))
	bad := 0
	for _, g := range samples(200, 6, 10) {
		runs, _ := seam.Runs(g)
		for range 10 {
			if l := changed(random, runs, len(g.Seams)); !isSewing(g, l) {
				p, e := seam.Compile(g, l)
				wantError(t, fmt.Sprint("Compile ", g, l), p, e, api.ErrForm)
				bad++
			}
		}
	}
	if bad < 1000 {
		t.Error("no sewings:", bad)
	}
	for _, runs := range [][][]seam.Move{nil, {}, {nil}, {{}}, {{mv(0)}, {}}, {{mv(-1)}}, {{mv(64)}}, {{mv(0), back(0)}}} {
		p, e := seam.Compile(single(), runs)
		wantError(t, fmt.Sprint("Compile ", runs), p, e, api.ErrForm)
	}
}

// only has the seams of one thread.
func only(g seam.Graph, thread int) seam.Graph {
	return seam.Graph{g.N, slices.DeleteFunc(slices.Clone(g.Seams), func(s seam.Seam) bool { return s.Thread != thread })}
}

// P7.7: the least of each thread, of all sewings of small graphs.
func TestThreadOfAllSewings(t *testing.T) {
	for _, g := range samples(150, 5, 6) {
		var want []int
		for thread := range 8 {
			part := only(g, thread)
			want = append(want, 3*sumOf(part)+10*fewest(part))
		}
		l, e := seam.Thread(g)
		wantNumbers(t, fmt.Sprint("Thread ", g), l, e, want)
	}
}

// P7.7, P7.11: Thread is what the program of Runs uses, and at the limits what the degrees say.
func TestThread(t *testing.T) {
	for _, g := range append(samples(200, 16, 64), great()...) {
		var want []int
		for thread := range 8 {
			part := only(g, thread)
			want = append(want, 3*sumOf(part)+10*byDegrees(part))
		}
		l, e := seam.Thread(g)
		wantNumbers(t, fmt.Sprint("Thread ", g), l, e, want)
		runs, _ := seam.Runs(g)
		p, _ := seam.Compile(g, runs)
		if r, _ := seam.Run(g, p, 1000); !slices.Equal(r.Used, want) {
			t.Errorf("Run of Runs of %v uses %v; want %v", g, r.Used, want)
		}
	}
	l, e := seam.Thread(single())
	wantNumbers(t, "the document's example", l, e, []int{0, 0, 25, 0, 0, 0, 0, 0})
	l, e = seam.Thread(gr(5))
	wantNumbers(t, "no seams", l, e, make([]int, 8))
	l, e = seam.Thread(great()[0])
	wantNumbers(t, "64 loops", l, e, []int{0, 0, 0, 0, 0, 0, 0, 1920010})
}
