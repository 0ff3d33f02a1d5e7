package seam_test

import (
	"math"
	"math/rand"
	"slices"
	"testing"

	"trank/api"
	"trank/seam"
)

func sm(a, b, length, thread int) seam.Seam { return seam.Seam{a, b, length, thread} }

func gr(n int, l ...seam.Seam) seam.Graph { return seam.Graph{n, l} }

func mv(i int) seam.Move { return seam.Move{Seam: i} }

func back(i int) seam.Move { return seam.Move{Seam: i, Back: true} }

func triangle(more ...seam.Seam) seam.Graph {
	return seam.Graph{3, append([]seam.Seam{sm(0, 1, 5, 0), sm(1, 2, 4, 0), sm(2, 0, 3, 0)}, more...)}
}

// single has the seam of the document's second example.
func single() seam.Graph { return gr(2, sm(0, 1, 5, 2)) }

// threads8 has a seam for each thread.
func threads8() seam.Graph {
	g := seam.Graph{N: 2}
	for thread := range 8 {
		g.Seams = append(g.Seams, sm(0, 1, 1+thread, thread))
	}
	return g
}

// examples are those of the document, and others of special shape; all have few seams.
func examples() []seam.Graph {
	return []seam.Graph{
		triangle(), triangle(sm(0, 2, 7, 1)), single(), gr(1), gr(2), gr(16),
		gr(1, sm(0, 0, 2, 0), sm(0, 0, 3, 0)), gr(1, sm(0, 0, 2, 0), sm(0, 0, 3, 7)), // loops of one thread, of two
		gr(4, sm(0, 1, 1, 0), sm(0, 2, 1, 0), sm(0, 3, 1, 0)),                                                                   // a star
		gr(4, sm(3, 2, 4, 1), sm(2, 1, 5, 1), sm(1, 0, 6, 1)),                                                                   // a chain, backward
		gr(4, sm(0, 1, 9, 0), sm(2, 3, 8, 0)),                                                                                   // two pieces of one thread
		gr(4, sm(2, 3, 9, 0), sm(2, 3, 8, 0)),                                                                                   // joints without seams first
		gr(4, sm(0, 1, 1, 0), sm(0, 2, 2, 0), sm(0, 3, 3, 0), sm(1, 2, 4, 0), sm(1, 3, 5, 0), sm(2, 3, 6, 0)),                   // each with each
		gr(4, sm(0, 1, 1, 5), sm(0, 1, 2, 5), sm(1, 2, 2, 5), sm(1, 2, 1, 5), sm(0, 3, 1, 5), sm(1, 3, 3, 5), sm(2, 3, 1, 5)),   // the bridges of Koenigsberg
		gr(6, sm(0, 1, 1, 3), sm(1, 2, 1, 3), sm(2, 0, 1, 3), sm(3, 4, 1, 3), sm(4, 5, 1, 3), sm(5, 3, 1, 3), sm(2, 3, 7, 3)),   // two rings and a bridge
		gr(5, sm(0, 1, 1, 3), sm(1, 2, 1, 3), sm(2, 0, 1, 3), sm(2, 3, 1, 3), sm(3, 4, 1, 3), sm(4, 2, 1, 3)),                   // two rings at a joint
		gr(3, sm(0, 1, 1, 0), sm(1, 1, 4, 0), sm(1, 2, 1, 0), sm(2, 2, 3, 0)),                                                   // loops on a chain
		gr(2, sm(0, 1, 7, 4), sm(1, 0, 7, 4), sm(0, 1, 6, 4)),                                                                   // three between two
		gr(3, sm(0, 1, 10, 0), sm(1, 2, 10, 0), sm(0, 2, 1, 1), sm(0, 2, 30, 2)),                                                // a detour that is shorter
		gr(5, sm(0, 1, 1, 0), sm(1, 2, 1, 1), sm(2, 3, 1, 0), sm(3, 4, 1, 1), sm(4, 0, 1, 0)),                                   // threads by turns
		gr(7, sm(0, 1, 3, 6), sm(0, 2, 4, 6), sm(0, 3, 5, 6), sm(0, 4, 6, 6), sm(0, 5, 7, 6), sm(0, 6, 8, 6), sm(0, 0, 9, 6)),   // a star with a loop
		gr(16, sm(15, 14, 10000, 7), sm(14, 13, 10000, 7), sm(13, 15, 10000, 7), sm(0, 15, 1, 0), sm(0, 15, 1, 0)),              // the last joints
		gr(4, sm(0, 1, 2, 0), sm(1, 2, 2, 0), sm(2, 3, 2, 0), sm(3, 0, 2, 0), sm(0, 2, 3, 1), sm(1, 3, 3, 1), sm(1, 3, 1, 1)),   // a square with diagonals
		gr(5, sm(0, 1, 4, 0), sm(0, 1, 4, 0), sm(1, 2, 4, 0), sm(3, 3, 1, 0), sm(2, 1, 4, 0), sm(3, 3, 2, 0)),                   // a piece of loops alone
		gr(6, sm(0, 1, 1, 0), sm(1, 2, 100, 0), sm(2, 3, 1, 0), sm(3, 4, 100, 0), sm(4, 5, 1, 0), sm(5, 0, 100, 0)),             // short and long
		gr(6, sm(0, 1, 1, 0), sm(0, 1, 1, 0), sm(0, 1, 1, 0), sm(2, 3, 1, 0), sm(2, 3, 1, 0), sm(1, 2, 5, 0), sm(4, 5, 1, 1)),   // a bridge between multiples
		gr(8, sm(0, 4, 1, 0), sm(1, 4, 2, 0), sm(2, 4, 3, 0), sm(3, 4, 4, 0), sm(4, 5, 100, 0), sm(5, 6, 5, 0), sm(5, 7, 5, 0)), // two stars and a bridge
	}
}

func randomGraph(random *rand.Rand, joints, seams int) seam.Graph {
	g := seam.Graph{N: joints}
	threads, longest := 1+random.Intn(8), []int{1, 5, 100, 10000}[random.Intn(4)]
	for range seams {
		g.Seams = append(g.Seams, sm(random.Intn(joints), random.Intn(joints), 1+random.Intn(longest), random.Intn(threads)))
	}
	return g
}

// connectedGraph has a seam from each joint to an earlier one, and others.
func connectedGraph(random *rand.Rand, joints, seams int) seam.Graph {
	g := randomGraph(random, joints, seams)
	for j := 1; j < joints && j <= seams; j++ {
		g.Seams[j-1].A, g.Seams[j-1].B = random.Intn(j), j
	}
	random.Shuffle(seams, func(i, k int) { g.Seams[i], g.Seams[k] = g.Seams[k], g.Seams[i] })
	return g
}

// samples are the examples and n others, with up to the numbers of joints and seams.
func samples(n, joints, seams int) []seam.Graph {
	random := rand.New(rand.NewSource(int64(n * seams)))
	l := examples()
	for range n {
		j := 1 + random.Intn(joints)
		l = append(l, randomGraph(random, j, random.Intn(seams+1)), connectedGraph(random, j, random.Intn(seams+1)))
	}
	return l
}

// great are graphs at the limits.
func great() []seam.Graph {
	random := rand.New(rand.NewSource(16))
	l := []seam.Graph{
		{1, slices.Repeat([]seam.Seam{sm(0, 0, 10000, 7)}, 64)}, {2, slices.Repeat([]seam.Seam{sm(0, 1, 10000, 7)}, 64)}, {2, slices.Repeat([]seam.Seam{sm(1, 0, 10000, 7)}, 63)},
		star(15, 0), star(0, 10000), chain(), wheel(), ladder(), {16, append(chain().Seams, chain().Seams...)},
	}
	for range 12 {
		l = append(l, randomGraph(random, 16, 64), connectedGraph(random, 16, 64), connectedGraph(random, 16, 15+random.Intn(10)), connectedGraph(random, 16, 24))
	}
	return l
}

// star has 16 joints; all but one have an odd degree of 1.
func star(middle, length int) seam.Graph {
	g := seam.Graph{N: 16}
	for j := range 16 {
		if j != middle {
			g.Seams = append(g.Seams, sm(middle, j, max(length, j+1), 0))
		}
	}
	return g
}

func chain() seam.Graph {
	g := seam.Graph{N: 16}
	for j := range 15 {
		g.Seams = append(g.Seams, sm(j, j+1, 10000, 0))
	}
	return g
}

// wheel has 15 joints of degree 3 around one of degree 15.
func wheel() seam.Graph {
	g := star(0, 0)
	for j := range 15 {
		g.Seams = append(g.Seams, sm(1+j, 1+(j+1)%15, 3+j%4, 0))
	}
	return g
}

// ladder has 16 joints of degree 3.
func ladder() seam.Graph {
	g := seam.Graph{N: 16}
	for j := range 8 {
		g.Seams = append(g.Seams, sm(j, j+8, 9-j, 1), sm(j, (j+1)%8, 3, 1), sm(8+j, 8+(j+1)%8, 4, 1))
	}
	return g
}

// ends are where a move begins and ends.
func ends(g seam.Graph, m seam.Move) [2]int {
	s := g.Seams[m.Seam]
	if m.Back {
		return [2]int{s.B, s.A}
	}
	return [2]int{s.A, s.B}
}

// isWalk holds of no moves too.
func isWalk(g seam.Graph, l []seam.Move) bool {
	for k, m := range l {
		if m.Seam < 0 || m.Seam >= len(g.Seams) || k > 0 && ends(g, l[k-1])[1] != ends(g, m)[0] {
			return false
		}
	}
	return true
}

// isSewing is the definition: runs of one thread each, and each seam once.
func isSewing(g seam.Graph, runs [][]seam.Move) bool {
	times := make([]int, len(g.Seams))
	for _, run := range runs {
		if len(run) == 0 || !isWalk(g, run) {
			return false
		}
		for _, m := range run {
			if g.Seams[m.Seam].Thread != g.Seams[run[0].Seam].Thread {
				return false
			}
			times[m.Seam]++
		}
	}
	return !slices.ContainsFunc(times, func(n int) bool { return n != 1 })
}

// reached are the joints that are connected with one in some of the seams.
func reached(g seam.Graph, from int, isIn func(i int) bool) map[int]bool {
	found := map[int]bool{from: true}
	for n := 0; n != len(found); {
		n = len(found)
		for i, s := range g.Seams {
			if isIn(i) && (found[s.A] || found[s.B]) {
				found[s.A], found[s.B] = true, true
			}
		}
	}
	return found
}

func all(int) bool { return true }

func isConnected(g seam.Graph) bool { return len(reached(g, 0, all)) == g.N }

// degree counts the ends at a joint.
func degree(g seam.Graph, joint int, isIn func(i int) bool) int {
	n := 0
	for i, s := range g.Seams {
		for _, end := range []int{s.A, s.B} {
			if isIn(i) && end == joint {
				n++
			}
		}
	}
	return n
}

func ofThread(g seam.Graph, thread int) func(i int) bool {
	return func(i int) bool { return g.Seams[i].Thread == thread }
}

// oddOnes are the joints of odd degree.
func oddOnes(g seam.Graph, isIn func(i int) bool) []int {
	var l []int
	for j := range g.N {
		if degree(g, j, isIn)%2 == 1 {
			l = append(l, j)
		}
	}
	return l
}

func sumOf(g seam.Graph) int {
	sum := 0
	for _, s := range g.Seams {
		sum += s.Len
	}
	return sum
}

// strange are ints that are no joint, no thread, no length, no seam and no fuel.
func strange() []int { return []int{-1, -2, 100001, 1 << 32, -1 << 32, math.MinInt, math.MaxInt} }

// notGraphs are what every function must refuse.
func notGraphs() []seam.Graph {
	good := sm(0, 1, 5, 0)
	l := []seam.Graph{
		gr(0), gr(17), gr(0, sm(0, 0, 1, 0)), gr(17, good), {}, gr(1, good), gr(2, sm(2, 0, 1, 0)), gr(2, sm(0, 2, 1, 0)), gr(15, sm(15, 15, 1, 0)), gr(16, sm(16, 0, 1, 0)), gr(16, sm(0, 16, 1, 0)),
		gr(2, sm(0, 1, 0, 0)), gr(2, sm(0, 1, 10001, 0)), gr(2, sm(0, 1, 1, 8)), gr(2, good, sm(1, 0, 1, 64)), gr(16, slices.Repeat([]seam.Seam{good}, 65)...), gr(16, slices.Repeat([]seam.Seam{good}, 100000)...), gr(16, append(slices.Repeat([]seam.Seam{good}, 63), sm(0, 1, 0, 0))...),
	}
	for _, n := range strange() {
		l = append(l, gr(n), gr(n, good), gr(2, sm(n, 1, 1, 0)), gr(2, sm(0, n, 1, 0)), gr(2, good, sm(1, 0, n, 0)), gr(2, sm(0, 1, 1, n), good), gr(2, sm(n, n, n, n)))
	}
	return l
}

func wantNumber(t *testing.T, what string, got int, e api.Errno, want int) {
	t.Helper()
	if got != want || e != api.OK {
		t.Errorf("%s: %d, error %d; want %d", what, got, e, want)
	}
}

func wantNumbers(t *testing.T, what string, got []int, e api.Errno, want []int) {
	t.Helper()
	if !slices.Equal(got, want) || e != api.OK {
		t.Errorf("%s: %v, error %d; want %v", what, got, e, want)
	}
}

func wantError(t *testing.T, what string, got any, e, want api.Errno) {
	t.Helper()
	if e != want || !isZero(got) {
		t.Errorf("%s: %v, error %d; want error %d", what, got, e, want)
	}
}

// seen counts how often something expected of the samples has been met.
type seen map[string]int

func (s seen) note(what string, is bool) {
	if is {
		s[what]++
	}
}

func (s seen) want(t *testing.T, least int, cases ...string) {
	t.Helper()
	for _, c := range cases {
		if s[c] < least {
			t.Errorf("%s: seen %d times only", c, s[c])
		}
	}
}
