package seam

import (
	"math/bits"
	"slices"

	"trank/api"
)

// far is above the length of every walk without a repeated joint, and so of none.
const far = api.MaxJoints * maxLen

// distances has the least length of a walk for each two joints; far if there is none.
type distances [api.MaxJoints][api.MaxJoints]int

// Far returns the least length of a walk.
func Far(g Graph, a, b int) (int, bool, api.Errno) {
	if !Valid(g) || !g.hasJoint(a) || !g.hasJoint(b) {
		return 0, false, api.ErrArg
	}
	d := g.distances()
	if d[a][b] == far {
		return 0, false, api.OK
	}
	return d[a][b], true, api.OK
}

// Round returns the least length of a closed walk that sews all seams.
func Round(g Graph, from int) (int, api.Errno) {
	walk, e := Tour(g, from)
	length := 0
	for _, m := range walk {
		length += g.Seams[m.Seam].Len
	}
	return length, e
}

// Tour returns a closed walk of the least length that sews all seams. The seams that it sews twice are shortest walks between joints of odd degree, so that it can leave each joint as often as it comes there.
func Tour(g Graph, from int) ([]Move, api.Errno) {
	if !Valid(g) || !g.hasJoint(from) {
		return nil, api.ErrArg
	}
	links := g.links()
	first := classes(links)
	for _, l := range links {
		if first[l.a] != first[from] {
			return nil, api.ErrNone
		}
	}
	d := g.distances()
	walked := links
	for _, ends := range d.couples(oddJoints(links)) {
		walked = slices.Concat(walked, g.shortest(links, d, ends[0], ends[1]))
	}
	return trail(walked, from), api.OK
}

func (g Graph) distances() *distances {
	d := new(distances)
	for a := range d {
		for b := range d {
			d[a][b] = far
		}
		d[a][a] = 0
	}
	for _, s := range g.Seams {
		d[s.A][s.B] = min(d[s.A][s.B], s.Len)
		d[s.B][s.A] = d[s.A][s.B]
	}
	for via := range d {
		for a := range d {
			for b := range d {
				d[a][b] = min(d[a][b], d[a][via]+d[via][b])
			}
		}
	}
	return d
}

// couples divides connected joints, an even number of them, into twos with the least sum of distances. It finds the least sum for each set of them, whose first one is coupled with each other.
func (d *distances) couples(joints []int) [][2]int {
	least := make([]int, 1<<len(joints))
	partner := make([]int, len(least))
	for set := 1; set < len(least); set++ {
		first := bits.TrailingZeros(uint(set))
		least[set] = far * api.MaxJoints
		for other := first + 1; other < len(joints); other++ {
			if set>>other&1 == 0 {
				continue
			}
			sum := d[joints[first]][joints[other]] + least[set&^(1<<first|1<<other)]
			if sum < least[set] {
				least[set], partner[set] = sum, other
			}
		}
	}
	var couples [][2]int
	for set := len(least) - 1; set > 0; {
		first, other := bits.TrailingZeros(uint(set)), partner[set]
		couples = append(couples, [2]int{joints[first], joints[other]})
		set &^= 1<<first | 1<<other
	}
	return couples
}

// shortest returns the links of a shortest walk between joints that are connected.
func (g Graph) shortest(links []link, d *distances, from, to int) []link {
	var walk []link
	for from != to {
		for _, l := range links {
			at, ok := l.across(from)
			if ok && g.Seams[l.seam].Len+d[at][to] == d[from][to] {
				walk = append(walk, l)
				from = at
				break
			}
		}
	}
	return walk
}
