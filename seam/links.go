package seam

import (
	"slices"

	"trank/api"
)

// jump is the seam of a link that is not sewn.
const jump = -1

// link is a seam by its index, or a jump.
type link struct{ a, b, seam int }

func (g Graph) links() []link {
	var l []link
	for i, s := range g.Seams {
		l = append(l, link{s.A, s.B, i})
	}
	return l
}

func (g Graph) ofThread(thread int) []link {
	return slices.DeleteFunc(g.links(), func(l link) bool { return g.Seams[l.seam].Thread != thread })
}

// across returns the joint to which l leads from another one, and false if it has no end there.
func (l link) across(from int) (int, bool) {
	switch from {
	case l.a:
		return l.b, true
	case l.b:
		return l.a, true
	}
	return 0, false
}

// oddJoints returns the joints of odd degree, rising.
func oddJoints(links []link) []int {
	var odd [api.MaxJoints]bool
	for _, l := range links {
		odd[l.a] = !odd[l.a]
		odd[l.b] = !odd[l.b]
	}
	var joints []int
	for j, is := range odd {
		if is {
			joints = append(joints, j)
		}
	}
	return joints
}

// classes returns, for each joint, the first one of its class.
func classes(links []link) [api.MaxJoints]int {
	var first [api.MaxJoints]int
	for j := range first {
		first[j] = j
	}
	for _, l := range links {
		kept, gone := min(first[l.a], first[l.b]), max(first[l.a], first[l.b])
		for j := range first {
			if first[j] == gone {
				first[j] = kept
			}
		}
	}
	return first
}

// trail returns a walk from a joint that has each link once, given that there is one (Hierholzer). Where no link is left to go on with, the walk ends; so it is found from its end on.
func trail(links []link, from int) []Move {
	used := make([]bool, len(links))
	var walk []Move
	var leave func(at int)
	leave = func(at int) {
		for i, l := range links {
			to, ok := l.across(at)
			if !ok || used[i] {
				continue
			}
			used[i] = true
			leave(to)
			walk = append(walk, Move{Seam: l.seam, Back: at != l.a})
		}
	}
	leave(from)
	slices.Reverse(walk)
	return walk
}
