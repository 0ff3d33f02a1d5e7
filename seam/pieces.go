package seam

import (
	"slices"

	"trank/api"
)

// Pieces returns the number of classes of connected joints.
func Pieces(g Graph) (int, api.Errno) {
	if !Valid(g) {
		return 0, api.ErrArg
	}
	return g.pieces(g.links()), api.OK
}

// Bridges returns the seams without which there would be more pieces.
func Bridges(g Graph) ([]int, api.Errno) {
	if !Valid(g) {
		return nil, api.ErrArg
	}
	links := g.links()
	whole := g.pieces(links)
	var bridges []int
	for i := range links {
		if g.pieces(slices.Concat(links[:i], links[i+1:])) > whole {
			bridges = append(bridges, i)
		}
	}
	return bridges, api.OK
}

// pieces returns how many classes of joints there are with these links alone.
func (g Graph) pieces(links []link) int {
	first := classes(links)
	n := 0
	for j := range g.N {
		if first[j] == j {
			n++
		}
	}
	return n
}
