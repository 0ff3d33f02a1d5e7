package cut

import (
	"slices"

	"trank/api"
	"trank/skin"
)

// Read returns the pieces and the worth of a plan.
func Read(b []string, k []Kind, p []Node) ([]Placed, int, api.Errno) {
	found, e := pieces(b, k, p)
	worth := 0
	for _, one := range found {
		worth += k[one.Kind].Worth
	}
	return found, worth, e
}

// Counts returns how many pieces of each kind a plan has.
func Counts(b []string, k []Kind, p []Node) ([]int, api.Errno) {
	found, e := pieces(b, k, p)
	if e != api.OK {
		return nil, e
	}
	count := make([]int, len(k))
	for _, one := range found {
		count[one.Kind]++
	}
	return count, api.OK
}

// Rest returns the board without the pieces of a plan.
func Rest(b []string, k []Kind, p []Node) ([]string, api.Errno) {
	found, e := pieces(b, k, p)
	if e != api.OK {
		return nil, e
	}
	rest := slices.Clone(b)
	for _, one := range found {
		rest, _ = skin.Punch(rest, one.At)
	}
	return rest, api.OK
}

// pieces returns the pieces of a plan for the board.
func pieces(b []string, k []Kind, p []Node) ([]Placed, api.Errno) {
	o, ok := open(b, k)
	if !ok {
		return nil, api.ErrArg
	}
	found, after, ok := o.read(o.area.whole(), p, nil)
	if !ok || len(after) > 0 {
		return nil, api.ErrForm
	}
	return found, api.OK
}

// read reads the plan for r with which p begins. It returns found with its pieces, and the nodes after the plan.
func (b board) read(r api.Rect, p []Node, found []Placed) ([]Placed, []Node, bool) {
	if len(p) == 0 {
		return nil, nil, false
	}
	node, after := p[0], p[1:]
	switch node.Op {
	case waste:
		return found, after, node == Node{Op: waste}
	case piece:
		if !b.isPiece(node, r) {
			return nil, nil, false
		}
		return append(found, Placed{Kind: node.Arg, At: r, Turned: node.Turned}), after, true
	case vertical, horizontal:
		if node.Turned || node.Arg < 1 || node.Arg >= side(r, node.Op) {
			return nil, nil, false
		}
		first, other := split(r, node.Op, node.Arg)
		found, after, ok := b.read(first, after, found)
		if !ok {
			return nil, nil, false
		}
		return b.read(other, after, found)
	}
	return nil, nil, false
}

// isPiece reports whether a node of Op 1 is a plan for r.
func (b board) isPiece(n Node, r api.Rect) bool {
	if n.Arg < 0 || n.Arg >= len(b.kinds) {
		return false
	}
	turned, ok := b.fits(n.Arg, r)
	return ok && turned == n.Turned
}
