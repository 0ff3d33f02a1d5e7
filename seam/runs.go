package seam

import "trank/api"

// Fewest returns the least number of runs of a sewing.
func Fewest(g Graph) (int, api.Errno) {
	if !Valid(g) {
		return 0, api.ErrArg
	}
	return len(g.runs()), api.OK
}

// Runs returns a sewing with the least number of runs.
func Runs(g Graph) ([][]Move, api.Errno) {
	if !Valid(g) {
		return nil, api.ErrArg
	}
	return g.runs(), api.OK
}

// Sews reports whether runs are a sewing.
func Sews(g Graph, runs [][]Move) (bool, api.Errno) {
	if !Valid(g) {
		return false, api.ErrArg
	}
	return g.isSewing(runs), api.OK
}

// runs sews, for each thread, one class of joints after the other.
func (g Graph) runs() [][]Move {
	var runs [][]Move
	for thread := range threads {
		links := g.ofThread(thread)
		first := classes(links)
		for class := range g.N {
			var within []link
			for _, l := range links {
				if first[l.a] == class {
					within = append(within, l)
				}
			}
			if len(within) > 0 {
				runs = append(runs, connectedRuns(within)...)
			}
		}
	}
	return runs
}

// connectedRuns jumps between joints of odd degree until at most two of them are left, the first and the last of a walk. No joint has two jumps, so there is a seam before and after each.
func connectedRuns(links []link) [][]Move {
	from := links[0].a
	odd := oddJoints(links)
	if len(odd) > 0 {
		from = odd[0]
	}
	for k := 1; k+1 < len(odd); k += 2 {
		links = append(links, link{odd[k], odd[k+1], jump})
	}
	return withoutJumps(trail(links, from))
}

// withoutJumps returns the parts of a walk between its jumps.
func withoutJumps(walk []Move) [][]Move {
	var runs [][]Move
	var run []Move
	for _, m := range walk {
		if m.Seam == jump {
			runs = append(runs, run)
			run = nil
		} else {
			run = append(run, m)
		}
	}
	return append(runs, run)
}

func (g Graph) isSewing(runs [][]Move) bool {
	var sewn [api.MaxSeams]bool
	count := 0
	for _, run := range runs {
		if len(run) == 0 {
			return false
		}
		for k, m := range run {
			if !g.hasSeam(m.Seam) || sewn[m.Seam] || k > 0 && !g.goesOn(run[k-1], m) {
				return false
			}
			sewn[m.Seam] = true
			count++
		}
	}
	return count == len(g.Seams)
}

// goesOn reports whether a run can have next after m.
func (g Graph) goesOn(m, next Move) bool {
	_, end := g.ends(m)
	start, _ := g.ends(next)
	return end == start && g.Seams[m.Seam].Thread == g.Seams[next.Seam].Thread
}
