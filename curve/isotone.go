package curve

import (
	"slices"

	"trank/api"
	"trank/frac"
)

const maxMeasure = 1000000

// run is a run of neighbours that share their mean.
type run struct{ sum, count int }

// Isotone returns the non-decreasing sequence that is nearest to l.
func Isotone(l []int) ([]api.Frac, api.Errno) {
	if len(l) > api.MaxPoints {
		return nil, api.ErrSize
	}
	if slices.ContainsFunc(l, func(n int) bool { return n < 0 || n > maxMeasure }) {
		return nil, api.ErrArg
	}
	var runs []run
	for _, n := range l {
		runs = pooled(append(runs, run{n, 1}))
	}
	var means []api.Frac
	for _, r := range runs {
		mean, _ := frac.New(r.sum, r.count)
		for range r.count {
			means = append(means, mean)
		}
	}
	return means, api.OK
}

// pooled joins the last run with those before it whose mean is above its own.
func pooled(runs []run) []run {
	for len(runs) > 1 {
		p, q := runs[len(runs)-2], runs[len(runs)-1]
		if p.sum*q.count <= q.sum*p.count {
			break
		}
		runs = append(runs[:len(runs)-2], run{p.sum + q.sum, p.count + q.count})
	}
	return runs
}
