package pair

import (
	"slices"

	"trank/api"
)

// Stable returns the stable pairing that all left gloves prefer. Of all pairs of
// two gloves that are both single yet, the first by cost, then by the left index,
// then by the right one, has two gloves that prefer each other to all the others:
// it is one of every stable pairing. So there is but one stable pairing.
func Stable(l, r []Glove, u Rule) ([]int, api.Errno) {
	t, ok := open(l, r, u)
	if !ok {
		return nil, api.ErrArg
	}
	pairs := t.list(t.allows)
	slices.SortStableFunc(pairs, func(p, q [2]int) int { return t.cost(p[0], p[1]) - t.cost(q[0], q[1]) })
	m := slices.Repeat([]int{none}, t.lefts)
	var taken [api.MaxHands]bool
	for _, p := range pairs {
		if i, j := p[0], p[1]; m[i] == none && !taken[j] {
			m[i], taken[j] = j, true
		}
	}
	return m, api.OK
}

// list returns the pairs of indices that are asked for, by the left one, then the right one.
func (t *table) list(asked func(i, j int) bool) [][2]int {
	var l [][2]int
	for i := range t.lefts {
		for j := range t.rights {
			if asked(i, j) {
				l = append(l, [2]int{i, j})
			}
		}
	}
	return l
}

// Blocking returns the pairs that block a pairing.
func Blocking(l, r []Glove, u Rule, m []int) ([][2]int, api.Errno) {
	t, e := openWith(l, r, u, m)
	if e != api.OK {
		return nil, e
	}
	turned, back := t.turned(), slices.Repeat([]int{none}, t.rights)
	for i, j := range m {
		if j != none {
			back[j] = i
		}
	}
	return t.list(func(i, j int) bool { return t.prefers(i, j, m[i]) && turned.prefers(j, i, back[j]) }), api.OK
}

// prefers reports whether left glove i prefers right glove j to its partner k, or to none.
func (t *table) prefers(i, j, k int) bool {
	if k == none || !t.allows(i, j) {
		return t.allows(i, j)
	}
	return t.worth[i][j] > t.worth[i][k] || t.worth[i][j] == t.worth[i][k] && j < k
}

// turned returns the table in which the sides are exchanged.
func (t *table) turned() *table {
	u := &table{lefts: t.rights, rights: t.lefts}
	for i := range t.lefts {
		for j := range t.rights {
			u.worth[j][i] = t.worth[i][j]
		}
	}
	return u
}
