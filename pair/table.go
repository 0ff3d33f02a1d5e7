package pair

import "trank/api"

const whole = 1000000000 // the worth of a pair that costs nothing

// table has the worth of each pair of a left and a right glove: 0 for one that is not allowed, more than 0 for all others.
type table struct {
	lefts, rights int
	worth         [api.MaxHands][api.MaxHands]int
}

// open returns the table of two sides, if they and the rule are valid.
func open(l, r []Glove, u Rule) (*table, bool) {
	if !areHands(l) || !areHands(r) || !u.isValid() {
		return nil, false
	}
	t := &table{lefts: len(l), rights: len(r)}
	for i, a := range l {
		for j, b := range r {
			if cost, ok := u.cost(a, b); ok {
				t.worth[i][j] = whole - cost
			}
		}
	}
	return t, true
}

// openWith returns the table of two sides and the error of a call that takes a pairing of them.
func openWith(l, r []Glove, u Rule, m []int) (*table, api.Errno) {
	t, ok := open(l, r, u)
	switch {
	case !ok:
		return nil, api.ErrArg
	case len(m) != t.lefts:
		return nil, api.ErrSize
	case !t.isPairing(m):
		return nil, api.ErrForm
	}
	return t, api.OK
}

func (t *table) allows(i, j int) bool { return t.worth[i][j] > 0 }

func (t *table) cost(i, j int) int { return whole - t.worth[i][j] }

func (t *table) isPairing(m []int) bool {
	var taken [api.MaxHands]bool
	for i, j := range m {
		if j == none {
			continue
		}
		if j < 0 || j >= t.rights || taken[j] || !t.allows(i, j) {
			return false
		}
		taken[j] = true
	}
	return true
}

// upTo returns a table that allows only the pairs that cost at most so much. Each of them is worth 1, so that a pairing's worth is its size.
func (t *table) upTo(cost int) *table {
	u := &table{lefts: t.lefts, rights: t.rights}
	for i := range t.lefts {
		for j := range t.rights {
			if t.allows(i, j) && t.cost(i, j) <= cost {
				u.worth[i][j] = 1
			}
		}
	}
	return u
}

// Weigh returns the size and the cost of a pairing.
func Weigh(l, r []Glove, u Rule, m []int) (int, int, api.Errno) {
	t, e := openWith(l, r, u, m)
	if e != api.OK {
		return 0, 0, e
	}
	size, cost := 0, 0
	for i, j := range m {
		if j != none {
			size++
			cost += t.cost(i, j)
		}
	}
	return size, cost, api.OK
}
