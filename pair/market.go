package pair

import (
	"slices"

	"trank/api"
)

// market gives each left glove a right one of its own, and a price to each of
// both. The shorter side is filled up with gloves that are worth nothing with any
// other, and two gloves that are worth nothing together stand for two without a
// partner. No price is below 0, no two prices sum to less than the worth of the
// two gloves, and those of a glove and its own sum to just that worth. So the sum
// of all prices is the worth of the pairs, and no pairing is worth more.
type market struct {
	*table
	n           int // the gloves of each side
	a, b        [api.MaxHands]int
	owner       [api.MaxHands]int  // the left glove of each right one
	left, right [api.MaxHands]bool // where the last search came by
}

func newMarket(t *table) *market {
	m := &market{table: t, n: max(t.lefts, t.rights)}
	for i := range m.owner {
		m.a[i] = slices.Max(t.worth[i][:])
		m.owner[i] = none
	}
	for i := range m.n {
		for !m.place(i, m.isTight) {
			m.shift()
		}
	}
	return m
}

// surplus is by how much two prices exceed the worth of the two gloves.
func (m *market) surplus(i, j int) int { return m.a[i] + m.b[j] - m.worth[i][j] }

func (m *market) isTight(i, j int) bool { return m.surplus(i, j) == 0 }

// place gives left glove i one of the right ones that are open to it. That one's owner must move to another one then, and so on to one that has no owner. If it returns false, nobody has moved.
func (m *market) place(i int, isOpen func(i, j int) bool) bool {
	m.left, m.right = [api.MaxHands]bool{}, [api.MaxHands]bool{}
	var move func(i int) bool
	move = func(i int) bool {
		m.left[i] = true
		for j := range m.n {
			if m.right[j] || !isOpen(i, j) {
				continue
			}
			m.right[j] = true
			if m.owner[j] == none || move(m.owner[j]) {
				m.owner[j] = i
				return true
			}
		}
		return false
	}
	return move(i)
}

// shift changes the prices of the gloves that a vain search came by as little as opens another right glove to one of the left ones. All of these right ones have owners among these left ones, so the tight pairs stay tight. A right glove without an owner has the price 0 to the end; so no left one's price falls below 0.
func (m *market) shift() {
	by := whole
	for i := range m.n {
		for j := range m.n {
			if m.left[i] && !m.right[j] {
				by = min(by, m.surplus(i, j))
			}
		}
	}
	for k := range m.n {
		if m.left[k] {
			m.a[k] -= by
		}
		if m.right[k] {
			m.b[k] += by
		}
	}
}

// size returns the number of pairs.
func (m *market) size() int {
	size := 0
	for j := range m.n {
		if m.allows(m.owner[j], j) {
			size++
		}
	}
	return size
}

// first returns the first of the pairings that are worth the sum of the prices. These are the ones that consist of tight pairs and leave single only gloves whose price is 0, which are tight with each other.
func (m *market) first() []int {
	chosen := make([]int, 0, m.lefts)
	isOpen := func(i, j int) bool {
		isChosen := i >= len(chosen) || chosen[i] == j || chosen[i] == none && !m.allows(i, j)
		return isChosen && m.isTight(i, j)
	}
	for i := range m.lefts {
		chosen = append(chosen, none)
		for j := range m.rights {
			if !m.allows(i, j) || !m.isTight(i, j) {
				continue
			}
			chosen[i] = j
			if m.give(i, j, isOpen) {
				break
			}
			chosen[i] = none
		}
	}
	return chosen
}

// give makes left glove i the owner of right glove j, if the owner of j can be placed elsewhere.
func (m *market) give(i, j int, isOpen func(i, j int) bool) bool {
	if m.owner[j] == i {
		return true
	}
	before := m.owner
	m.owner[slices.Index(m.owner[:], i)] = none
	m.owner[j] = i
	if !m.place(before[j], isOpen) {
		m.owner = before
		return false
	}
	return true
}
