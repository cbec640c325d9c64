package testkit

import "slices"

// Models are all models of clauses over n atoms in which some literals are so.
func Models(n int, clauses [][]int, assume []int) [][]bool {
	m := &models{value: make([]int, n+1), of: make([][]int, 2*n+2), clauses: clauses}
	for i, c := range clauses {
		for _, literal := range c {
			m.of[m.index(-literal)] = append(m.of[m.index(-literal)], i)
		}
	}
	for i, c := range clauses {
		if len(c) == 0 || len(c) == 1 && !m.set(clauses[i][0]) {
			return nil
		}
	}
	for _, literal := range assume {
		if !m.set(literal) {
			return nil
		}
	}
	m.search()
	return m.found
}

type models struct {
	clauses [][]int
	of      [][]int // of each literal the clauses that have its opposite
	value   []int
	trail   []int
	found   [][]bool
}

func (m *models) index(literal int) int {
	if literal < 0 {
		return -2*literal + 1
	}
	return 2 * literal
}

func (m *models) is(literal int) int {
	if literal < 0 {
		return -m.value[-literal]
	}
	return m.value[literal]
}

// set makes a literal so, and all that follows, and tells whether that may be.
func (m *models) set(literal int) bool {
	if m.is(literal) != 0 {
		return m.is(literal) > 0
	}
	head := len(m.trail)
	m.put(literal)
	for ; head < len(m.trail); head++ {
		for _, i := range m.of[m.index(m.trail[head])] {
			if !m.look(m.clauses[i]) {
				return false
			}
		}
	}
	return true
}

func (m *models) put(literal int) {
	if literal < 0 {
		m.value[-literal] = -1
	} else {
		m.value[literal] = 1
	}
	m.trail = append(m.trail, literal)
}

// look puts the last open literal of a clause on the trail, and tells whether the clause may be.
func (m *models) look(clause []int) bool {
	open, count := 0, 0
	for _, literal := range clause {
		switch m.is(literal) {
		case 1:
			return true
		case 0:
			open = literal
			count++
		}
	}
	if count == 1 {
		m.put(open)
	}
	return count > 0
}

func (m *models) search() {
	atom := slices.Index(m.value[1:], 0) + 1
	if atom == 0 {
		model := make([]bool, len(m.value)-1)
		for i := range model {
			model[i] = m.value[i+1] > 0
		}
		m.found = append(m.found, model)
		return
	}
	for _, literal := range []int{-atom, atom} {
		before := len(m.trail)
		if m.set(literal) {
			m.search()
		}
		for _, l := range m.trail[before:] {
			m.value[max(l, -l)] = 0
		}
		m.trail = m.trail[:before]
	}
}
