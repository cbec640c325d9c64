package testkit

import (
	"slices"

	"cooper/api"
	"cooper/cnf"
)

// WrongStep is the place of the first step of a proof that isn't one, or -1: found by looking at all clauses again and again.
func WrongStep(n int, clauses [][]int, proof []api.Step) int {
	var there [][]int
	for _, c := range clauses {
		if f, ok := cnf.Form(c); ok && cnf.Atoms([][]int{f}) <= n {
			there = append(there, f)
		}
	}
	for i, step := range proof {
		f, ok := cnf.Form(step.Clause)
		if !ok || cnf.Atoms([][]int{f}) > n {
			return i
		}
		if !step.Gone {
			if !AtOnce(n, there, f) {
				return i
			}
			there = append(there, f)
			continue
		}
		at := len(there) - 1
		for at >= 0 && !slices.Equal(there[at], f) {
			at--
		}
		if at < 0 {
			return i
		}
		there = slices.Delete(there, at, at+1)
	}
	return -1
}

// AtOnce tells whether a clause follows at once of others.
func AtOnce(n int, clauses [][]int, clause []int) bool {
	value := make([]int, n+1)
	is := func(l int) int {
		if l < 0 {
			return -value[-l]
		}
		return value[l]
	}
	so := func(l int) {
		if l < 0 {
			value[-l] = -1
		} else {
			value[l] = 1
		}
	}
	for _, l := range clause {
		if is(l) > 0 {
			return true
		}
		so(-l)
	}
	for changed := true; changed; {
		changed = false
		for _, c := range clauses {
			last, open, holds := 0, 0, false
			for _, l := range c {
				holds = holds || is(l) > 0
				if is(l) == 0 {
					last, open = l, open+1
				}
			}
			if !holds && open == 0 {
				return true
			}
			if !holds && open == 1 {
				so(last)
				changed = true
			}
		}
	}
	return false
}

// Pigeons are the clauses that so many pigeons sit in holes, no two in one.
func Pigeons(pigeons, holes int) (int, [][]int) {
	b := cnf.New()
	at := func(p, h int) int { return p*holes + h + 1 }
	for p := range pigeons {
		var row []int
		for h := range holes {
			row = append(row, at(p, h))
		}
		b.Add(row...)
	}
	for h := range holes {
		var row []int
		for p := range pigeons {
			row = append(row, at(p, h))
		}
		b.Most(row...)
	}
	return pigeons * holes, b.Clauses()
}

// Clauses are some clauses of up to so many literals, over n atoms.
func Clauses(d *Dice, n, count, literals int) [][]int {
	var out [][]int
	for range count {
		var c []int
		for range 1 + d.Roll(literals) {
			c = append(c, (1+d.Roll(n))*(1-2*d.Roll(2)))
		}
		if len(c) > 1 || d.Once(4) {
			out = append(out, c)
		}
	}
	return out
}
