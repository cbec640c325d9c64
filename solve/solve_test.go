package solve

import (
	"math"
	"reflect"
	"slices"
	"testing"

	"cooper/api"
	"cooper/cnf"
	"cooper/testkit"
)

const much = 1 << 20

func TestExample(t *testing.T) {
	s := New(2, [][]int{{1, 2}, {-1}})
	a := s.Solve(nil, much)
	if a.State != api.Sat || !slices.Equal(a.Model, []bool{false, true}) || len(a.Core) != 0 || s.Atoms() != 2 {
		t.Error(a)
	}
}

// hasModel tries all models.
func hasModel(n int, clauses [][]int, assume []int) bool {
	all := slices.Clone(clauses)
	for _, l := range assume {
		all = append(all, []int{l})
	}
	model := make([]bool, n)
	for m := range 1 << n {
		for i := range model {
			model[i] = m>>i&1 == 1
		}
		if cnf.Holds(all, model) {
			return true
		}
	}
	return false
}

// inOrder tells whether a core is some of what was assumed, in the order, each once.
func inOrder(core, assume []int) bool {
	at := -1
	for i, l := range core {
		k := slices.Index(assume, l)
		if k < 0 || slices.Contains(core[:i], l) || k < at {
			return false
		}
		at = k
	}
	return true
}

func checkAnswer(t *testing.T, n int, clauses [][]int, assume []int, a api.Answer) {
	t.Helper()
	switch a.State {
	case api.Sat:
		all := slices.Clone(clauses)
		for _, l := range assume {
			all = append(all, []int{l})
		}
		if len(a.Model) != n || !cnf.Holds(all, a.Model) || len(a.Core) != 0 {
			t.Fatal("no model", a)
		}
	case api.Unsat:
		if hasModel(n, clauses, a.Core) || !inOrder(a.Core, assume) || len(a.Model) != 0 {
			t.Fatal("no core", a, assume)
		}
	default:
		t.Fatal(a)
	}
}

// checkProof: each step follows at once, and after each Unsat the opposites of its core stand in it.
func checkProof(t *testing.T, s *Solver, clauses [][]int, cores [][]int) {
	t.Helper()
	proof := s.Proof()
	if i := testkit.WrongStep(s.Atoms(), clauses, proof); i >= 0 {
		t.Fatal("step", i, proof[i])
	}
	empty := 0
	for _, step := range proof {
		if form, ok := cnf.Form(step.Clause); !ok || !slices.Equal(form, step.Clause) {
			t.Fatal("not in its form", step)
		}
		if len(step.Clause) == 0 {
			empty++
		}
	}
	if empty > 1 {
		t.Fatal("the empty clause stands there once")
	}
	for _, core := range cores {
		var opposites []int
		for _, l := range core {
			opposites = append(opposites, -l)
		}
		form, ok := cnf.Form(opposites)
		if ok && !slices.ContainsFunc(proof, func(s api.Step) bool { return !s.Gone && slices.Equal(s.Clause, form) }) {
			t.Fatal("the core isn't in the proof", core)
		}
	}
}

// TestManyQuestions throws clauses, and asks again and again, with clauses added between.
func TestManyQuestions(t *testing.T) {
	states := map[uint8]int{}
	for seed := range 1500 {
		d := testkit.New(seed)
		n := 1 + d.Roll(10)
		clauses := testkit.Clauses(d, n, d.Roll(5*n), 4)
		s, twin := New(n, clauses), New(n, clauses)
		var cores [][]int
		for range 4 {
			var assume []int
			for range d.Roll(5) {
				assume = append(assume, (1+d.Roll(n))*(1-2*d.Roll(2)))
			}
			a := s.Solve(assume, much)
			states[a.State]++
			checkAnswer(t, n, clauses, assume, a)
			if a.State == api.Unsat {
				cores = append(cores, a.Core)
			}
			if !reflect.DeepEqual(a, twin.Solve(assume, much)) {
				t.Fatal("not the same each time")
			}
			more := testkit.Clauses(d, n, 1, 3)
			for _, c := range more {
				if _, ok := cnf.Form(c); s.Add(c) != ok || twin.Add(c) != ok {
					t.Fatal(c)
				}
				clauses = append(clauses, c)
			}
		}
		checkProof(t, s, clauses, cores)
		if !reflect.DeepEqual(s.Proof(), twin.Proof()) {
			t.Fatal("not the same each time")
		}
	}
	if states[api.Sat] < 500 || states[api.Unsat] < 500 {
		t.Error("too few were asked", states)
	}
}

// TestPigeons is hard enough to begin anew, and to forget.
func TestPigeons(t *testing.T) {
	n, clauses := testkit.Pigeons(7, 6)
	s := New(n, clauses)
	a := s.Solve(nil, much)
	if a.State != api.Unsat || len(a.Core) != 0 || a.Conflicts < 100 {
		t.Fatal(a.State, a.Conflicts)
	}
	checkProof(t, s, clauses, [][]int{nil})
	steps := len(s.Proof())
	if a := s.Solve([]int{1}, 0); a.State != api.Unsat || len(a.Core) != 0 || len(s.Proof()) != steps {
		t.Error("once there is none, there is none", a)
	}
	if a := New(testkit.Pigeons(6, 6)).Solve(nil, much); a.State != api.Sat {
		t.Error(a)
	}
}

func TestForgetting(t *testing.T) {
	n, clauses := testkit.Pigeons(9, 8)
	s := New(n, clauses)
	a := s.Solve(nil, 6000)
	proof := s.Proof()
	gone := 0
	for _, step := range proof {
		if step.Gone {
			gone++
		}
	}
	if gone == 0 {
		t.Error("nothing was forgotten in", a.Conflicts)
	}
	if len(proof) > 5000 {
		proof = proof[:5000]
	}
	if i := testkit.WrongStep(n, clauses, proof); i >= 0 {
		t.Error("step", i)
	}
}

func TestBudget(t *testing.T) {
	n, clauses := testkit.Pigeons(7, 6)
	for budget, want := range map[int]int{0: 1, 1: 2, -5: 1, math.MinInt: 1, 20: 21} {
		s := New(n, clauses)
		a := s.Solve(nil, budget)
		if a.State != api.Spent || a.Conflicts != want || len(a.Model) != 0 || len(a.Core) != 0 {
			t.Error(budget, a)
		}
		if a := s.Solve(nil, 3); a.State != api.Spent || a.Conflicts != 4 {
			t.Error("conflicts are those of one call", a)
		}
		if a := s.Solve(nil, math.MaxInt); a.State != api.Unsat {
			t.Error("it may go on", a)
		}
		checkProof(t, s, clauses, [][]int{nil})
	}
	if a := New(n, nil).Solve(nil, -1); a.State != api.Sat || a.Conflicts != 0 {
		t.Error("no conflict, nothing spent", a)
	}
}

func TestAssumed(t *testing.T) {
	s := New(4, [][]int{{-1, 2}, {-2, -3}, {4}})
	for _, c := range []struct{ assume, core []int }{
		{[]int{3, 4, 1}, []int{3, 1}}, {[]int{1, 4, 3, 1, 3}, []int{1, 3}}, {[]int{2, -2}, []int{2, -2}}, {[]int{1, -4}, []int{-4}}, {[]int{-4, -4}, []int{-4}},
	} {
		a := s.Solve(c.assume, much)
		if a.State != api.Unsat || !slices.Equal(a.Core, c.core) {
			t.Error(c.assume, a)
		}
	}
	checkProof(t, s, [][]int{{-1, 2}, {-2, -3}, {4}}, [][]int{{3, 1}, {1, 3}, {-4}})
	if a := s.Solve([]int{1, 1, 4}, much); a.State != api.Sat || !slices.Equal(a.Model, []bool{true, true, false, true}) {
		t.Error(a)
	}
}

func TestLiteralsOfNone(t *testing.T) {
	s := New(2, [][]int{{1}})
	steps := len(s.Proof())
	for _, l := range []int{0, 3, -3, math.MinInt, math.MaxInt} {
		a := s.Solve([]int{-1, l, 99}, much)
		if a.State != api.Unsat || !slices.Equal(a.Core, []int{l}) || a.Conflicts != 0 || len(s.Proof()) != steps {
			t.Error(l, a)
		}
	}
	if a := s.Solve([]int{7, 8, 1}, much); a.State != api.Unsat || !slices.Equal(a.Core, []int{7}) {
		t.Error("the first such one", a)
	}
	for _, c := range [][]int{{3}, {0}, {1, -1}, {-3, 1}, {math.MinInt}} {
		if s.Add(c) {
			t.Error(c, "is left out")
		}
	}
	if a := New(2, [][]int{{1}, {3}, {0}, {2, -2}, {-7}}).Solve(nil, 0); a.State != api.Sat {
		t.Error(a)
	}
	if !s.Add(nil) || s.Solve(nil, much).State != api.Unsat || len(s.Proof()) != steps+1 || s.Solve(nil, much).State != api.Unsat || len(s.Proof()) != steps+1 {
		t.Error("the empty clause is one")
	}
}

// TestAsItWasLast: an atom is not so at first, and then as it was last.
func TestAsItWasLast(t *testing.T) {
	s := New(4, nil)
	for _, c := range []struct {
		assume []int
		model  []bool
	}{
		{nil, make([]bool, 4)}, {[]int{2, 4}, []bool{false, true, false, true}}, {nil, []bool{false, true, false, true}}, {[]int{-4, 1}, []bool{true, true, false, false}}, {nil, []bool{true, true, false, false}},
	} {
		if a := s.Solve(c.assume, 0); a.State != api.Sat || !slices.Equal(a.Model, c.model) {
			t.Error(c, a)
		}
	}
}

func TestSizes(t *testing.T) {
	for n, want := range map[int]int{-1: 0, 0: 0, math.MinInt: 0, math.MaxInt: 65536} {
		s := New(n, [][]int{{want}})
		if a := s.Solve(nil, much); s.Atoms() != want || a.State != api.Sat || len(a.Model) != want {
			t.Error(n, s.Atoms(), a.State)
		}
	}
}

func TestMemory(t *testing.T) {
	clauses := [][]int{{1, 2}, {1, -2}, {-1, 2}}
	s := New(2, clauses)
	clauses[0][0] = -1
	assume := []int{-1}
	a := s.Solve(assume, much)
	assume[0] = 2
	a.Core[0] = 7
	for _, step := range s.Proof() {
		if len(step.Clause) > 0 {
			step.Clause[0] = 9
		}
	}
	if a := s.Solve([]int{-1}, much); a.State != api.Unsat || !slices.Equal(a.Core, []int{-1}) {
		t.Error(a)
	}
	checkProof(t, s, [][]int{{1, 2}, {1, -2}, {-1, 2}}, [][]int{{-1}})
}

func TestNil(t *testing.T) {
	var s *Solver
	if s.Add(nil) || s.Solve([]int{0}, much).State != api.Spent || len(s.Proof()) != 0 || s.Atoms() != 0 {
		t.Error("a nil solver has nothing")
	}
}
