package rup

import (
	"math"
	"slices"
	"testing"

	"cooper/api"
	"cooper/cnf"
	"cooper/solve"
	"cooper/testkit"
)

func add(l ...int) api.Step { return api.Step{Clause: l} }

func gone(l ...int) api.Step { return api.Step{Gone: true, Clause: l} }

func TestFollows(t *testing.T) {
	for i, c := range []struct {
		clauses [][]int
		clause  []int
		want    bool
	}{
		{[][]int{{1, 2}, {-1, 2}}, []int{2}, true},
		{[][]int{{1, 2}, {-1, 2}}, []int{1}, false},
		{[][]int{{1, 2}, {-1, 2}}, []int{3, 2, 2}, true},
		{nil, []int{1, -1}, true},
		{nil, []int{1, -1, 0}, false},
		{nil, []int{1, -1, 9}, false},
		{nil, nil, false},
		{[][]int{{}}, nil, true},
		{[][]int{{}}, []int{1}, true},
		{[][]int{{1}, {-1}}, nil, true},
		{[][]int{{1}, {-1, 2}, {-2, -1, 3}}, []int{3}, true},
		{[][]int{{1, 2}, {1, -2}, {-1, 2}, {-1, -2}}, nil, false}, // there is no model, but it doesn't follow at once
		{[][]int{{1, 2}, {1, -2}, {-1, 2}, {-1, -2}}, []int{1}, true},
		{[][]int{{9}, {0}, {-9, 0}, {1, -1}, {math.MinInt}}, []int{2}, false},
		{[][]int{{3, 3}}, []int{3}, true},
		{[][]int{{1}}, []int{math.MinInt}, false},
		{[][]int{{1}, {-1}}, []int{4}, false},
		{[][]int{{1}, {-1}}, []int{-4}, false},
		{[][]int{{-4}, {4}}, nil, false},
	} {
		if Follows(3, c.clauses, c.clause) != c.want {
			t.Error(i, c)
		}
	}
}

func TestCheck(t *testing.T) {
	clauses := [][]int{{1, 2}, {1, -2}, {-1, 2}, {-1, -2}, {5}, {0}}
	for i, c := range []struct {
		proof []api.Step
		want  int
	}{
		{nil, -1},
		{[]api.Step{add(1), add()}, -1},
		{[]api.Step{add()}, 0},
		{[]api.Step{add(2, 1, 2), add(1), add(), add(), add(3)}, -1},
		{[]api.Step{add(1), add(4), add(5)}, 2},
		{[]api.Step{add(1), add(0)}, 1},
		{[]api.Step{add(1), add(1, -1)}, 1},
		{[]api.Step{add(math.MinInt)}, 0},
		{[]api.Step{gone(5)}, 0},
		{[]api.Step{gone(1, -1)}, 0},
		{[]api.Step{gone(0)}, 0},
		{[]api.Step{gone(3)}, 0},
		{[]api.Step{gone(2, 1), add(1)}, 1},
		{[]api.Step{gone(2, 1), gone(1, 2)}, 1},
		{[]api.Step{add(1, 2), gone(1, 2), add(1)}, -1},
		{[]api.Step{add(1, 2), gone(1, 2), gone(2, 1), add(1)}, 3},
		{[]api.Step{add(1), gone(1), add()}, 2},
		{[]api.Step{add(1), add(), gone(), add(3)}, -1}, // of 1 all follows
		{[]api.Step{add(1), add(), gone(), gone()}, 3},
		{[]api.Step{add(1), add(1), gone(1), add(), gone(), gone(1), add()}, 6},
		{[]api.Step{add(), gone(7)}, 0},
		{[]api.Step{add(-5)}, 0},
		{[]api.Step{gone(-5)}, 0},
	} {
		if got := Check(4, clauses, c.proof); got != c.want {
			t.Error(i, got, c.want)
		}
	}
}

func TestEmptyClauseAmongOthers(t *testing.T) {
	if Check(1, [][]int{{}}, []api.Step{add(1), gone(), add(-1)}) != 2 {
		t.Error("taken away it proves no more")
	}
	if Check(1, [][]int{{}, {}}, []api.Step{gone(), add(1), gone(), gone()}) != 3 {
		t.Error("of two one is left")
	}
}

func TestClausesOfLikeDigits(t *testing.T) {
	if Check(21, [][]int{{2, 1}, {12}, {-1, 2}}, []api.Step{gone(21)}) != 0 || Check(21, [][]int{{12}, {1, -2}}, []api.Step{gone(1, 2)}) != 0 || Check(21, [][]int{{1, 12}}, []api.Step{gone(11, 2)}) != 0 {
		t.Error("another clause isn't there")
	}
}

func TestProves(t *testing.T) {
	clauses := [][]int{{1, 2}, {-1, 2}, {3}}
	proof := []api.Step{add(2), gone(3)}
	for i, c := range []struct {
		proof []api.Step
		goal  []int
		want  bool
	}{
		{proof, []int{2}, true}, {proof, []int{2, 2}, true}, {proof, []int{-3, 2}, true}, {proof, []int{3}, false}, {proof, nil, false}, {proof, []int{2, -2}, true}, {proof, []int{-2}, false},
		{proof, []int{2, 0, 99}, true}, {nil, []int{3}, false}, {append(proof, add(1)), []int{2}, false}, {[]api.Step{add(2), gone(2)}, []int{2}, true}, {[]api.Step{gone(3), add(3)}, []int{3}, false},
	} {
		if Proves(3, clauses, c.proof, c.goal) != c.want {
			t.Error(i, c)
		}
	}
	if !Proves(1, [][]int{{1}, {-1}}, []api.Step{add()}, []int{1}) || !Proves(1, [][]int{{1}, {-1}}, []api.Step{add()}, nil) {
		t.Error("the empty clause proves all")
	}
}

func TestSizes(t *testing.T) {
	for n, want := range map[int]int{-1: 0, math.MinInt: 0, 0: 0, math.MaxInt: 65536, 65537: 65536} {
		if want > 0 && Check(n, [][]int{{want}}, []api.Step{add(want)}) != -1 || Check(n, [][]int{{want + 1}}, []api.Step{add(want + 1)}) != 0 || Follows(n, [][]int{{}}, []int{want + 1}) {
			t.Error(n)
		}
	}
}

// TestAsFoundPlainly holds checks of thrown proofs against looking at all clauses again and again.
func TestAsFoundPlainly(t *testing.T) {
	right, wrong := 0, 0
	for seed := range 3000 {
		d := testkit.New(seed)
		n := 1 + d.Roll(6)
		clauses := testkit.Clauses(d, n, d.Roll(4*n), 3)
		var proof []api.Step
		there := slices.Clone(clauses)
		for _, c := range testkit.Clauses(d, n, 8, 3) {
			switch {
			case d.Once(5) && len(there) > 0:
				proof = append(proof, api.Step{Gone: true, Clause: there[d.Roll(len(there))]})
			case !testkit.AtOnce(n, there, c) && !d.Once(6):
			default:
				proof = append(proof, api.Step{Clause: c})
				there = append(there, c)
			}
		}
		want := testkit.WrongStep(n, clauses, proof)
		if got := Check(n, clauses, proof); got != want {
			t.Fatal(seed, got, want)
		}
		if want < 0 {
			right++
			checkSound(t, n, clauses, proof)
		} else {
			wrong++
		}
		for _, c := range testkit.Clauses(d, n, 5, 3) {
			if f, ok := cnf.Form(c); ok && Follows(n, clauses, c) != testkit.AtOnce(n, legal(clauses), f) {
				t.Fatal(seed, c)
			}
		}
	}
	if right < 300 || wrong < 300 {
		t.Error("too few were thrown", right, wrong)
	}
}

// legal are the clauses that have a form.
func legal(clauses [][]int) [][]int {
	var out [][]int
	for _, c := range clauses {
		if f, ok := cnf.Form(c); ok {
			out = append(out, f)
		}
	}
	return out
}

// checkSound: each model of the clauses is one of each clause of the proof.
func checkSound(t *testing.T, n int, clauses [][]int, proof []api.Step) {
	t.Helper()
	model := make([]bool, n)
	for m := range 1 << n {
		for i := range model {
			model[i] = m>>i&1 == 1
		}
		for _, step := range proof {
			if !step.Gone && cnf.Holds(legal(clauses), model) && !cnf.Holds([][]int{step.Clause}, model) {
				t.Fatal("not sound", clauses, proof)
			}
		}
	}
}

func TestProofOfASolver(t *testing.T) {
	n, clauses := testkit.Pigeons(8, 7)
	s := solve.New(n, clauses)
	if s.Solve(nil, 1<<20).State != api.Unsat || Check(n, clauses, s.Proof()) != -1 || !Proves(n, clauses, s.Proof(), nil) {
		t.Error("a solver's proof")
	}
	proof := s.Proof()
	proof[len(proof)/2].Clause = []int{1}
	if Proves(n, clauses, proof, nil) {
		t.Error("one step is wrong")
	}
}

func TestMemory(t *testing.T) {
	clauses, proof := [][]int{{2, 1, 3}, {-1, 2}, {-3, 2}}, []api.Step{add(2, 2)}
	if Check(3, clauses, proof) != -1 || !slices.Equal(clauses[0], []int{2, 1, 3}) || !slices.Equal(proof[0].Clause, []int{2, 2}) {
		t.Error("what is handed in isn't changed")
	}
}
