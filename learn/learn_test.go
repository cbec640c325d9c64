package learn

import (
	"math"
	"slices"
	"testing"

	"cooper/cnf"
	"cooper/prop"
	"cooper/testkit"
)

func trail(n int, clauses ...[]int) *prop.Trail {
	t := prop.New(n)
	for _, c := range clauses {
		t.Add(c)
	}
	return t
}

func same(a, b Lesson) bool {
	return slices.Equal(a.Clause, b.Clause) && a.Back == b.Back && slices.Equal(a.Atoms, b.Atoms)
}

func TestExample(t *testing.T) {
	tr := trail(2, []int{-1, 2}, []int{-1, -2})
	tr.Decide(1)
	l, ok := From(tr, tr.Follow())
	if !ok || !same(l, Lesson{Clause: []int{-1}, Atoms: []int{1, 2}}) {
		t.Error(l, ok)
	}
}

// TestWholeLesson goes through two reasons, makes the clause shorter, and leaves the level 0 out.
func TestWholeLesson(t *testing.T) {
	tr := trail(9,
		[]int{9},             // 0: so at the level 0
		[]int{-1, 2},         // 1: 2 follows from 1
		[]int{-3, -2, 4},     // 2: 4 from 2 and 3
		[]int{-5, 6},         // 3: 6 from 5
		[]int{-6, -4, -9, 7}, // 4: 7 from 6, 4, 9
		[]int{-6, -1, 8},     // 5: 8 from 6 and 1
		[]int{-7, -8, -2},    // 6
	)
	tr.Follow()
	for _, l := range []int{1, 3, 5} {
		tr.Decide(l)
		c := tr.Follow()
		if (c >= 0) != (l == 5) {
			t.Fatal(l, c)
		}
	}
	// Of -7 -8 -2 come -6 -4 -1 -2; -2 goes, as its reason has -1; -4 has -3 in its reason, and stays.
	l, ok := From(tr, 6)
	if !ok || !same(l, Lesson{Clause: []int{-6, -1, -4}, Back: 2, Atoms: []int{1, 2, 4, 6, 7, 8}}) {
		t.Error(l, ok)
	}
	if n := Levels(tr, []int{-6, -1, -4, 9}); n != 4 {
		t.Error(n)
	}
	if l := Why(tr, 7); !slices.Equal(l, []int{1, 3, 5}) {
		t.Error(l)
	}
	for literal, want := range map[int][]int{1: {1}, 2: {1}, 4: {1, 3}, 9: nil, -7: nil, 6: {5}, 0: nil, 10: nil, math.MinInt: nil} {
		if l := Why(tr, literal); !slices.Equal(l, want) {
			t.Error(literal, l)
		}
	}
}

func TestConflictOfTheLevel0(t *testing.T) {
	tr := trail(2, []int{1}, []int{-1, 2}, []int{-2, -1})
	c := tr.Follow()
	if l, ok := From(tr, c); !ok || !same(l, Lesson{}) {
		t.Error(l, ok)
	}
	tr.Decide(2)
	if l, ok := From(tr, c); !ok || !same(l, Lesson{}) {
		t.Error("at a higher level, too", l, ok)
	}
	tr = trail(1, nil)
	if l, ok := From(tr, tr.Follow()); !ok || !same(l, Lesson{}) {
		t.Error("the empty clause is a conflict", l, ok)
	}
	tr.Drop(0)
	if l, ok := From(tr, 0); ok || !same(l, Lesson{}) {
		t.Error("what was dropped is none", l, ok)
	}
}

func TestOneLiteralOfTheLevel(t *testing.T) {
	tr := trail(4)
	tr.Decide(4)
	tr.Decide(-2)
	tr.Decide(1)
	tr.Decide(3)
	c := tr.Add([]int{-1, 2, -4})
	if l, ok := From(tr, c); !ok || !same(l, Lesson{Clause: []int{-1, 2, -4}, Back: 2, Atoms: []int{1, 2, 4}}) {
		t.Error(l, ok)
	}
}

func TestNoConflict(t *testing.T) {
	tr := trail(4, []int{-1, 2}, []int{3, 4}, []int{-1, -2, -3})
	tr.Decide(1)
	tr.Follow()
	for _, c := range []int{0, 1, 2, 3, -1, math.MaxInt} {
		if l, ok := From(tr, c); ok || !same(l, Lesson{}) {
			t.Error(c, l)
		}
	}
	if l, ok := From(nil, 0); ok || !same(l, Lesson{}) {
		t.Error(l)
	}
	if Levels(nil, []int{1}) != 0 || len(Why(nil, 1)) != 0 {
		t.Error("a nil trail has nothing")
	}
}

func TestReasonsThatAreMissing(t *testing.T) {
	tr := trail(3, []int{-1, 2}, []int{-1, 3}, []int{-2, -3})
	tr.Decide(1)
	c := tr.Follow()
	if _, ok := From(tr, c); c != 2 || !ok {
		t.Fatal(c)
	}
	_, reason := tr.At(3)
	tr.Drop(reason)
	if l, ok := From(tr, c); ok || !same(l, Lesson{}) {
		t.Error("a reason that was dropped is missing", l)
	}
	if l := Why(tr, 3); len(l) != 0 {
		t.Error(l)
	}
	tr = trail(3, []int{-2, -3}, []int{1, 2})
	tr.Decide(1)
	tr.Set(2, -1)
	tr.Set(3, 1)
	if l, ok := From(tr, 0); ok || !same(l, Lesson{}) {
		t.Error("no reason, or one of another literal", l)
	}
	if l := Why(tr, 2); !slices.Equal(l, []int{2}) {
		t.Error("what was set without a reason counts as decided", l)
	}
}

// TestReasonsThatAreNone: of a clause in which another literal is open, or became not so behind it, nothing follows.
func TestReasonsThatAreNone(t *testing.T) {
	tr := trail(5, []int{2, 5}, []int{-1, -2}, []int{2, 3}, []int{-1, -3})
	tr.Decide(1)
	tr.Set(2, 0)
	if l, ok := From(tr, 1); ok || !same(l, Lesson{}) {
		t.Error("one is open", l)
	}
	tr.Back(0)
	tr.Decide(1)
	tr.Set(2, 2)
	tr.Set(-3, -1)
	if l, ok := From(tr, 1); ok || !same(l, Lesson{}) {
		t.Error("one stands behind", l)
	}
}

// TestReasonsInACircle: what was set with reasons that are none lets no call run on.
func TestReasonsInACircle(t *testing.T) {
	tr := trail(4, []int{1, -2}, []int{2, -1}, []int{-1, -2, -3}, []int{3, -4}, []int{4, -3})
	tr.Decide(4)
	tr.Set(3, 4)
	tr.Set(2, 1)
	tr.Set(1, 0)
	if l, ok := From(tr, 2); ok || !same(l, Lesson{}) {
		t.Error(l)
	}
	Why(tr, 1)
	Why(tr, 3)
}

func TestLevels(t *testing.T) {
	tr := trail(5)
	tr.Set(5, -1)
	tr.Decide(1)
	tr.Set(2, -1)
	tr.Decide(3)
	for _, c := range []struct {
		clause []int
		want   int
	}{
		{nil, 0}, {[]int{1, -2}, 1}, {[]int{1, 3, 5, -5}, 3}, {[]int{4, 0, 9, math.MinInt, math.MaxInt}, 0}, {[]int{4, 3}, 1},
	} {
		if n := Levels(tr, c.clause); n != c.want {
			t.Error(c, n)
		}
	}
}

// plainly is what a conflict teaches, by the words of the chapter.
func plainly(tr *prop.Trail, conflict int) Lesson {
	at := func(l int) int { n, _ := tr.At(max(l, -l)); return n }
	list := tr.List()
	var clause, atoms []int
	level := 0
	for _, l := range tr.Clause(conflict) {
		level = max(level, at(l))
	}
	if level == 0 {
		return Lesson{}
	}
	take := func(l int) {
		if at(l) > 0 {
			atoms = append(atoms, max(l, -l))
			if !slices.Contains(clause, l) {
				clause = append(clause, l)
			}
		}
	}
	for _, l := range tr.Clause(conflict) {
		take(l)
	}
	for {
		var top []int
		for _, l := range clause {
			if at(l) == level {
				top = append(top, l)
			}
		}
		if len(top) == 1 {
			clause = slices.DeleteFunc(clause, func(l int) bool { return l == top[0] })
			return shorter(tr, top[0], clause, atoms)
		}
		last := slices.MaxFunc(top, func(a, b int) int { return slices.Index(list, -a) - slices.Index(list, -b) })
		clause = slices.DeleteFunc(clause, func(l int) bool { return l == last })
		_, reason := tr.At(max(last, -last))
		for _, l := range tr.Clause(reason) {
			if l != -last {
				take(l)
			}
		}
	}
}

func shorter(tr *prop.Trail, first int, others, atoms []int) Lesson {
	there := append(slices.Clone(others), first)
	var kept []int
	back := 0
	for _, l := range others {
		level, reason := tr.At(max(l, -l))
		goes := reason >= 0
		for _, o := range tr.Clause(reason) {
			n, _ := tr.At(max(o, -o))
			goes = goes && (o == -l || n == 0 || slices.Contains(there, o))
		}
		if !goes {
			kept = append(kept, l)
			back = max(back, level)
		}
	}
	slices.SortFunc(kept, func(a, b int) int { return max(a, -a) - max(b, -b) })
	slices.Sort(atoms)
	return Lesson{Clause: append([]int{first}, kept...), Back: back, Atoms: slices.Compact(atoms)}
}

// TestManyConflicts throws clauses and decides until a conflict is met: what it teaches is as said, follows, and asserts.
func TestManyConflicts(t *testing.T) {
	met, shortened := 0, 0
	for seed := range 3000 {
		d := testkit.New(seed)
		n := 4 + d.Roll(8)
		tr := prop.New(n)
		var clauses [][]int
		for range 3 * n {
			var c []int
			for range 1 + d.Roll(3) + d.Roll(2) {
				c = append(c, (1+d.Roll(n))*(1-2*d.Roll(2)))
			}
			if len(c) > 1 || d.Once(8) {
				clauses = append(clauses, c)
				tr.Add(c)
			}
		}
		c := tr.Follow()
		for atom := 1; atom <= n && c < 0; atom++ {
			if tr.Decide(atom * (1 - 2*d.Roll(2))) {
				c = tr.Follow()
			}
		}
		if c < 0 {
			continue
		}
		met++
		l, ok := From(tr, c)
		if want := plainly(tr, c); !ok || !same(l, want) {
			t.Fatal(seed, l, want)
		}
		if len(l.Atoms) > 0 && len(l.Clause) < len(l.Atoms) {
			shortened++
		}
		checkLesson(t, tr, clauses, n, l)
	}
	if met < 1000 || shortened < 100 {
		t.Error("too few were met", met, shortened)
	}
}

func checkLesson(t *testing.T, tr *prop.Trail, clauses [][]int, n int, l Lesson) {
	t.Helper()
	if n <= 8 {
		for m := range 1 << n {
			model := make([]bool, n)
			for i := range model {
				model[i] = m>>i&1 == 1
			}
			if cnf.Holds(clauses, model) && !cnf.Holds([][]int{l.Clause}, model) {
				t.Fatal("it doesn't follow", l)
			}
		}
	}
	for _, x := range tr.List() {
		checkWhy(t, clauses, n, x, Why(tr, x), tr)
	}
	tr.Back(l.Back)
	for i, x := range l.Clause {
		if i == 0 && tr.Value(x) != 0 || i > 0 && tr.Value(x) != -1 {
			t.Fatal("it doesn't assert", l)
		}
	}
}

// checkWhy: from the decided literals that a literal comes of, it follows at once.
func checkWhy(t *testing.T, clauses [][]int, n, literal int, why []int, tr *prop.Trail) {
	t.Helper()
	again := trail(n, clauses...)
	again.Follow()
	for _, l := range why {
		if level, reason := tr.At(max(l, -l)); level == 0 || reason != -1 {
			t.Fatal(l, "wasn't decided")
		}
		again.Decide(l)
	}
	if again.Follow() < 0 && again.Value(literal) != 1 {
		t.Fatal(literal, "doesn't come of", why)
	}
}
