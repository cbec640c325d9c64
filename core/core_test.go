package core

import (
	"math"
	"reflect"
	"slices"
	"testing"

	"cooper/api"
	"cooper/formula"
	"cooper/rup"
	"cooper/solve"
	"cooper/testkit"
)

const great = 1 << 20

func pack(name string, depends ...string) api.Package {
	p := api.Package{Name: name, Releases: []api.Release{{Version: "1"}, {Version: "2"}}}
	for i, d := range depends {
		p.Depends = append(p.Depends, api.Depend{On: testkit.Wish(d), When: testkit.Always(), Line: 10 + i})
	}
	return p
}

func why(t *testing.T, x api.Recipe, q api.Request) api.Reason {
	t.Helper()
	r, err := Why(x, q, great, great)
	if err != api.OK {
		t.Fatal(err)
	}
	return r
}

func TestTwoRoots(t *testing.T) {
	x := api.Recipe{Packages: []api.Package{pack("a"), pack("b")}}
	at := func(v string) api.Spec { return api.Spec{Name: "a", Spans: []api.Span{{Lo: v, Hi: v}}} }
	r := why(t, x, testkit.Ask(testkit.Wish("b"), at("1"), testkit.Wish("a"), at("2")))
	want := []api.Rule{{Kind: api.RootRule, Package: -1, Index: 1, Line: 2}, {Kind: api.RootRule, Package: -1, Index: 3, Line: 4}}
	if r.State != api.Unsat || !slices.Equal(r.Core, []int{1, 3}) || !slices.Equal(r.Rules, want) {
		t.Error(r.State, r.Core, r.Rules)
	}
}

func TestCircle(t *testing.T) {
	x := api.Recipe{Packages: []api.Package{pack("a", "c", "b"), pack("b", "c", "a"), pack("c")}}
	r := why(t, x, testkit.Ask(testkit.Wish("c"), testkit.Wish("a")))
	if !slices.Equal(r.Core, []int{1, 3, 5}) || len(r.Rules) != 3 || r.Rules[1] != (api.Rule{Kind: api.DependRule, Package: 0, Index: 1, Line: 11}) {
		t.Error(r.Core, r.Rules)
	}
}

func TestOneIsNeeded(t *testing.T) {
	x := api.Recipe{Packages: []api.Package{pack("a", "v"), pack("b"), pack("c")}}
	x.Packages[1].Provides, x.Packages[2].Provides = []string{"v"}, []string{"v"}
	if r := why(t, x, testkit.Ask(testkit.Wish("b"), testkit.Wish("c"), testkit.Wish("a"))); !slices.Equal(r.Core, []int{0, 1, 2, 3}) {
		t.Error(r.Core)
	}
	if r := why(t, x, testkit.Ask(testkit.Wish("b"), testkit.Wish("c"), testkit.Wish("a"), testkit.Wish("v"))); !slices.Equal(r.Core, []int{0, 1, 2, 4}) && !slices.Equal(r.Core, []int{0, 1, 3}) {
		t.Error(r.Core)
	}
}

func TestConflict(t *testing.T) {
	x := api.Recipe{Packages: []api.Package{pack("a", "b"), pack("b")}}
	x.Packages[0].Conflicts = []api.Conflict{{When: testkit.Always(), With: testkit.Wish("b"), Line: 7}}
	r := why(t, x, testkit.Ask(testkit.Wish("a")))
	if !slices.Equal(r.Core, []int{0, 1, 2}) || r.Rules[2] != (api.Rule{Kind: api.ConflictRule, Package: 0, Index: 0, Line: 7}) {
		t.Error(r.Core, r.Rules)
	}
}

func TestErrorsAndLimits(t *testing.T) {
	x := api.Recipe{Packages: []api.Package{pack("a", "b"), pack("b", "a")}}
	zero := api.Reason{}
	if r, err := Why(x, testkit.Ask(), 0, 0); err != api.ErrForm || !reflect.DeepEqual(r, zero) {
		t.Error(r, err)
	}
	if state, err := Admits(x, testkit.Ask(testkit.Wish("z")), nil, 0, 0); err != api.ErrForm || state != 0 {
		t.Error(state, err)
	}
	for _, limit := range []int{-1, 0, 7} {
		r, err := Why(x, testkit.Ask(testkit.Wish("a")), limit, great)
		if err != api.OK || !reflect.DeepEqual(r, api.Reason{State: api.Large}) {
			t.Error(r, err)
		}
		if state, err := Admits(x, testkit.Ask(testkit.Wish("a")), nil, limit, great); err != api.OK || state != api.Large {
			t.Error(state, err)
		}
	}
	if r, err := Why(x, testkit.Ask(testkit.Wish("a")), great, -1); err != api.OK || !reflect.DeepEqual(r, api.Reason{State: api.Spent}) {
		t.Error(r, err)
	}
	x.Packages[1].Depends = nil
	if r := why(t, x, testkit.Ask(testkit.Wish("a"))); !reflect.DeepEqual(r, api.Reason{State: api.Sat}) {
		t.Error(r)
	}
}

func TestAdmits(t *testing.T) {
	x := api.Recipe{Packages: []api.Package{pack("a", "b"), pack("b", "a")}}
	for _, c := range []struct {
		rules []int
		want  uint8
	}{
		{nil, api.Sat}, {[]int{0, 1, 2}, api.Unsat}, {[]int{2, 1, 0, 0, 2}, api.Unsat}, {[]int{0, 1}, api.Sat}, {[]int{0, 2}, api.Sat}, {[]int{1, 2}, api.Sat}, {[]int{-1, 3, math.MaxInt, 0}, api.Sat},
	} {
		if state, err := Admits(x, testkit.Ask(testkit.Wish("a")), c.rules, great, great); err != api.OK || state != c.want {
			t.Error(c.rules, state, err)
		}
	}
}

func TestBudget(t *testing.T) {
	spent := 0
	for seed := range 200 {
		d := testkit.New(seed)
		x := testkit.Recipe(d, 5)
		q := testkit.Request(d, x)
		f, _ := formula.Build(x, q, great)
		var rules []int
		for i := range f.Rules() {
			rules = append(rules, i)
		}
		whole, _ := Admits(x, q, rules, great, great)
		if state, err := Admits(x, q, rules, great, math.MinInt); err != api.OK || state != whole && state != api.Spent {
			t.Fatal(seed, state, whole)
		} else if state == api.Spent {
			spent++
		}
		want := why(t, x, q)
		if r, err := Why(x, q, great, 1); err != api.OK || !reflect.DeepEqual(r, want) && !reflect.DeepEqual(r, api.Reason{State: api.Spent}) {
			t.Fatal(seed, r.State, want.State)
		}
	}
	if spent == 0 {
		t.Error("none was spent")
	}
}

// TestBudgetIsForAllTogether finds, with a solver of its own, how many conflicts are met in all.
func TestBudgetIsForAllTogether(t *testing.T) {
	tried := 0
	for seed := range 600 {
		d := testkit.New(seed)
		x := testkit.Recipe(d, 6)
		q := testkit.Request(d, x)
		f, _ := formula.Build(x, q, great)
		s := solve.New(f.Atoms(), f.Clauses())
		a := s.Solve(f.Assume(nil), great)
		first, all := a.Conflicts, a.Conflicts
		for i := len(a.Core) - 1; i >= 0 && a.State == api.Unsat; i-- {
			b := s.Solve(slices.Delete(slices.Clone(a.Core), i, i+1), great)
			all += b.Conflicts
			if b.State == api.Unsat {
				behind := len(a.Core) - 1 - i
				a, i = b, len(b.Core)-behind
			}
		}
		if a.State != api.Unsat || first == all {
			continue
		}
		tried++
		if r, _ := Why(x, q, great, all); r.State != api.Unsat {
			t.Fatal(seed, "is enough", all)
		}
		if r, _ := Why(x, q, great, all-1); !reflect.DeepEqual(r, api.Reason{State: api.Spent}) {
			t.Fatal(seed, "is too little", all-1)
		}
	}
	if tried < 5 {
		t.Error("too few were tried", tried)
	}
}

// admits tells by trying whether rules of a formula admit a graph.
func admits(f *formula.Formula, x api.Recipe, q api.Request, rules []int) bool {
	counting := map[api.Rule]int{}
	for _, i := range rules {
		r := f.Rules()[i]
		r.Line = 0
		counting[r]++
	}
	counts := func(kind uint8, place, index int) bool {
		return counting[api.Rule{Kind: kind, Package: place, Index: index}] > 0
	}
	return len(testkit.Graphs(x, q, counts, false)) > 0
}

// TestCores: the rules that are told admit none, each one left out the others do, and there is a proof.
func TestCores(t *testing.T) {
	cores, long := 0, 0
	for seed := range 600 {
		d := testkit.New(seed)
		x := testkit.Recipe(d, 2+seed%4)
		q := testkit.Request(d, x)
		if testkit.Choices(x) > 3000 {
			continue
		}
		f, _ := formula.Build(x, q, great)
		r := why(t, x, q)
		if r.State == api.Sat {
			if len(testkit.Graphs(x, q, testkit.AllRules, false)) == 0 {
				t.Fatal(seed, "there is none")
			}
			continue
		}
		cores++
		if len(r.Core) > 2 {
			long++
		}
		if r.State != api.Unsat || !slices.IsSorted(r.Core) || admits(f, x, q, r.Core) || len(r.Rules) != len(r.Core) {
			t.Fatal(seed, r.State, r.Core)
		}
		for i, rule := range r.Core {
			if !admits(f, x, q, slices.Delete(slices.Clone(r.Core), i, i+1)) {
				t.Fatal(seed, r.Core, "rule", rule, "may be left out")
			}
			if r.Rules[i] != f.Rules()[rule] {
				t.Fatal(seed, r.Rules)
			}
		}
		checkProof(t, f, r)
		for range 3 {
			var rules []int
			for i := range f.Rules() {
				if d.Once(2) {
					rules = append(rules, i)
				}
			}
			state, err := Admits(x, q, rules, great, great)
			if want := admits(f, x, q, rules); err != api.OK || want != (state == api.Sat) || !want != (state == api.Unsat) {
				t.Fatal(seed, rules, state)
			}
		}
		if again := why(t, x, q); !reflect.DeepEqual(again, r) {
			t.Fatal(seed, "not the same each time")
		}
	}
	if cores < 50 || long < 10 {
		t.Error("too few were tried", cores, long)
	}
}

func checkProof(t *testing.T, f *formula.Formula, r api.Reason) {
	t.Helper()
	var goal []int
	for _, i := range r.Core {
		goal = append(goal, -f.Number(api.Atom{Kind: api.RuleAtom, A: i}))
	}
	if !slices.EqualFunc(r.Clauses, f.Clauses(), slices.Equal) {
		t.Fatal("the clauses are those of the formula")
	}
	if rup.Check(f.Atoms(), r.Clauses, r.Proof) != -1 || !rup.Proves(f.Atoms(), r.Clauses, r.Proof, goal) {
		t.Fatal("not proved", r.Core)
	}
}
