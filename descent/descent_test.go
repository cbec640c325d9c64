package descent

import (
	"reflect"
	"strconv"
	"testing"

	"cooper/api"
	"cooper/cost"
	"cooper/formula"
	"cooper/testkit"
)

const great = 1 << 20

func pack(name string, versions ...string) api.Package {
	p := api.Package{Name: name}
	for _, v := range versions {
		p.Releases = append(p.Releases, api.Release{Version: v})
	}
	return p
}

func on(specs ...api.Spec) []api.Depend {
	var out []api.Depend
	for _, s := range specs {
		out = append(out, api.Depend{On: s, When: testkit.Always()})
	}
	return out
}

func best(t *testing.T, x api.Recipe, q api.Request) api.Found {
	t.Helper()
	f, err := Best(x, q, great, great)
	if err != api.OK {
		t.Fatal(err)
	}
	return f
}

func TestNewest(t *testing.T) {
	f := best(t, api.Recipe{Packages: []api.Package{pack("a", "1", "2")}}, testkit.AskFor("a"))
	if f.State != api.Sat || testkit.Text(f.Graph) != "a@2; " || f.Cost != (api.Cost{0, 0, 0, 0, 0, 1}) {
		t.Error(f)
	}
}

// TestOldCountsForMore: a 2 depends on b 1, which is old: a 1 is better.
func TestOldCountsForMore(t *testing.T) {
	x := api.Recipe{Packages: []api.Package{pack("a", "1", "2"), pack("b", "1")}}
	x.Packages[1].Releases[0].Old = true
	x.Packages[0].Depends = []api.Depend{{On: testkit.Wish("b"), When: api.Spec{Spans: []api.Span{{Lo: "2", Hi: "2"}}}}}
	if f := best(t, x, testkit.AskFor("a")); testkit.Text(f.Graph) != "a@1; " || f.Cost != (api.Cost{0, 1, 0, 0, 0, 1}) {
		t.Error(f)
	}
}

func TestPreferred(t *testing.T) {
	x := api.Recipe{Packages: []api.Package{pack("a", "1"), pack("b", "1"), pack("c", "1")}, Prefers: []api.Prefer{{Virtual: "v", Names: []string{"c", "b"}}}}
	x.Packages[1].Provides, x.Packages[2].Provides = []string{"v"}, []string{"v"}
	x.Packages[0].Depends = on(testkit.Wish("v"))
	if f := best(t, x, testkit.AskFor("a")); testkit.Text(f.Graph) != "a@1 >c; c@1; " {
		t.Error(f)
	}
	x.Packages[0].Conflicts = []api.Conflict{{When: testkit.Always(), With: testkit.Wish("c")}}
	if f := best(t, x, testkit.AskFor("a")); testkit.Text(f.Graph) != "a@1 >b; b@1; " || f.Cost[3] != 1 {
		t.Error(f)
	}
}

func TestNone(t *testing.T) {
	x := api.Recipe{Packages: []api.Package{pack("a", "1"), pack("b", "1")}}
	x.Packages[0].Depends, x.Packages[1].Depends = on(testkit.Wish("b")), on(testkit.Wish("a"))
	f := best(t, x, testkit.AskFor("a"))
	if f.State != api.Unsat || len(f.Graph.Nodes) != 0 || f.Cost != (api.Cost{}) {
		t.Error(f)
	}
}

func TestErrorsAndLimits(t *testing.T) {
	x := api.Recipe{Packages: []api.Package{pack("a", "1", "2"), pack("b", "1", "2", "3")}}
	x.Packages[0].Depends = on(api.Spec{Name: "b", Spans: []api.Span{{Hi: "2"}}})
	if f, err := Best(x, testkit.AskFor("z"), -1, -1); err != api.ErrForm || !reflect.DeepEqual(f, api.Found{}) {
		t.Error(f, err)
	}
	if f, err := Best(api.Recipe{Packages: []api.Package{pack("a")}}, testkit.AskFor("a"), great, great); err != api.ErrForm || !reflect.DeepEqual(f, api.Found{}) {
		t.Error(f, err)
	}
	fm, _ := formula.Build(x, testkit.AskFor("a"), great)
	for _, limit := range []int{-1, 0, 5, fm.Atoms() - 1} {
		if f, err := Best(x, testkit.AskFor("a"), limit, great); err != api.OK || !reflect.DeepEqual(f, api.Found{State: api.Large}) {
			t.Error(limit, f, err)
		}
	}
	// Somewhere on the way there may be too many atoms, never another answer.
	want := best(t, x, testkit.AskFor("a"))
	large := 0
	for limit := fm.Atoms(); limit < fm.Atoms()+200; limit++ {
		f, err := Best(x, testkit.AskFor("a"), limit, great)
		if f.State == api.Large {
			large++
			if err != api.OK || !reflect.DeepEqual(f, api.Found{State: api.Large}) {
				t.Error(limit, f)
			}
		} else if !reflect.DeepEqual(f, want) {
			t.Error(limit, f, want)
		}
	}
	if large == 0 || large == 200 {
		t.Error("some limits are too low:", large)
	}
}

func TestBudget(t *testing.T) {
	spent := 0
	for seed := range 40 {
		d := testkit.New(seed)
		x := testkit.Recipe(d, 6)
		q := testkit.Request(d, x)
		want := best(t, x, q)
		for budget := -1; budget <= want.Conflicts+1; budget++ {
			f, err := Best(x, q, great, budget)
			if err != api.OK {
				t.Fatal(err)
			}
			if budget >= want.Conflicts || max(budget, 0) >= want.Conflicts {
				if !reflect.DeepEqual(f, want) {
					t.Fatal(seed, budget, f, want)
				}
				continue
			}
			spent++
			if !reflect.DeepEqual(f, api.Found{State: api.Spent, Conflicts: max(budget, 0) + 1}) {
				t.Fatal(seed, budget, f)
			}
		}
	}
	if spent < 20 {
		t.Error("too few were spent", spent)
	}
}

// TestTheBest: no graph that is found by trying costs less, and where none is told there is none.
func TestTheBest(t *testing.T) {
	some, none := 0, 0
	for seed := range 400 {
		d := testkit.New(seed)
		x := testkit.Recipe(d, 1+seed%5)
		q := testkit.Request(d, x)
		if testkit.Choices(x) > 30000 {
			continue
		}
		f := best(t, x, q)
		graphs := testkit.Graphs(x, q, testkit.AllRules, false)
		if f.State == api.Unsat {
			none++
			if len(graphs) != 0 {
				t.Fatal(seed, "there is one", testkit.Text(graphs[0]))
			}
			continue
		}
		some++
		found := false
		for _, g := range graphs {
			c := testkit.Cost(x, q, g)
			if cost.Compare(c, f.Cost) < 0 {
				t.Fatal(seed, testkit.Text(g), "is better than", testkit.Text(f.Graph), c, f.Cost)
			}
			found = found || testkit.Text(g) == testkit.Text(f.Graph) && c == f.Cost
		}
		if f.State != api.Sat || !found {
			t.Fatal(seed, f)
		}
		if again := best(t, x, q); !reflect.DeepEqual(f, again) {
			t.Fatal(seed, "not the same each time")
		}
	}
	if some < 100 || none < 30 {
		t.Error("too few were tried", some, none)
	}
}

// TestGreatRecipe: as many packages, releases and values as may be are no matter, whether the best or the worst is what there is.
func TestGreatRecipe(t *testing.T) {
	for _, oldest := range []bool{false, true} {
		var x api.Recipe
		for i := range api.MaxPackages {
			p := pack("p"+strconv.Itoa(i), "10", "9", "8", "7", "6", "5", "4", "3", "2", "1")
			for _, name := range []string{"w", "x", "y", "z"} {
				p.Variants = append(p.Variants, api.Variant{Name: name, Values: []string{"1", "2", "3", "4"}})
			}
			for k := i + 1; k < min(i+4, api.MaxPackages); k++ {
				s := testkit.Wish("p" + strconv.Itoa(k))
				if oldest {
					s.Spans = []api.Span{{Hi: "1"}}
					s.Settings = []api.Setting{{Name: "x", Value: "3"}}
				}
				p.Depends = append(p.Depends, on(s)...)
			}
			x.Packages = append(x.Packages, p)
		}
		f := best(t, x, testkit.AskFor("p0"))
		want := api.Cost{0, 0, 0, 0, 0, 24}
		if oldest {
			want = api.Cost{0, 0, 23, 0, 9 * 23, 24}
		}
		if f.State != api.Sat || f.Cost != want {
			t.Error(f.State, f.Cost)
		}
	}
}
