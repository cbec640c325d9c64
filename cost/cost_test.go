package cost

import (
	"math"
	"slices"
	"testing"

	"cooper/api"
	"cooper/formula"
	"cooper/testkit"
)

func recipe() api.Recipe {
	return api.Recipe{
		Packages: []api.Package{
			{
				Name: "a", Releases: []api.Release{{Version: "1", Old: true}, {Version: "3"}, {Version: "2"}}, Variants: []api.Variant{{Name: "x", Values: []string{"on", "off", "1"}}, {Name: "y", Values: []string{"on"}}},
				Depends: []api.Depend{{On: testkit.Wish("v"), When: testkit.Always()}, {On: testkit.Wish("w"), When: api.Spec{Spans: testkit.All(), Settings: []api.Setting{testkit.Set("x", "off")}}}, {On: testkit.Wish("d"), When: testkit.Always()}},
			},
			{Name: "b", Releases: []api.Release{{Version: "1"}, {Version: "2", Old: true}}, Provides: []string{"v", "w"}},
			{Name: "c", Releases: []api.Release{{Version: "1"}}, Provides: []string{"v", "w"}},
			{Name: "d", Releases: []api.Release{{Version: "1"}, {Version: "2"}, {Version: "3"}}},
		},
		Prefers: []api.Prefer{{Virtual: "v", Names: []string{"c", "b"}}, {Virtual: "w", Names: []string{"c"}}},
	}
}

func TestOf(t *testing.T) {
	a := api.Node{Name: "a", Version: "2", Settings: []api.Setting{testkit.Set("x", "off"), testkit.Set("y", "on")}}
	usual := api.Node{Name: "a", Version: "3", Settings: []api.Setting{testkit.Set("x", "on"), testkit.Set("y", "on")}}
	old := api.Node{Name: "a", Version: "1", Settings: []api.Setting{testkit.Set("x", "on"), testkit.Set("y", "off"), testkit.Set("z", "on")}}
	b, c, d := api.Node{Name: "b", Version: "1"}, api.Node{Name: "c", Version: "1"}, api.Node{Name: "d", Version: "1"}
	for i, k := range []struct {
		q     api.Request
		nodes []api.Node
		want  api.Cost
	}{
		{testkit.AskFor("a"), nil, api.Cost{}},
		{testkit.AskFor("a"), []api.Node{usual, c, d}, api.Cost{0, 0, 0, 0, 2, 3}},
		{testkit.AskFor("a"), []api.Node{a, b, d}, api.Cost{0, 1, 1, 1 + 1, 1 + 2, 3}},
		{testkit.AskFor("a", "d", "d"), []api.Node{a, b, d}, api.Cost{0, 1 + 2, 1, 1 + 1, 1, 3}},
		{testkit.AskFor("v"), []api.Node{b, d}, api.Cost{0, 1, 0, 1, 2, 2}},
		{testkit.AskFor("w"), []api.Node{b, c}, api.Cost{0, 1, 0, 1, 0, 2}},
		{testkit.AskFor("a"), []api.Node{usual, b, c}, api.Cost{0, 0, 0, 1, 1, 3}},
		{testkit.AskFor("d"), []api.Node{b}, api.Cost{0, 0, 0, 0, 1, 1}},
		{testkit.AskFor("d"), []api.Node{old, {Name: "b", Version: "2"}}, api.Cost{2, 0, 2, 1, 2, 2}},
		{testkit.AskFor("a"), []api.Node{{Name: "z", Version: "1", Settings: []api.Setting{testkit.Set("x", "on")}}, {Name: "d", Version: "9"}}, api.Cost{0, 0, 0, 0, 0, 2}},
		{testkit.AskFor("d"), []api.Node{d, d}, api.Cost{0, 4, 0, 0, 0, 2}},
	} {
		if got := Of(recipe(), k.q, api.Graph{Nodes: k.nodes}); got != k.want {
			t.Error(i, got, k.want)
		}
	}
}

func TestCompare(t *testing.T) {
	l := []api.Cost{{-1}, {}, {0, 0, 0, 0, 0, 1}, {0, 0, 0, 1, -5}, {0, 0, 0, 1}, {0, 1}, {1, math.MinInt}, {1}}
	for i, a := range l {
		for k, b := range l {
			want := 0
			if i < k {
				want = -1
			} else if i > k {
				want = 1
			}
			if Compare(a, b) != want {
				t.Error(a, b)
			}
		}
	}
}

func TestTerms(t *testing.T) {
	f, err := formula.Build(recipe(), testkit.AskFor("a"), 10000)
	if err != api.OK {
		t.Fatal(err)
	}
	n := func(kind uint8, a, b, c int) int { return f.Number(api.Atom{Kind: kind, A: a, B: b, C: c}) }
	release := func(p, i, w int) api.Term { return api.Term{Literal: n(api.ReleaseAtom, p, i, 0), Weight: w} }
	for sum, want := range map[int][]api.Term{
		0:  {release(0, 0, 1), release(1, 1, 1)},
		1:  {release(0, 0, 2), release(0, 2, 1)},
		2:  {{Literal: n(api.ValueAtom, 0, 0, 1), Weight: 1}, {Literal: n(api.ValueAtom, 0, 0, 2), Weight: 1}},
		4:  {release(1, 0, 1), release(3, 0, 2), release(3, 1, 1)},
		5:  {{Literal: n(api.NodeAtom, 0, 0, 0), Weight: 1}, {Literal: n(api.NodeAtom, 1, 0, 0), Weight: 1}, {Literal: n(api.NodeAtom, 2, 0, 0), Weight: 1}, {Literal: n(api.NodeAtom, 3, 0, 0), Weight: 1}},
		6:  nil,
		-1: nil,
	} {
		if got := Terms(f, sum); !slices.Equal(got, want) {
			t.Error(sum, got, want)
		}
	}
	atoms, clauses := f.Atoms(), len(f.Clauses())
	got := Terms(f, 3)
	if len(got) != 2 || got[0].Weight != 1 || got[1].Weight != 1 || f.Atoms() != atoms+2 || len(f.Clauses()) != clauses {
		t.Error(got, f.Atoms(), atoms)
	}
	if l := f.Ground().Builder().Clauses(); len(l) != clauses+6 {
		t.Error("the clauses go to the builder", len(l))
	}
	if a, _ := f.Ground().Table().At(got[0].Literal); a.Kind != api.HelpAtom {
		t.Error(a)
	}
	for sum := range 7 {
		if len(Terms(nil, sum)) != 0 {
			t.Error("a nil formula has none")
		}
	}
}

func TestTermsOfAFullTable(t *testing.T) {
	f, _ := formula.Build(recipe(), testkit.AskFor("a"), 10000)
	f, err := formula.Build(recipe(), testkit.AskFor("a"), f.Atoms()+1)
	if got := Terms(f, 3); err != api.OK || len(got) != 1 || !f.Ground().Table().Full() || f.Ground().Builder().Bad() {
		t.Error(got, err)
	}
}

func TestWeigh(t *testing.T) {
	l := []api.Term{{Literal: 1, Weight: 5}, {Literal: -2, Weight: 7}, {Literal: 9, Weight: 100}, {Literal: -9, Weight: 1000}, {Literal: 0, Weight: 1e6}, {Literal: math.MinInt, Weight: 1e7}}
	if n := Weigh(l, []bool{true, false}); n != 1012 {
		t.Error(n)
	}
	if n := Weigh(l, []bool{false, true}); n != 1000 {
		t.Error(n)
	}
	if Weigh(nil, nil) != 0 {
		t.Error("none")
	}
}

func TestHolds(t *testing.T) {
	n := api.Node{Name: "a", Version: "2", Settings: []api.Setting{testkit.Set("x", "on"), testkit.Set("y", "1")}}
	for i, c := range []struct {
		s    api.Spec
		want bool
	}{
		{testkit.Wish("another"), true}, {api.Spec{}, false}, {api.Spec{Spans: []api.Span{{Lo: "3"}, {Hi: "2"}}}, true}, {api.Spec{Spans: []api.Span{{Lo: "3"}}}, false},
		{api.Spec{Spans: testkit.All(), Settings: []api.Setting{testkit.Set("y", "1")}}, true}, {api.Spec{Spans: testkit.All(), Settings: []api.Setting{testkit.Set("y", "2")}}, false}, {api.Spec{Spans: testkit.All(), Settings: []api.Setting{testkit.Set("z", "1")}}, false},
	} {
		if Holds(n, c.s) != c.want {
			t.Error(i)
		}
	}
	if Holds(api.Node{}, testkit.Wish("a")) {
		t.Error("what has no version is in no set")
	}
}

// TestTheSame: in each model of the clauses terms weigh what the graph costs.
func TestTheSame(t *testing.T) {
	tried := 0
	for seed := range 300 {
		d := testkit.New(seed)
		x := testkit.Recipe(d, 1+seed%4)
		q := testkit.Request(d, x)
		if testkit.Choices(x) > 2000 {
			continue
		}
		f, err := formula.Build(x, q, 10000)
		if err != api.OK {
			t.Fatal(err)
		}
		var terms [6][]api.Term
		for sum := range terms {
			terms[sum] = Terms(f, sum)
			for _, term := range terms[sum] {
				if term.Weight <= 0 || term.Literal == 0 {
					t.Fatal(term)
				}
			}
		}
		for _, m := range testkit.Models(f.Atoms(), f.Ground().Builder().Clauses(), f.Assume(nil)) {
			g := f.Read(m)
			want := testkit.Cost(x, q, g)
			if got := Of(x, q, g); got != want {
				t.Fatal(seed, testkit.Text(g), got, want)
			}
			for sum := range terms {
				if got := Weigh(terms[sum], m); got != want[sum] {
					t.Fatal(seed, sum, testkit.Text(g), got, want)
				}
			}
			tried++
		}
	}
	if tried < 500 {
		t.Error("too few were tried", tried)
	}
}
