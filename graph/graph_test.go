package graph

import (
	"math"
	"slices"
	"testing"

	"cooper/api"
	"cooper/descent"
	"cooper/formula"
	"cooper/testkit"
)

func graph(nodes ...api.Node) api.Graph { return api.Graph{Nodes: nodes} }

func on(name string) api.Depend { return api.Depend{On: testkit.Wish(name), When: testkit.Always()} }

// recipe: a (x) needs b from 2 on, and v if x is off; c and d provide v; d needs e, and e d if that is 2; b 3 is not with c.
func recipe() api.Recipe {
	one, two := []api.Release{{Version: "1"}}, []api.Release{{Version: "1"}, {Version: "2"}, {Version: "3"}}
	return api.Recipe{Packages: []api.Package{
		{
			Name: "a", Releases: one, Variants: []api.Variant{{Name: "x", Values: []string{"on", "off"}}},
			Depends: []api.Depend{{On: api.Spec{Name: "b", Spans: []api.Span{{Lo: "2"}}}, When: testkit.Always()}, {On: testkit.Wish("v"), When: testkit.Wish("", testkit.Set("x", "off"))}},
		},
		{Name: "b", Releases: two, Conflicts: []api.Conflict{{When: api.Spec{Spans: []api.Span{{Lo: "3"}}}, With: testkit.Wish("c")}}},
		{Name: "c", Releases: one, Provides: []string{"v"}, Conflicts: []api.Conflict{{When: testkit.Wish(""), With: api.Spec{Name: "e", Spans: []api.Span{{Lo: "2"}}}}}},
		{Name: "d", Releases: two, Provides: []string{"v", "w"}, Depends: []api.Depend{on("e")}},
		{Name: "e", Releases: two, Depends: []api.Depend{{On: testkit.Wish("d"), When: api.Spec{Spans: []api.Span{{Lo: "2", Hi: "2"}}}}}},
		{Name: "f", Releases: one, Conflicts: []api.Conflict{{When: testkit.Always()}}},
	}}
}

func a(x string, needs ...string) api.Node {
	return api.Node{Name: "a", Version: "1", Settings: []api.Setting{testkit.Set("x", x)}, Needs: needs}
}

func TestCheck(t *testing.T) {
	for i, c := range []struct {
		q    api.Request
		g    api.Graph
		want api.Breach
	}{
		{testkit.Ask(testkit.Wish("a")), graph(a("on", "b"), testkit.Node("b", "2")), api.Breach{}},
		{testkit.Ask(testkit.Wish("a")), graph(a("off", "b", "c"), testkit.Node("b", "2"), testkit.Node("c", "1")), api.Breach{}},
		{testkit.Ask(testkit.Wish("v"), testkit.Wish("e")), graph(testkit.Node("c", "1"), testkit.Node("e", "1")), api.Breach{}},
		{testkit.Ask(testkit.Wish("w")), graph(testkit.Node("d", "1", "e"), testkit.Node("e", "1")), api.Breach{}},
		{testkit.Ask(testkit.Wish("a")), graph(), api.Breach{Code: api.BreachRoot, Name: "a"}},
		{testkit.Ask(), graph(), api.Breach{}},
		{testkit.Ask(testkit.Wish("a")), graph(testkit.Node("a", "9"), testkit.Node("z", "1")), api.Breach{Code: api.BreachName, Name: "z"}},
		{testkit.Ask(testkit.Wish("a")), graph(testkit.Node("v", "1")), api.Breach{Code: api.BreachName, Name: "v"}},
		{testkit.Ask(testkit.Wish("a")), graph(testkit.Node("b", "1"), a("on"), testkit.Node("z", "1")), api.Breach{Code: api.BreachName, Name: "a"}},
		{testkit.Ask(testkit.Wish("a")), graph(testkit.Node("b", "1"), testkit.Node("b", "1")), api.Breach{Code: api.BreachName, Name: "b"}},
		{testkit.Ask(testkit.Wish("a")), graph(testkit.Node("a", "1"), testkit.Node("b", "9")), api.Breach{Code: api.BreachVersion, Name: "b"}},
		{testkit.Ask(testkit.Wish("a")), graph(testkit.Node("a", "1"), testkit.Node("b", "1")), api.Breach{Code: api.BreachSettings, Name: "a"}},
		{testkit.Ask(testkit.Wish("a")), graph(a("1")), api.Breach{Code: api.BreachSettings, Name: "a"}},
		{testkit.Ask(testkit.Wish("b"), testkit.Wish("a", testkit.Set("x", "off")), testkit.Wish("c")), graph(a("on"), testkit.Node("b", "1")), api.Breach{Code: api.BreachRoot, Name: "a"}},
		{testkit.Ask(testkit.Wish("a")), graph(a("on", "b"), testkit.Node("b", "1")), api.Breach{Code: api.BreachDepend, Name: "a"}},
		{testkit.Ask(testkit.Wish("a")), graph(a("on")), api.Breach{Code: api.BreachDepend, Name: "a"}},
		{testkit.Ask(testkit.Wish("w"), testkit.Wish("v")), graph(), api.Breach{Code: api.BreachVirtual, Name: "v"}},
		{testkit.Ask(testkit.Wish("w"), testkit.Wish("v"), testkit.Wish("c")), graph(testkit.Node("c", "1"), testkit.Node("d", "1"), testkit.Node("e", "1")), api.Breach{Code: api.BreachVirtual, Name: "v"}},
		{testkit.Ask(testkit.Wish("a")), graph(a("off", "b"), testkit.Node("b", "3")), api.Breach{Code: api.BreachVirtual, Name: "v"}},
		{testkit.Ask(testkit.Wish("w")), graph(), api.Breach{Code: api.BreachVirtual, Name: "w"}},
		{testkit.Ask(testkit.Wish("a")), graph(a("off", "b", "c"), testkit.Node("b", "3"), testkit.Node("c", "1")), api.Breach{Code: api.BreachConflict, Name: "b"}},
		{testkit.Ask(testkit.Wish("b"), testkit.Wish("c")), graph(testkit.Node("b", "3"), testkit.Node("c", "1")), api.Breach{Code: api.BreachConflict, Name: "b"}},
		{testkit.Ask(testkit.Wish("f")), graph(testkit.Node("f", "1")), api.Breach{Code: api.BreachConflict, Name: "f"}},
		{testkit.Ask(testkit.Wish("c"), testkit.Wish("e")), graph(testkit.Node("c", "1"), testkit.Node("e", "3")), api.Breach{Code: api.BreachConflict, Name: "c"}},
		{testkit.Ask(testkit.Wish("a")), graph(a("on"), testkit.Node("b", "2")), api.Breach{Code: api.BreachNeeds, Name: "a"}},
		{testkit.Ask(testkit.Wish("a")), graph(a("on", "b", "b"), testkit.Node("b", "2")), api.Breach{Code: api.BreachNeeds, Name: "a"}},
		{testkit.Ask(testkit.Wish("a")), graph(a("off", "c", "b"), testkit.Node("b", "2"), testkit.Node("c", "1")), api.Breach{Code: api.BreachNeeds, Name: "a"}},
		{testkit.Ask(testkit.Wish("b")), graph(testkit.Node("b", "1", "c")), api.Breach{Code: api.BreachNeeds, Name: "b"}},
		{testkit.Ask(testkit.Wish("w")), graph(testkit.Node("d", "1", "e"), testkit.Node("e", "2", "d")), api.Breach{Code: api.BreachCircle, Name: "d"}},
		{testkit.Ask(testkit.Wish("b")), graph(testkit.Node("b", "1"), testkit.Node("d", "1", "e"), testkit.Node("e", "2", "d")), api.Breach{Code: api.BreachCircle, Name: "d"}},
		{testkit.Ask(testkit.Wish("b")), graph(testkit.Node("b", "1"), testkit.Node("e", "1")), api.Breach{Code: api.BreachReach, Name: "e"}},
		{testkit.Ask(testkit.Wish("e")), graph(testkit.Node("d", "1", "e"), testkit.Node("e", "1")), api.Breach{Code: api.BreachReach, Name: "d"}},
	} {
		if got := Check(recipe(), c.q, c.g); got != c.want {
			t.Error(i, got, c.want)
		}
	}
}

func TestSelfCircle(t *testing.T) {
	x := api.Recipe{Packages: []api.Package{{Name: "a", Releases: []api.Release{{Version: "1"}}, Depends: []api.Depend{on("a")}}}}
	if b := Check(x, testkit.Ask(testkit.Wish("a")), graph(testkit.Node("a", "1", "a"))); b != (api.Breach{Code: api.BreachCircle, Name: "a"}) {
		t.Error(b)
	}
}

func TestRecipesWithProblems(t *testing.T) {
	x := recipe()
	x.Packages = append(x.Packages, x.Packages[0], api.Package{})
	Check(x, testkit.Ask(testkit.Wish(""), testkit.Wish("nothing")), graph(a("on", "b"), testkit.Node("b", "2"), testkit.Node("", "")))
	Check(api.Recipe{}, api.Request{}, graph(testkit.Node("", ""), testkit.Node("", "")))
}

// spoil changes something in a graph.
func spoil(d *testkit.Dice, g api.Graph, x api.Recipe) api.Graph {
	var out api.Graph
	for _, n := range g.Nodes {
		n.Settings, n.Needs = slices.Clone(n.Settings), slices.Clone(n.Needs)
		out.Nodes = append(out.Nodes, n)
	}
	for range 1 + d.Roll(2) {
		if len(out.Nodes) == 0 {
			return graph(testkit.Node("a", "1"))
		}
		n := &out.Nodes[d.Roll(len(out.Nodes))]
		switch d.Roll(7) {
		case 0:
			n.Version = []string{"1", "2", "3", "2.rc"}[d.Roll(4)]
		case 1:
			if len(n.Settings) > 0 {
				n.Settings[d.Roll(len(n.Settings))].Value = []string{"on", "off", "1"}[d.Roll(3)]
			}
		case 2:
			n.Needs = append(n.Needs, x.Packages[d.Roll(len(x.Packages))].Name)
			slices.Sort(n.Needs)
		case 3:
			if len(n.Needs) > 0 {
				n.Needs = n.Needs[1:]
			}
		case 4:
			k := d.Roll(len(out.Nodes))
			out.Nodes = slices.Delete(out.Nodes, k, k+1)
		case 5:
			p := x.Packages[d.Roll(len(x.Packages))]
			more := testkit.Node(p.Name, p.Releases[0].Version)
			for _, v := range p.Variants {
				more.Settings = append(more.Settings, testkit.Set(v.Name, v.Values[0]))
			}
			out.Nodes = append(out.Nodes, more)
			slices.SortStableFunc(out.Nodes, func(a, b api.Node) int {
				if a.Name < b.Name {
					return -1
				}
				return 1
			})
		case 6:
			n.Name = x.Packages[d.Roll(len(x.Packages))].Name
		}
	}
	return out
}

// TestTheSameAsFound: just the graphs that are found by trying, and so those that are read of models, have no breach; what is found as the best is one.
func TestTheSameAsFound(t *testing.T) {
	right, spoilt := 0, 0
	for seed := range 300 {
		d := testkit.New(seed)
		x := testkit.Recipe(d, 1+seed%5)
		q := testkit.Request(d, x)
		if testkit.Choices(x) > 5000 {
			continue
		}
		found := map[string]int{}
		graphs := testkit.Graphs(x, q, testkit.AllRules, false)
		for _, g := range graphs {
			found[testkit.Text(g)]++
			right++
			if b := Check(x, q, g); b != (api.Breach{}) {
				t.Fatal(seed, testkit.Text(g), b)
			}
		}
		for k := range 200 {
			g := api.Graph{}
			if len(graphs) > 0 {
				g = graphs[d.Roll(len(graphs))]
			}
			for range k % 3 {
				g = spoil(d, g, x)
			}
			b := Check(x, q, g)
			if (b.Code == api.NoBreach) != (found[testkit.Text(g)] > 0) {
				t.Fatal(seed, testkit.Text(g), b)
			}
			if b.Code != api.NoBreach {
				spoilt++
			}
		}
		if best, _ := descent.Best(x, q, 1<<16, math.MaxInt); best.State == api.Sat && Check(x, q, best.Graph) != (api.Breach{}) {
			t.Fatal(seed, testkit.Text(best.Graph))
		}
	}
	if right < 300 || spoilt < 5000 {
		t.Error("too few were tried", right, spoilt)
	}
}

func TestReadOfAModel(t *testing.T) {
	x, q := recipe(), testkit.Ask(testkit.Wish("a"), testkit.Wish("v"))
	f, _ := formula.Build(x, q, 1<<16)
	read := map[string]int{}
	for _, m := range testkit.Models(f.Atoms(), f.Clauses(), f.Assume(nil))[:200] {
		g := f.Read(m)
		read[testkit.Text(g)]++
		if b := Check(x, q, g); b != (api.Breach{}) {
			t.Fatal(testkit.Text(g), b)
		}
	}
	if len(read) == 0 {
		t.Error("none was read")
	}
}

func TestFind(t *testing.T) {
	g := graph(testkit.Node("b", "1"), testkit.Node("a", "1"), testkit.Node("a", "2"))
	if Find(g, "a") != 1 || Find(g, "b") != 0 || Find(g, "c") != -1 || Find(api.Graph{}, "") != -1 {
		t.Error("the first node of a name")
	}
}

func TestSame(t *testing.T) {
	g := graph(a("on", "b"), testkit.Node("b", "1"))
	if !Same(g, graph(a("on", "b"), testkit.Node("b", "1"))) || !Same(api.Graph{}, graph()) {
		t.Error("the same")
	}
	empty := api.Node{Name: "b", Version: "1", Settings: []api.Setting{}, Needs: []string{}}
	if !Same(graph(empty), graph(testkit.Node("b", "1"))) {
		t.Error("a nil list is an empty one")
	}
	for _, other := range []api.Graph{graph(), graph(a("on", "b")), graph(testkit.Node("b", "1"), a("on", "b")), graph(a("off", "b"), testkit.Node("b", "1")), graph(a("on"), testkit.Node("b", "1")), graph(a("on", "b"), testkit.Node("b", "2")), graph(a("on", "b"), testkit.Node("c", "1"))} {
		if Same(g, other) || Same(other, g) {
			t.Error(other)
		}
	}
}

func TestOrder(t *testing.T) {
	for i, c := range []struct {
		g    api.Graph
		want []int
		ok   bool
	}{
		{graph(), nil, true},
		{graph(testkit.Node("a", "1", "c"), testkit.Node("b", "1"), testkit.Node("c", "1")), []int{1, 2, 0}, true},
		{graph(testkit.Node("a", "1", "b", "b", "nothing"), testkit.Node("b", "1", "c"), testkit.Node("c", "1")), []int{2, 1, 0}, true},
		{graph(testkit.Node("a", "1", "d"), testkit.Node("b", "1"), testkit.Node("c", "1", "a"), testkit.Node("d", "1", "b")), []int{1, 3, 0, 2}, true},
		{graph(testkit.Node("a", "1", "a")), nil, false},
		{graph(testkit.Node("a", "1"), testkit.Node("b", "1", "c"), testkit.Node("c", "1", "b")), nil, false},
		{graph(testkit.Node("a", "1", "b"), testkit.Node("a", "2"), testkit.Node("b", "1")), []int{1, 2, 0}, true},
		{graph(testkit.Node("b", "1"), testkit.Node("b", "2", "b"), testkit.Node("a", "1", "b")), []int{0, 1, 2}, true},
		{graph(testkit.Node("b", "1", "a"), testkit.Node("b", "2"), testkit.Node("a", "1", "b")), nil, false},
	} {
		if got, ok := Order(c.g); ok != c.ok || !slices.Equal(got, c.want) {
			t.Error(i, got, ok)
		}
	}
}
