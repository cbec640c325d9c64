package edge

import (
	"slices"
	"testing"

	"cooper/api"
	"cooper/choice"
	"cooper/cnf"
	"cooper/testkit"
)

func atom(kind uint8, numbers ...int) api.Atom {
	a := api.Atom{Kind: kind}
	for i, n := range numbers {
		switch i {
		case 0:
			a.A = n
		case 1:
			a.B = n
		case 2:
			a.C = n
		}
	}
	return a
}

func pack(name string, depends ...string) api.Package {
	p := api.Package{Name: name, Releases: []api.Release{{Version: "1"}}}
	for _, d := range depends {
		p.Depends = append(p.Depends, api.Depend{On: testkit.Wish(d), When: testkit.Always()})
	}
	return p
}

func ground(x api.Recipe, q api.Request, limit int) *choice.Ground {
	g := choice.New(x, q, limit)
	g.Choices()
	return g
}

// clauses are clauses of atoms, of which those with a minus ahead aren't so.
func numbers(g *choice.Ground, l ...any) []int {
	var out []int
	sign := 1
	for _, x := range l {
		switch x := x.(type) {
		case api.Atom:
			out = append(out, sign*g.Table().Look(x))
			sign = 1
		default:
			sign = -1
		}
	}
	f, _ := cnf.Form(out)
	return f
}

func TestClausesOfADepend(t *testing.T) {
	x := api.Recipe{Packages: []api.Package{pack("a", "b"), pack("b")}}
	g := ground(x, testkit.AskFor("a"), 100)
	before := len(g.Builder().Clauses())
	Edges(g)
	const not = "not"
	root, rule, active, edge := atom(api.RuleAtom, 0), atom(api.RuleAtom, 1), atom(api.ActiveAtom, 0, 0), atom(api.EdgeAtom, 0, 1)
	a, b := atom(api.NodeAtom, 0), atom(api.NodeAtom, 1)
	meetRoot, meetCondition, meetWish := atom(api.MeetAtom, 0, 0, 1), atom(api.MeetAtom, 0, 1, 0), atom(api.MeetAtom, 1, 1, 1)
	want := [][]int{
		numbers(g, not, meetRoot, a), numbers(g, meetRoot, not, a), numbers(g, not, root, meetRoot),
		numbers(g, not, meetCondition, a), numbers(g, meetCondition, not, a),
		numbers(g, not, active, rule), numbers(g, not, active, meetCondition), numbers(g, active, not, rule, not, meetCondition),
		numbers(g, not, meetWish, b), numbers(g, meetWish, not, b), numbers(g, not, active, meetWish), numbers(g, not, active, edge),
		numbers(g, not, edge, a), numbers(g, not, edge, b), numbers(g, not, edge, active),
		numbers(g, not, a, root), numbers(g, not, b, edge),
	}
	if got := g.Builder().Clauses()[before:]; !slices.EqualFunc(got, want, slices.Equal) {
		t.Errorf("%v\n%v", got, want)
	}
}

func TestClausesOfAName(t *testing.T) {
	x := api.Recipe{Packages: []api.Package{pack("a", "v"), pack("b"), pack("c")}}
	x.Packages[1].Provides, x.Packages[2].Provides = []string{"v"}, []string{"v"}
	g := ground(x, testkit.AskFor("v", "a"), 100)
	Edges(g)
	const not = "not"
	need, a, b, c := atom(api.NeedAtom, 0), atom(api.NodeAtom, 0), atom(api.NodeAtom, 1), atom(api.NodeAtom, 2)
	first, second, active := atom(api.RuleAtom, 0), atom(api.RuleAtom, 1), atom(api.ActiveAtom, 0, 0)
	toB, toC := atom(api.EdgeAtom, 0, 1), atom(api.EdgeAtom, 0, 2)
	got := g.Builder().Clauses()
	for _, want := range [][]int{
		numbers(g, not, first, need), numbers(g, not, active, need), numbers(g, not, active, not, b, toB), numbers(g, not, active, not, c, toC),
		numbers(g, not, need, first, active), numbers(g, not, need, b, c), numbers(g, not, need, not, b, not, c),
		numbers(g, not, toB, active), numbers(g, not, toC, active), numbers(g, not, b, first, toB), numbers(g, not, c, first, toC), numbers(g, not, a, second),
	} {
		if !slices.ContainsFunc(got, func(c []int) bool { return slices.Equal(c, want) }) {
			t.Error(want, "isn't there")
		}
	}
}

func TestMeet(t *testing.T) {
	x := api.Recipe{Packages: []api.Package{pack("a", "b"), pack("b"), pack("c")}}
	x.Packages[1].Releases = []api.Release{{Version: "1"}, {Version: "2"}, {Version: "3"}}
	x.Packages[1].Variants = []api.Variant{{Name: "x", Values: []string{"on", "off"}}}
	g := ground(x, testkit.AskFor("a"), 100)
	before := len(g.Builder().Clauses())
	s := api.Spec{Spans: []api.Span{{Hi: "1"}, {Lo: "3"}}, Settings: []api.Setting{{Name: "x", Value: "off"}}}
	n := Meet(g, 1, 7, 0, s)
	help := g.Table().Look(atom(api.HelpAtom, 0))
	if a, ok := g.Table().At(n); !ok || a != atom(api.MeetAtom, 1, 7, 0) || help == 0 {
		t.Fatal(n, help)
	}
	node, first, third, off := g.Number(atom(api.NodeAtom, 1)), g.Number(atom(api.ReleaseAtom, 1, 0)), g.Number(atom(api.ReleaseAtom, 1, 2)), g.Number(atom(api.ValueAtom, 1, 0, 1))
	built := cnf.New()
	built.Any(help, first, third)
	built.All(n, node, help, off)
	if got := g.Builder().Clauses()[before:]; !slices.EqualFunc(got, built.Clauses(), slices.Equal) {
		t.Error(got, built.Clauses())
	}
	count := len(g.Builder().Clauses())
	if Meet(g, 1, 7, 0, api.Spec{}) != n || len(g.Builder().Clauses()) != count {
		t.Error("it is built once")
	}
	for _, p := range []int{2, -1, 3} {
		if Meet(g, p, 7, 0, s) != 0 || len(g.Builder().Clauses()) != count {
			t.Error("may not be needed", p)
		}
	}
	if Meet(nil, 0, 0, 0, s) != 0 {
		t.Error("a nil ground has no packages")
	}
}

// TestMeetIsSoJustIf tries all models: a MeetAtom is so just if its package is as the wish says.
func TestMeetIsSoJustIf(t *testing.T) {
	for seed := range 60 {
		d := testkit.New(seed)
		x := testkit.Recipe(d, 1)
		x.Packages[0].Depends, x.Packages[0].Conflicts = nil, nil
		if seed%4 == 0 {
			x.Packages[0].Releases = append(x.Packages[0].Releases, api.Release{Version: "no version"})
		}
		other := testkit.Recipe(d, 1)
		q := testkit.AskFor("a")
		g := ground(x, q, 1000)
		specs := []api.Spec{{}, testkit.Always(), {Spans: []api.Span{{Lo: "2", Hi: "2"}}}, {Spans: []api.Span{{Lo: "1"}, {Lo: "1"}}}, {Spans: testkit.All(), Settings: []api.Setting{{Name: "no", Value: "1"}}}}
		for _, c := range other.Packages[0].Conflicts {
			specs = append(specs, c.When)
		}
		var atoms []int
		for i, s := range specs {
			atoms = append(atoms, Meet(g, 0, i, 1, s))
		}
		models := testkit.Models(g.Table().Len(), g.Builder().Clauses(), nil)
		if len(models) != testkit.Choices(x) {
			t.Fatal(seed, len(models), testkit.Choices(x))
		}
		for _, m := range models {
			n, there := read(g, x, m)
			for i, s := range specs {
				if m[atoms[i]-1] != (there && testkit.Holds(n, s)) {
					t.Fatal(seed, n, s)
				}
			}
		}
	}
}

func read(g *choice.Ground, x api.Recipe, model []bool) (api.Node, bool) {
	so := func(a api.Atom) bool { n := g.Table().Look(a); return n > 0 && model[n-1] }
	n := api.Node{Name: x.Packages[0].Name}
	for i, r := range x.Packages[0].Releases {
		if so(atom(api.ReleaseAtom, 0, i)) {
			n.Version = r.Version
		}
	}
	for k, v := range x.Packages[0].Variants {
		for i, value := range v.Values {
			if so(atom(api.ValueAtom, 0, k, i)) {
				n.Settings = append(n.Settings, api.Setting{Name: v.Name, Value: value})
			}
		}
	}
	return n, so(atom(api.NodeAtom, 0))
}

// graphOf reads a model of the first two parts.
func graphOf(g *choice.Ground, x api.Recipe, model []bool) api.Graph {
	so := func(a api.Atom) bool { n := g.Table().Look(a); return n > 0 && model[n-1] }
	var out api.Graph
	for p, pack := range x.Packages {
		if !so(atom(api.NodeAtom, p)) {
			continue
		}
		n := api.Node{Name: pack.Name}
		for i, r := range pack.Releases {
			if so(atom(api.ReleaseAtom, p, i)) {
				n.Version = r.Version
			}
		}
		for k, v := range pack.Variants {
			for i, value := range v.Values {
				if so(atom(api.ValueAtom, p, k, i)) {
					n.Settings = append(n.Settings, api.Setting{Name: v.Name, Value: value})
				}
			}
		}
		for k, other := range x.Packages {
			if so(atom(api.EdgeAtom, p, k)) {
				n.Needs = append(n.Needs, other.Name)
			}
		}
		out.Nodes = append(out.Nodes, n)
	}
	return out
}

// TestGraphs: the models of the first two parts, some rules counting, are just the graphs that are found by trying, each once.
func TestGraphs(t *testing.T) {
	tried := 0
	for seed := range 400 {
		d := testkit.New(seed)
		x := testkit.Recipe(d, 2+seed%4)
		q := testkit.Request(d, x)
		if testkit.Choices(x) > 20000 {
			continue
		}
		g := ground(x, q, 10000)
		Edges(g)
		rules := g.Rules()
		var assume []int
		off := map[api.Rule]int{}
		for i, r := range rules {
			n := g.Table().Look(atom(api.RuleAtom, i))
			if n == 0 {
				t.Fatal(seed, "a rule without a number")
			}
			if seed%2 == 1 && d.Once(4) {
				r.Line = 0
				off[r]++
				n = -n
			}
			assume = append(assume, n)
		}
		counts := func(kind uint8, place, index int) bool {
			return off[api.Rule{Kind: kind, Package: place, Index: index}] == 0
		}
		var got, want []string
		for _, m := range testkit.Models(g.Table().Len(), g.Builder().Clauses(), assume) {
			got = append(got, testkit.Text(graphOf(g, x, m)))
		}
		for _, graph := range testkit.Graphs(x, q, counts, true) {
			want = append(want, testkit.Text(graph))
		}
		slices.Sort(got)
		slices.Sort(want)
		if !slices.Equal(got, want) {
			t.Fatalf("seed %d: %d models, %d graphs", seed, len(got), len(want))
		}
		tried += len(want)
	}
	if tried < 100 {
		t.Error("too few graphs were tried:", tried)
	}
}

func TestConflictWithWhatMayNotBeNeeded(t *testing.T) {
	x := api.Recipe{Packages: []api.Package{pack("a"), pack("b")}}
	x.Packages[0].Conflicts = []api.Conflict{{When: testkit.Always(), With: testkit.Wish("b")}}
	g := ground(x, testkit.AskFor("a"), 100)
	Edges(g)
	if g.Table().Look(atom(api.RuleAtom, 1)) == 0 {
		t.Error("its RuleAtom gets a number all the same")
	}
	n := g.Table().Look(atom(api.RuleAtom, 1))
	for _, c := range g.Builder().Clauses() {
		if slices.Contains(c, n) || slices.Contains(c, -n) {
			t.Error("there is no clause")
		}
	}
}

func TestLimit(t *testing.T) {
	x := api.Recipe{Packages: []api.Package{pack("a", "b", "v"), pack("b", "a"), pack("c")}}
	x.Packages[2].Provides = []string{"v"}
	whole := ground(x, testkit.AskFor("a"), 1000)
	Edges(whole)
	for limit := range whole.Table().Len() {
		g := ground(x, testkit.AskFor("a"), limit)
		Edges(g)
		if !g.Table().Full() || g.Builder().Bad() || g.Table().Len() != limit {
			t.Error(limit, g.Table().Len())
		}
		for _, c := range g.Builder().Clauses() {
			if cnf.Atoms([][]int{c}) > limit {
				t.Error(limit, c)
			}
		}
	}
}

func TestOfNothing(t *testing.T) {
	Edges(nil)
	g := ground(api.Recipe{Packages: []api.Package{pack("a", "nothing", "a")}}, testkit.AskFor("nothing", "a", ""), 100)
	Edges(g)
	if g.Builder().Bad() {
		t.Error("names of nothing do no harm")
	}
}
