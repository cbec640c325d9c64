package formula

import (
	"reflect"
	"slices"
	"testing"

	"cooper/api"
	"cooper/choice"
	"cooper/cnf"
	"cooper/edge"
	"cooper/order"
	"cooper/testkit"
)

func pack(name string, depends ...string) api.Package {
	p := api.Package{Name: name, Releases: []api.Release{{Version: "1"}}}
	for _, d := range depends {
		p.Depends = append(p.Depends, api.Depend{On: testkit.Wish(d), When: testkit.Always()})
	}
	return p
}

func build(t *testing.T, x api.Recipe, q api.Request) *Formula {
	t.Helper()
	f, err := Build(x, q, 100000)
	if err != api.OK {
		t.Fatal(err)
	}
	return f
}

func TestBuildIsTheThreeParts(t *testing.T) {
	d := testkit.New(8)
	x := testkit.Recipe(d, 5)
	q := testkit.Request(d, x)
	f := build(t, x, q)
	g := choice.New(x, q, 100000)
	g.Choices()
	edge.Edges(g)
	order.Orders(g)
	if !slices.EqualFunc(f.Clauses(), g.Builder().Clauses(), slices.Equal) || f.Atoms() != g.Table().Len() || !slices.Equal(f.Rules(), g.Rules()) {
		t.Error("another formula")
	}
	for n := 1; n <= f.Atoms(); n++ {
		a, _ := g.Table().At(n)
		if f.Number(a) != n {
			t.Error(a)
		}
	}
	for i := range f.Rules() {
		if f.Number(api.Atom{Kind: api.RuleAtom, A: i}) == 0 {
			t.Error("a rule without a number", i)
		}
	}
}

func TestOneNode(t *testing.T) {
	f := build(t, api.Recipe{Packages: []api.Package{pack("a")}}, testkit.AskFor("a"))
	models := testkit.Models(f.Atoms(), f.Clauses(), f.Assume(nil))
	if len(models) != 1 || testkit.Text(f.Read(models[0])) != "a@1; " {
		t.Error(models)
	}
}

func TestErrors(t *testing.T) {
	x := api.Recipe{Packages: []api.Package{pack("a", "b"), pack("b")}}
	if f, err := Build(x, testkit.AskFor("z"), 100); f != nil || err != api.ErrForm {
		t.Error(err)
	}
	if f, err := Build(x, testkit.AskFor(), 0); f != nil || err != api.ErrForm {
		t.Error("the form is asked first", err)
	}
	broken := api.Recipe{Packages: []api.Package{pack("a"), pack("a")}}
	if f, err := Build(broken, testkit.AskFor("a"), 100); f != nil || err != api.ErrForm {
		t.Error(err)
	}
	clash := api.Recipe{Packages: []api.Package{pack("a"), pack("b")}}
	clash.Packages[0].Provides = []string{"b"}
	if f, err := Build(clash, testkit.AskFor("a"), 100); f != nil || err != api.ErrForm {
		t.Error("a package's name is provided", err)
	}
	n := build(t, x, testkit.AskFor("a")).Atoms()
	for _, limit := range []int{n - 1, 1, 0, -5} {
		if f, err := Build(x, testkit.AskFor("a"), limit); f != nil || err != api.ErrLarge {
			t.Error(limit, err)
		}
	}
	if f, err := Build(x, testkit.AskFor("a"), n); err != api.OK || f.Atoms() != n {
		t.Error("as many as the limit may be", err)
	}
}

func TestAssume(t *testing.T) {
	f := build(t, api.Recipe{Packages: []api.Package{pack("a", "b"), pack("b", "a")}}, testkit.AskFor("a"))
	r := func(i int) int { return f.Number(api.Atom{Kind: api.RuleAtom, A: i}) }
	for _, c := range []struct {
		off  []bool
		want []int
	}{
		{nil, []int{r(0), r(1), r(2)}}, {[]bool{false, true}, []int{r(0), -r(1), r(2)}}, {[]bool{true, false, true, true, true}, []int{-r(0), r(1), -r(2)}},
	} {
		if got := f.Assume(c.off); !slices.Equal(got, c.want) {
			t.Error(got, c.want)
		}
	}
}

func TestRead(t *testing.T) {
	x := api.Recipe{Packages: []api.Package{pack("c", "a", "b"), pack("b"), pack("a")}}
	x.Packages[1].Releases = append(x.Packages[1].Releases, api.Release{Version: "2"})
	x.Packages[1].Variants = []api.Variant{{Name: "x", Values: []string{"on", "off"}}, {Name: "a", Values: []string{"1"}}}
	f := build(t, x, testkit.AskFor("c"))
	model := make([]bool, f.Atoms())
	so := func(kind uint8, a, b, c int) { model[f.Number(api.Atom{Kind: kind, A: a, B: b, C: c})-1] = true }
	if g := f.Read(model); len(g.Nodes) != 0 {
		t.Error(g)
	}
	for p := range 3 {
		so(api.NodeAtom, p, 0, 0)
	}
	so(api.ReleaseAtom, 1, 1, 0)
	so(api.ValueAtom, 1, 0, 1)
	so(api.ValueAtom, 1, 1, 0)
	so(api.ReleaseAtom, 0, 0, 0)
	so(api.EdgeAtom, 0, 1, 0)
	so(api.EdgeAtom, 0, 2, 0)
	if text := testkit.Text(f.Read(model)); text != "a@; b@2 x=off a=1; c@1 >a >b; " {
		t.Error(text)
	}
	so(api.ReleaseAtom, 1, 0, 0)
	so(api.ValueAtom, 1, 0, 0)
	if text := testkit.Text(f.Read(model)); text != "a@; b@1 x=on a=1; c@1 >a >b; " {
		t.Error("the first one is told", text)
	}
	if g := f.Read(nil); len(g.Nodes) != 0 {
		t.Error(g)
	}
	if n := f.Number(api.Atom{Kind: api.NodeAtom}); len(f.Read(model[:n]).Nodes) != 1 || len(f.Read(model[:n-1]).Nodes) != 0 {
		t.Error("a model may tell of the first atoms alone")
	}
	if g := f.Read(append(model, true, true)); len(g.Nodes) != 3 {
		t.Error(g)
	}
}

// TestJustTheGraphs: what is read of all models are just the graphs that are found by trying.
func TestJustTheGraphs(t *testing.T) {
	some, none := 0, 0
	for seed := range 500 {
		d := testkit.New(seed)
		x := testkit.Recipe(d, 1+seed%4)
		q := testkit.Request(d, x)
		if testkit.Choices(x) > 2000 {
			continue
		}
		f := build(t, x, q)
		off := make([]bool, len(f.Rules()))
		left := map[api.Rule]int{}
		for i, r := range f.Rules() {
			if off[i] = seed%3 == 0 && d.Once(4); off[i] {
				r.Line = 0
				left[r]++
			}
		}
		counts := func(kind uint8, place, index int) bool {
			return left[api.Rule{Kind: kind, Package: place, Index: index}] == 0
		}
		var got, want []string
		for _, m := range testkit.Models(f.Atoms(), f.Clauses(), f.Assume(off)) {
			got = append(got, testkit.Text(f.Read(m)))
		}
		for _, g := range testkit.Graphs(x, q, counts, false) {
			want = append(want, testkit.Text(g))
		}
		slices.Sort(got)
		slices.Sort(want)
		if got = slices.Compact(got); !slices.Equal(got, want) {
			t.Fatalf("seed %d: %q, want %q", seed, got, want)
		}
		if len(want) > 0 {
			some++
		} else {
			none++
		}
	}
	if some < 50 || none < 20 {
		t.Error("too few were tried:", some, none)
	}
}

func TestWhatComesBehind(t *testing.T) {
	f := build(t, api.Recipe{Packages: []api.Package{pack("a")}}, testkit.AskFor("a"))
	clauses, atoms := f.Clauses(), f.Atoms()
	help := f.Ground().Table().Help()
	f.Ground().Builder().Add(help)
	if !reflect.DeepEqual(f.Clauses(), clauses) || f.Atoms() != atoms+1 {
		t.Error("clauses of others are no part, their atoms count")
	}
	if f.Number(api.Atom{Kind: 77}) != 0 || f.Atoms() != atoms+1 {
		t.Error("an atom without a number gets none")
	}
	f.Clauses()[0][0] = 99
	f.Rules()[0].Line = 99
	if !reflect.DeepEqual(f.Clauses(), clauses) || f.Rules()[0].Line == 99 {
		t.Error("what is answered is new memory")
	}
	if !cnf.Holds(clauses, testkit.Models(atoms, clauses, nil)[0]) {
		t.Error("a model of the clauses")
	}
}

func TestNilFormula(t *testing.T) {
	var f *Formula
	if f.Atoms() != 0 || len(f.Clauses()) != 0 || len(f.Rules()) != 0 || len(f.Assume([]bool{true})) != 0 || len(f.Read([]bool{true}).Nodes) != 0 || f.Number(api.Atom{Kind: 1}) != 0 || f.Ground() != nil {
		t.Error("a nil formula has nothing")
	}
}
