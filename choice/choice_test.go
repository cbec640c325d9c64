package choice

import (
	"reflect"
	"slices"
	"testing"

	"cooper/api"
	"cooper/cnf"
	"cooper/testkit"
)

func node(p int) api.Atom { return api.Atom{Kind: api.NodeAtom, A: p} }

func release(p, i int) api.Atom { return api.Atom{Kind: api.ReleaseAtom, A: p, B: i} }

func value(p, v, i int) api.Atom { return api.Atom{Kind: api.ValueAtom, A: p, B: v, C: i} }

func wish(name string) api.Spec { return api.Spec{Name: name, Spans: testkit.All()} }

// recipe: b needs d; a and c stand apart; d provides v.
func recipe() api.Recipe {
	return api.Recipe{Packages: []api.Package{
		{Name: "a", Releases: []api.Release{{Version: "1"}}, Depends: []api.Depend{{On: wish("b"), When: testkit.Always(), Line: 1}}},
		{
			Name: "b", Releases: []api.Release{{Version: "1"}, {Version: "2"}}, Variants: []api.Variant{{Name: "x", Values: []string{"on", "off"}}, {Name: "y", Values: []string{"1"}}},
			Depends:   []api.Depend{{On: wish("d"), When: testkit.Always(), Line: 4}, {On: wish("v"), When: testkit.Always(), Line: 3}},
			Conflicts: []api.Conflict{{When: testkit.Always(), Line: 9}},
		},
		{Name: "c", Releases: []api.Release{{Version: "1"}}},
		{Name: "d", Releases: []api.Release{{Version: "1"}}, Provides: []string{"v"}, Conflicts: []api.Conflict{{When: testkit.Always(), Line: 2}}},
	}}
}

func ask(names ...string) api.Request {
	var q api.Request
	for i, name := range names {
		q.Roots = append(q.Roots, api.Root{Spec: wish(name), Line: 20 + i})
	}
	return q
}

func TestGround(t *testing.T) {
	x, q := recipe(), ask("b", "v")
	g := New(x, q, 100)
	if !reflect.DeepEqual(g.Recipe(), x) || !reflect.DeepEqual(g.Request(), q) || !slices.Equal(g.Places(), []int{1, 3}) {
		t.Error(g.Recipe(), g.Request(), g.Places())
	}
	for place, want := range map[int]bool{-1: false, 0: false, 1: true, 2: false, 3: true, 4: false} {
		if g.Has(place) != want {
			t.Error(place)
		}
	}
	if g.Table().Len() != 0 || len(g.Builder().Clauses()) != 0 {
		t.Error("a new ground has no clauses")
	}
	if n := g.Number(node(7)); n != 1 || g.Table().Look(node(7)) != 1 {
		t.Error("a number is asked for", n)
	}
}

func TestRules(t *testing.T) {
	want := []api.Rule{
		{Kind: api.RootRule, Package: -1, Index: 0, Line: 20},
		{Kind: api.RootRule, Package: -1, Index: 1, Line: 21},
		{Kind: api.DependRule, Package: 1, Index: 0, Line: 4},
		{Kind: api.DependRule, Package: 1, Index: 1, Line: 3},
		{Kind: api.ConflictRule, Package: 1, Index: 0, Line: 9},
		{Kind: api.ConflictRule, Package: 3, Index: 0, Line: 2},
	}
	if got := New(recipe(), ask("v", "b"), 100).Rules(); !slices.Equal(got, want) {
		t.Error(got)
	}
}

func TestChoices(t *testing.T) {
	g := New(recipe(), ask("b"), 100)
	g.Choices()
	for i, a := range []api.Atom{node(1), release(1, 0), release(1, 1), value(1, 0, 0), value(1, 0, 1), value(1, 1, 0), node(3), release(3, 0)} {
		if n := g.Table().Look(a); n != i+1 {
			t.Error(a, n)
		}
	}
	want := [][]int{
		{-1, 2, 3}, {-2, -3}, {1, -2}, {1, -3},
		{-1, 4, 5}, {-4, -5}, {1, -4}, {1, -5},
		{-1, 6}, {1, -6},
		{-7, 8}, {7, -8},
	}
	if got := g.Builder().Clauses(); !slices.EqualFunc(got, want, slices.Equal) || g.Table().Len() != 8 {
		t.Error(got)
	}
}

// TestMeaning tries all models of the first part.
func TestMeaning(t *testing.T) {
	g := New(recipe(), ask("b"), 100)
	g.Choices()
	so := func(model []bool, a api.Atom) int {
		if model[g.Table().Look(a)-1] {
			return 1
		}
		return 0
	}
	models := 0
	for n := range 256 {
		model := make([]bool, 8)
		for i := range model {
			model[i] = n>>i&1 == 1
		}
		if !cnf.Holds(g.Builder().Clauses(), model) {
			continue
		}
		models++
		for p, groups := range map[int][][]api.Atom{1: {{release(1, 0), release(1, 1)}, {value(1, 0, 0), value(1, 0, 1)}, {value(1, 1, 0)}}, 3: {{release(3, 0)}}} {
			for _, group := range groups {
				count := 0
				for _, a := range group {
					count += so(model, a)
				}
				if count != so(model, node(p)) {
					t.Error(model, group)
				}
			}
		}
	}
	if models != (2*2+1)*2 {
		t.Error("each choice has a model:", models)
	}
}

func TestLimit(t *testing.T) {
	g := New(recipe(), ask("b"), 2)
	g.Choices()
	if got := g.Builder().Clauses(); !slices.EqualFunc(got, [][]int{{1, -2}}, slices.Equal) || !g.Table().Full() || g.Builder().Bad() {
		t.Error(got)
	}
	g = New(recipe(), ask("b"), -1)
	g.Choices()
	if len(g.Builder().Clauses()) != 0 || !g.Table().Full() || g.Number(node(0)) != 0 {
		t.Error("no atom, no clause")
	}
}

// scramble changes all that lists hold.
func scramble(v reflect.Value) {
	switch v.Kind() {
	case reflect.Struct:
		for i := range v.NumField() {
			scramble(v.Field(i))
		}
	case reflect.Slice:
		for i := range v.Len() {
			scramble(v.Index(i))
		}
	case reflect.String:
		v.SetString("changed")
	case reflect.Int:
		v.SetInt(99)
	case reflect.Bool:
		v.SetBool(!v.Bool())
	}
}

// full is a recipe in which each list has something.
func full() api.Recipe {
	x := recipe()
	for i := range x.Packages {
		p := &x.Packages[i]
		some := []api.Setting{{Name: "x", Value: "on"}}
		p.Files, p.Provides = []string{"f"}, []string{"v"}
		p.Variants = append(p.Variants, api.Variant{Name: "x", Values: []string{"on"}})
		p.Depends = append(p.Depends, api.Depend{On: api.Spec{Name: "d", Spans: testkit.All(), Settings: some}, When: api.Spec{Spans: testkit.All(), Settings: some}})
		p.Conflicts = append(p.Conflicts, api.Conflict{When: api.Spec{Spans: testkit.All(), Settings: some}, With: api.Spec{Name: "d", Spans: testkit.All(), Settings: some}})
	}
	x.Prefers = []api.Prefer{{Virtual: "v", Names: []string{"d"}}}
	return x
}

func TestCopies(t *testing.T) {
	x, q := full(), ask("b")
	g := New(x, q, 100)
	scramble(reflect.ValueOf(&x).Elem())
	scramble(reflect.ValueOf(&q).Elem())
	again, asked := g.Recipe(), g.Request()
	scramble(reflect.ValueOf(&again).Elem())
	scramble(reflect.ValueOf(&asked).Elem())
	if !reflect.DeepEqual(g.Recipe(), full()) || !reflect.DeepEqual(g.Request(), ask("b")) {
		t.Error("a ground keeps what it has to itself")
	}
}

func TestMemory(t *testing.T) {
	g := New(recipe(), ask("b"), 100)
	g.Places()[0] = 9
	g.Rules()[0].Line = 99
	if !reflect.DeepEqual(g.Recipe(), recipe()) || !reflect.DeepEqual(g.Request(), ask("b")) || g.Places()[0] != 1 || g.Rules()[0].Line != 20 {
		t.Error("a ground keeps what it has to itself")
	}
	if g.Table() != g.Table() || g.Builder() != g.Builder() {
		t.Error("table and builder are shared")
	}
}

func TestNilGround(t *testing.T) {
	var g *Ground
	g.Choices()
	if len(g.Recipe().Packages) != 0 || len(g.Request().Roots) != 0 || len(g.Places()) != 0 || len(g.Rules()) != 0 || g.Number(node(0)) != 0 || g.Table() != nil || g.Builder() != nil || g.Has(0) {
		t.Error("a nil ground has nothing")
	}
}

func TestRecipesWithProblems(t *testing.T) {
	x := recipe()
	x.Packages[1].Releases, x.Packages[1].Variants[0].Values = nil, nil
	x.Packages = append(x.Packages, x.Packages[1])
	g := New(x, ask("b", "nothing", ""), 100)
	g.Choices()
	if !slices.Equal(g.Places(), []int{1, 3}) {
		t.Error(g.Places())
	}
}
