package concrete

import (
	"reflect"
	"slices"
	"strings"
	"testing"

	"cooper/api"
	"cooper/check"
	"cooper/cost"
	"cooper/graph"
	"cooper/lock"
	"cooper/needs"
	"cooper/print"
	"cooper/recipe"
	"cooper/request"
	"cooper/rup"
	"cooper/store"
	"cooper/testkit"

	"cooper/core"
	"cooper/formula"
)

const great = 1 << 20

func come(recipe, request, lock string) api.Outcome {
	return Concretise(recipe, request, lock, great, great)
}

// checkGraph: an outcome is a graph, written in one line.
func checkGraph(t *testing.T, o api.Outcome, want string) {
	t.Helper()
	if got := testkit.Text(o.Graph); o.Kind != api.IsGraph || got != want {
		t.Errorf("%d %s, want %s", o.Kind, got, want)
	}
}

// checkNone: there is no graph, for rules of some lines.
func checkNone(t *testing.T, o api.Outcome, lines ...int) {
	t.Helper()
	var got []int
	for _, r := range o.Rules {
		got = append(got, r.Line)
	}
	if o.Kind != api.NoGraph || !slices.Equal(got, lines) {
		t.Errorf("%d %v, want %v", o.Kind, got, lines)
	}
}

func TestExample1(t *testing.T) {
	checkGraph(t, come("package a\nversion 1\nversion 2\n", "root a", ""), "a@2; ")
}

func TestExample2(t *testing.T) {
	checkGraph(t, come("package a\nversion 1\nversion 2\ndepends b when @2\npackage b\nversion 1 old\n", "root a", ""), "a@1; ")
}

const providers = "package a\nversion 1\ndepends v\npackage b\nversion 1\nprovides v\npackage c\nversion 1\nprovides v\nprefer v c b\n"

func TestExample3(t *testing.T) {
	checkGraph(t, come(providers, "root a", ""), "a@1 >c; c@1; ")
	checkGraph(t, come(strings.Replace(providers, "depends v", "depends v\nconflicts * with c", 1), "root a", ""), "a@1 >b; b@1; ")
}

func TestExample4(t *testing.T) {
	checkNone(t, come(providers, "root b\nroot c\n\n\n\n\nroot a", ""), 1, 2, 7, 3)
	checkNone(t, come(providers, "root b\nroot c\nroot v", ""), 1, 2, 3)
}

func TestExample5(t *testing.T) {
	checkNone(t, come("package a\nversion 1\ndepends b\npackage b\nversion 1\ndepends a\n", "root a", ""), 1, 3, 6)
}

func TestExample6(t *testing.T) {
	text := "package a\nversion 1\nvariant x on off\npackage b\nversion 1\ndepends a x=off\n"
	checkGraph(t, come(text, "root a", ""), "a@1 x=on; ")
	checkGraph(t, come(text, "root a\nroot b", ""), "a@1 x=off; b@1 >a; ")
}

func TestExample7(t *testing.T) {
	text := "package a\nversion 1\nconflicts * with b@2:\npackage b\nversion 3\nversion 2\nversion 1.9\nversion 1\n"
	checkGraph(t, come(text, "root a\nroot b", ""), "a@1; b@1.9; ")
}

func TestExample8(t *testing.T) {
	before := "package a\nversion 1\ndepends b\npackage b\nversion 1\n"
	locked := come(before, "root a", "").Lock
	if locked != "lock 1\nnode a 1\n  needs b\nnode b 1\n" {
		t.Errorf("%q", locked)
	}
	after := before + "version 2\n"
	checkGraph(t, come(after, "root a", ""), "a@1 >b; b@2; ")
	o := come(after, "root a", locked)
	checkGraph(t, o, "a@1 >b; b@1; ")
	if o.Cost != (api.Cost{0, 0, 0, 0, 1, 2}) || o.Lock != locked || len(o.Derivations) != 2 {
		t.Error(o)
	}
	o = come(strings.Replace(after, "depends b", "depends b@2", 1), "root a", locked)
	if !reflect.DeepEqual(o, api.Outcome{Kind: api.StaleLock, Breach: api.Breach{Code: api.BreachDepend, Name: "a"}}) {
		t.Error(o)
	}
}

func TestExample9(t *testing.T) {
	text := "package a\nversion 1\ndepends b\nfile bin/x\nfile z\npackage b\nversion 1\nfile z\nfile y\npackage c\nversion 1\nfile y\n"
	o := come(text, "root a", "")
	if o.Kind != api.IsGraph || o.Clash != "z" || len(o.Links) != 0 || len(o.Derivations) != 2 {
		t.Error(o)
	}
	if o := come(text, "root b", ""); o.Clash != "" || len(o.Links) != 2 || o.Links[0].File != "y" {
		t.Error(o)
	}
}

func TestExample10(t *testing.T) {
	text := "package app\nversion 1\ndepends zlib\ndepends other\npackage other\nversion 1\npackage zlib\nversion 1\n"
	paths := map[string]string{}
	for _, d := range come(text, "root app", "").Derivations {
		paths[d.Name] = d.Path
	}
	for _, d := range come(text+"version 2\n", "root app", "").Derivations {
		if (paths[d.Name] == d.Path) != (d.Name == "other") {
			t.Error(d)
		}
	}
}

func TestWrongTexts(t *testing.T) {
	good, bad := "package a\nversion 1\n", "packag a\n"
	for i, c := range []struct {
		recipe, request, lock string
		want                  api.Outcome
		report                string
	}{
		{bad, "rot", "x", api.Outcome{Kind: api.ParseError, In: 1, Err: api.ErrParse, At: api.Where{Line: 1, Col: 1}}, "parse 1 2 1 1\n"},
		{"package a\n\x00", "root a", "", api.Outcome{Kind: api.ParseError, In: 1, Err: api.ErrForm, At: api.Where{Line: 2, Col: 1}}, "parse 1 3 2 1\n"},
		{strings.Repeat("#", 65537), "", "", api.Outcome{Kind: api.ParseError, In: 1, Err: api.ErrLong}, "parse 1 4 0 0\n"},
		{good, "root a b", "x", api.Outcome{Kind: api.ParseError, In: 2, Err: api.ErrParse, At: api.Where{Line: 1, Col: 8}}, "parse 2 2 1 8\n"},
		{"package a\n", "", "lock 1", api.Outcome{Kind: api.ParseError, In: 3, Err: api.ErrParse, At: api.Where{Line: 2}}, "parse 3 2 2 0\n"},
		{"package a\n", "", "lock 1\n", api.Outcome{Kind: api.IllFormed, In: 1, Problem: api.Problem{Code: api.NoRelease, Line: 1}}, "form 1 4 1\n"},
		{good + "provides b\npackage b\nversion 1\n", "root a", "", api.Outcome{Kind: api.IllFormed, In: 1, Problem: api.Problem{Code: api.NameClash, Line: 4}}, "form 1 3 4\n"},
		{good, "# none", "lock 1\n", api.Outcome{Kind: api.IllFormed, In: 2, Problem: api.Problem{Code: api.NoRoot}}, "form 2 11 0\n"},
		{good, "\nroot z", "", api.Outcome{Kind: api.IllFormed, In: 2, Problem: api.Problem{Code: api.Unknown, Line: 2}}, "form 2 7 2\n"},
		{good, "root a", "lock 1\n", api.Outcome{Kind: api.StaleLock, Breach: api.Breach{Code: api.BreachRoot, Name: "a"}}, "stale 4 a\n"},
	} {
		o := come(c.recipe, c.request, c.lock)
		if !reflect.DeepEqual(o, c.want) || Report(o) != c.report {
			t.Errorf("%d: %+v %q", i, o, Report(o))
		}
	}
}

func TestLimits(t *testing.T) {
	text := "package a\nversion 1\nversion 2\ndepends b\npackage b\nversion 1\n"
	if o := Concretise(text, "root a", "", 5, great); !reflect.DeepEqual(o, api.Outcome{Kind: api.TooLarge}) || Report(o) != "large\n" {
		t.Error(o)
	}
	round := text + "depends a\n"
	if o := Concretise(round, "root a", "", great, -1); !reflect.DeepEqual(o, api.Outcome{Kind: api.OutOfBudget}) || Report(o) != "budget\n" {
		t.Error(o)
	}
	if o := Concretise(text, "root a", "lock 1\nnode a 1\n  needs b\nnode b 1\n", -1, -1); o.Kind != api.IsGraph {
		t.Error("a lock needs no search", o.Kind)
	}
}

func TestReport(t *testing.T) {
	for i, c := range []struct {
		o    api.Outcome
		want string
	}{
		{api.Outcome{}, ""}, {api.Outcome{Kind: 77, Clash: "x"}, ""},
		{api.Outcome{Kind: api.NoGraph, Rules: []api.Rule{{Line: 3}, {Line: 1}, {Line: 2}}}, "none 3 1 2\n"},
		{api.Outcome{Kind: api.NoGraph}, "none\n"},
		{api.Outcome{Kind: api.IsGraph, Cost: api.Cost{1, 2, 3, 4, 5, 6}}, "graph 1 2 3 4 5 6\n"},
		{api.Outcome{Kind: api.IsGraph, Derivations: []api.Derivation{{Path: "p"}, {Path: "q"}}, Links: []api.Link{{File: "f", Path: "q"}}}, "graph 0 0 0 0 0 0\n+ p\n+ q\n# f q\n"},
		{api.Outcome{Kind: api.IsGraph, Derivations: []api.Derivation{{Path: "p"}}, Clash: "f"}, "graph 0 0 0 0 0 0\n+ p\n! f\n"},
	} {
		if got := Report(c.o); got != c.want {
			t.Errorf("%d: %q", i, got)
		}
	}
	o := come("package a\nversion 1\nfile f\n", "root a", "")
	path := store.Path(api.Derivation{Name: "a", Version: "1"})
	if got := Report(o); got != "graph 0 0 0 0 0 1\n+ "+path+"\n# f "+path+"\n" {
		t.Error(got)
	}
}

// onlyOf tells whether of an outcome nothing but the fields of its kind are set.
func onlyOf(o api.Outcome) bool {
	bare := api.Outcome{Kind: o.Kind}
	switch o.Kind {
	case api.ParseError:
		bare.In, bare.Err, bare.At = o.In, o.Err, o.At
	case api.IllFormed:
		bare.In, bare.Problem = o.In, o.Problem
	case api.NoGraph:
		bare.Rules = o.Rules
	case api.IsGraph:
		bare.Graph, bare.Cost, bare.Lock, bare.Derivations, bare.Links, bare.Clash = o.Graph, o.Cost, o.Lock, o.Derivations, o.Links, o.Clash
	case api.StaleLock:
		bare.Breach = o.Breach
	}
	return o.Kind >= api.ParseError && o.Kind <= api.StaleLock && reflect.DeepEqual(o, bare)
}

// TestTheWhole throws recipes and requests: T1 to T5 hold of what they come to.
func TestTheWhole(t *testing.T) {
	kinds := map[uint8]int{}
	for seed := range 300 {
		d := testkit.New(seed)
		x := testkit.Recipe(d, 1+seed%5)
		q := testkit.Request(d, x)
		if testkit.Choices(x) > 5000 {
			continue
		}
		text, _ := print.Recipe(x)
		asked, _ := request.Text(q)
		x, _, _ = recipe.Parse(text)
		o := come(text, asked, "")
		kinds[o.Kind]++
		if !onlyOf(o) || !reflect.DeepEqual(o, come(text, asked, "")) {
			t.Fatal(seed, o)
		}
		graphs := testkit.Graphs(x, q, testkit.AllRules, false)
		switch o.Kind {
		case api.NoGraph:
			checkReason(t, x, q, o, graphs)
		case api.IsGraph:
			checkBest(t, x, q, o, graphs)
			checkLocks(t, text, asked, o, graphs)
		default:
			t.Fatal(seed, o)
		}
	}
	if kinds[api.NoGraph] < 30 || kinds[api.IsGraph] < 30 {
		t.Error("too few were tried", kinds)
	}
}

// checkReason: T2.
func checkReason(t *testing.T, x api.Recipe, q api.Request, o api.Outcome, graphs []api.Graph) {
	t.Helper()
	if len(graphs) != 0 {
		t.Fatal("there is one", testkit.Text(graphs[0]))
	}
	without := func(left int) int {
		counts := func(kind uint8, place, index int) bool {
			i := slices.IndexFunc(o.Rules, func(r api.Rule) bool { return r.Kind == kind && r.Package == place && r.Index == index })
			return i >= 0 && i != left
		}
		return len(testkit.Graphs(x, q, counts, false))
	}
	if without(-1) != 0 {
		t.Fatal("the rules admit one", o.Rules)
	}
	for i := range o.Rules {
		if without(i) == 0 {
			t.Fatal("a rule may be left out", o.Rules[i])
		}
	}
	f, _ := formula.Build(x, q, great)
	r, _ := core.Why(x, q, great, great)
	if rup.Check(f.Atoms(), r.Clauses, r.Proof) != -1 || !slices.Equal(r.Rules, o.Rules) {
		t.Fatal("there is no proof")
	}
}

// checkBest: T1, T3 and T4.
func checkBest(t *testing.T, x api.Recipe, q api.Request, o api.Outcome, graphs []api.Graph) {
	t.Helper()
	if graph.Check(x, q, o.Graph) != (api.Breach{}) || o.Cost != testkit.Cost(x, q, o.Graph) {
		t.Fatal(testkit.Text(o.Graph), o.Cost)
	}
	for _, g := range graphs {
		if cost.Compare(testkit.Cost(x, q, g), o.Cost) < 0 {
			t.Fatal(testkit.Text(g), "is better than", testkit.Text(o.Graph))
		}
	}
	if len(o.Derivations) != len(o.Graph.Nodes) || !store.Closed(o.Derivations) {
		t.Fatal(o.Derivations)
	}
	for i, d := range o.Derivations {
		for _, other := range o.Derivations[:i] {
			if d.Path == other.Path {
				t.Fatal(d, other)
			}
		}
	}
	files := map[string]int{}
	for _, n := range o.Graph.Nodes {
		for _, file := range x.Packages[check.Find(x, n.Name)].Files {
			files[file]++
		}
	}
	for file, count := range files {
		if count > 1 && o.Clash == "" || count == 1 && o.Clash == "" && !slices.ContainsFunc(o.Links, func(l api.Link) bool { return l.File == file }) {
			t.Fatal(file, o.Links, o.Clash)
		}
	}
}

// checkLocks: T5.
func checkLocks(t *testing.T, text, asked string, o api.Outcome, graphs []api.Graph) {
	t.Helper()
	if again := come(text, asked, o.Lock); !reflect.DeepEqual(again, o) {
		t.Fatal("its own lock comes to the same", again)
	}
	for _, g := range graphs[:min(len(graphs), 5)] {
		written, _ := lock.Write(g)
		if again := come(text, asked, written); again.Kind != api.IsGraph || !graph.Same(again.Graph, g) || again.Lock != written {
			t.Fatal(again)
		}
	}
	other := strings.Replace(o.Lock, "\nnode ", "\nnode a 77\nnode ", 1)
	if stale := come(text, asked, other); stale.Kind == api.IsGraph {
		t.Fatal(other)
	}
}

func TestWeighedByRanks(t *testing.T) {
	text := "package a\nversion 3\nversion 1\nversion 2\ndepends b@:2\npackage b\nversion 1\nversion 2\nversion 3\n"
	o := come(text, "root a@:2", "")
	x, _, _ := recipe.Parse(text)
	if o.Cost != (api.Cost{0, needs.Rank(x.Packages[0], "2"), 0, 0, needs.Rank(x.Packages[1], "2"), 2}) {
		t.Error(o.Cost)
	}
}
