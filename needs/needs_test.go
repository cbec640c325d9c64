package needs

import (
	"slices"
	"testing"

	"cooper/api"
	"cooper/testkit"
)

func on(names ...string) []api.Depend {
	var out []api.Depend
	for _, name := range names {
		out = append(out, api.Depend{On: api.Spec{Name: name, Spans: testkit.All()}, When: api.Spec{Spans: []api.Span{{Lo: "9"}}}})
	}
	return out
}

func recipe() api.Recipe {
	return api.Recipe{
		Packages: []api.Package{
			{Name: "f", Provides: []string{"v", "a"}},
			{Name: "e", Depends: on("e", "w"), Provides: []string{"v"}},
			{Name: "a", Depends: on("d", "c", "d"), Conflicts: []api.Conflict{{With: api.Spec{Name: "f"}}}},
			{Name: "c", Depends: on("a")},
			{Name: "d", Depends: on("u")},
			{Name: "b", Depends: on("v", "nothing")},
			{Name: "g", Provides: []string{"w", "u"}},
			{Name: "e", Depends: on("b")},
		},
		Prefers: []api.Prefer{{Virtual: "v", Names: []string{"e", "z", "f"}}, {Virtual: "w", Names: []string{"z"}}, {Virtual: "v", Names: []string{"f"}}, {Virtual: "u"}},
	}
}

func TestClosure(t *testing.T) {
	x := recipe()
	for _, c := range []struct {
		names []string
		want  []int
	}{
		{nil, nil}, {[]string{"nothing", ""}, nil}, {[]string{"f"}, []int{0}}, {[]string{"a"}, []int{2, 3, 4, 6}}, {[]string{"v"}, []int{0, 1, 6}},
		{[]string{"b"}, []int{0, 1, 5, 6}}, {[]string{"w", "f"}, []int{0, 6}}, {[]string{"e"}, []int{1, 6}},
	} {
		if got := Closure(x, testkit.AskFor(c.names...)); !slices.Equal(got, c.want) {
			t.Error(c.names, got, c.want)
		}
	}
}

func TestNames(t *testing.T) {
	x := recipe()
	for _, c := range []struct{ names, want []string }{
		{nil, nil}, {[]string{"nothing"}, nil}, {[]string{"v"}, []string{"v", "w"}}, {[]string{"a"}, []string{"u"}}, {[]string{"b", "a"}, []string{"u", "v", "w"}}, {[]string{"g", "f", "c"}, []string{"u"}}, {[]string{"w", "w"}, []string{"w"}},
	} {
		if got := Names(x, testkit.AskFor(c.names...)); !slices.Equal(got, c.want) {
			t.Error(c.names, got, c.want)
		}
	}
}

func TestClosed(t *testing.T) {
	for seed := range 300 {
		d := testkit.New(seed)
		x := testkit.Recipe(d, 1+seed%8)
		q := testkit.Request(d, x)
		l := Closure(x, q)
		if !slices.IsSorted(l) || len(slices.Compact(slices.Clone(l))) != len(l) {
			t.Fatal(l)
		}
		for _, r := range q.Roots {
			checkNeeded(t, x, q, l, r.Spec.Name)
		}
		for _, p := range l {
			for _, d := range x.Packages[p].Depends {
				checkNeeded(t, x, q, l, d.On.Name)
			}
		}
	}
}

// checkNeeded: what a name may be is in the closure, and a virtual name among the names.
func checkNeeded(t *testing.T, x api.Recipe, q api.Request, closure []int, name string) {
	t.Helper()
	targets := Targets(x, name)
	for _, p := range targets {
		if !slices.Contains(closure, p) {
			t.Fatal(name, "isn't in", closure)
		}
	}
	if virtual := len(targets) > 0 && x.Packages[targets[0]].Name != name; virtual != slices.Contains(Names(x, q), name) {
		t.Fatal(name, Names(x, q))
	}
}

func TestRank(t *testing.T) {
	p := api.Package{Releases: []api.Release{{Version: "1"}, {Version: "3"}, {Version: "2.rc"}, {Version: "2", Old: true}}}
	for v, want := range map[string]int{"3": 0, "2": 1, "2.rc": 2, "1": 3, "4": -1, "": -1, "2.0": -1} {
		if got := Rank(p, v); got != want {
			t.Error(v, got)
		}
	}
	if Rank(api.Package{}, "1") != -1 {
		t.Error("no releases")
	}
}

func TestPrefer(t *testing.T) {
	x := recipe()
	for _, c := range []struct {
		virtual, name string
		want          int
	}{
		{"v", "e", 0}, {"v", "f", 2}, {"v", "a", 3}, {"w", "g", 1}, {"w", "z", 0}, {"u", "g", 0}, {"nothing", "a", 0},
	} {
		if got := Prefer(x, c.virtual, c.name); got != c.want {
			t.Error(c, got)
		}
	}
}

func TestTargets(t *testing.T) {
	x := recipe()
	for name, want := range map[string][]int{"a": {2}, "e": {1}, "v": {0, 1}, "w": {6}, "nothing": nil, "": nil} {
		if got := Targets(x, name); !slices.Equal(got, want) {
			t.Error(name, got)
		}
	}
}
