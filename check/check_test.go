package check

import (
	"slices"
	"strconv"
	"testing"

	"cooper/api"
	"cooper/testkit"
)

// good is a recipe without a problem: a (1, 2; x), b and c, that provide v.
func good() api.Recipe {
	return api.Recipe{
		Packages: []api.Package{
			{
				Name: "a", Line: 1, Releases: []api.Release{{Version: "1"}, {Version: "2"}}, Variants: []api.Variant{{Name: "x", Values: []string{"on", "off"}}},
				Depends:   []api.Depend{{On: testkit.Wish("b", testkit.Set("y", "1")), When: testkit.Wish("", testkit.Set("x", "on")), Line: 2}, {On: testkit.Wish("v"), When: testkit.Wish(""), Line: 3}},
				Conflicts: []api.Conflict{{When: testkit.Wish("", testkit.Set("x", "off")), Line: 4}, {When: testkit.Wish(""), With: testkit.Wish("c"), Line: 5}},
				Files:     []string{"f"},
			},
			{Name: "b", Line: 6, Releases: []api.Release{{Version: "1"}}, Variants: []api.Variant{{Name: "y", Values: []string{"1", "2"}}}, Provides: []string{"v", "w"}, Files: []string{"f"}},
			{Name: "c", Line: 7, Releases: []api.Release{{Version: "1"}}, Provides: []string{"u", "v"}},
		},
		Prefers: []api.Prefer{{Virtual: "v", Names: []string{"c", "b"}, Line: 8}, {Virtual: "w", Line: 9}},
	}
}

func many(n int) []string {
	var out []string
	for i := range n {
		out = append(out, "n"+strconv.Itoa(i))
	}
	return out
}

func releases(n int) []api.Release {
	var out []api.Release
	for i := range n {
		out = append(out, api.Release{Version: strconv.Itoa(i)})
	}
	return out
}

func TestGoodRecipes(t *testing.T) {
	if p := Recipe(good()); p != (api.Problem{}) {
		t.Error(p)
	}
	if p := Recipe(api.Recipe{}); p != (api.Problem{}) {
		t.Error(p)
	}
	for seed := range 200 {
		d := testkit.New(seed)
		x := testkit.Recipe(d, 1+seed%8)
		if p := Recipe(x); p != (api.Problem{}) {
			t.Fatal(seed, p)
		}
		if p := Request(x, testkit.Request(d, x)); p != (api.Problem{}) {
			t.Fatal(seed, p)
		}
	}
}

func TestRecipe(t *testing.T) {
	for i, c := range []struct {
		change func(x *api.Recipe)
		want   api.Problem
	}{
		{func(x *api.Recipe) { x.Packages[2].Name = "b" }, api.Problem{Code: api.SameName, Line: 7}},
		{func(x *api.Recipe) { x.Packages[1].Provides[1] = "b" }, api.Problem{Code: api.NameClash, Line: 6}},
		{func(x *api.Recipe) { x.Packages[1].Provides[1] = "c" }, api.Problem{Code: api.NameClash, Line: 7}},
		{func(x *api.Recipe) { x.Packages[2].Provides[0] = "a" }, api.Problem{Code: api.NameClash, Line: 1}},
		{func(x *api.Recipe) { x.Packages[2].Provides[0] = "A" }, api.Problem{}},
		{func(x *api.Recipe) { x.Packages[1].Releases = nil }, api.Problem{Code: api.NoRelease, Line: 6}},
		{func(x *api.Recipe) { x.Packages[1].Releases = releases(11) }, api.Problem{Code: api.TooMany, Line: 6}},
		{func(x *api.Recipe) { x.Packages[1].Releases = releases(10) }, api.Problem{}},
		{func(x *api.Recipe) { x.Packages[0].Depends = slices.Repeat(x.Packages[0].Depends[:1], 17) }, api.Problem{Code: api.TooMany, Line: 1}},
		{func(x *api.Recipe) { x.Packages[0].Depends = slices.Repeat(x.Packages[0].Depends[:1], 16) }, api.Problem{}},
		{func(x *api.Recipe) { x.Packages[0].Conflicts = slices.Repeat(x.Packages[0].Conflicts[:1], 9) }, api.Problem{Code: api.TooMany, Line: 1}},
		{func(x *api.Recipe) { x.Packages[0].Conflicts = slices.Repeat(x.Packages[0].Conflicts[:1], 8) }, api.Problem{}},
		{func(x *api.Recipe) { x.Packages[0].Provides = many(5) }, api.Problem{Code: api.TooMany, Line: 1}},
		{func(x *api.Recipe) { x.Packages[0].Provides = many(4) }, api.Problem{}},
		{func(x *api.Recipe) { x.Packages[0].Files = many(9) }, api.Problem{Code: api.TooMany, Line: 1}},
		{func(x *api.Recipe) { x.Packages[0].Files = many(8) }, api.Problem{}},
		{func(x *api.Recipe) { x.Packages[0].Releases[1].Version = "1" }, api.Problem{Code: api.SameThing, Line: 1}},
		{func(x *api.Recipe) { x.Packages[0].Releases[1] = api.Release{Version: "1", Old: true} }, api.Problem{Code: api.SameThing, Line: 1}},
		{func(x *api.Recipe) { x.Packages[1].Variants[0].Values = nil }, api.Problem{Code: api.BadVariant, Line: 6}},
		{func(x *api.Recipe) { x.Packages[1].Variants = slices.Repeat(x.Packages[1].Variants, 2) }, api.Problem{Code: api.BadVariant, Line: 6}},
		{func(x *api.Recipe) { x.Packages[1].Provides = []string{"v", "w", "v"} }, api.Problem{Code: api.SameThing, Line: 6}},
		{func(x *api.Recipe) { x.Packages[1].Files = []string{"f", "g", "f"} }, api.Problem{Code: api.SameThing, Line: 6}},
		{func(x *api.Recipe) { x.Packages[0].Depends[0].On.Name = "z" }, api.Problem{Code: api.Unknown, Line: 2}},
		{func(x *api.Recipe) { x.Packages[0].Depends[0].On.Name = "" }, api.Problem{Code: api.Unknown, Line: 2}},
		{func(x *api.Recipe) { x.Packages[0].Depends[0].On.Settings[0].Value = "3" }, api.Problem{Code: api.BadSetting, Line: 2}},
		{func(x *api.Recipe) { x.Packages[0].Depends[0].On.Settings[0].Name = "x" }, api.Problem{Code: api.BadSetting, Line: 2}},
		{func(x *api.Recipe) { x.Packages[0].Depends[1].On.Spans = []api.Span{{Lo: "1"}} }, api.Problem{Code: api.BadVirtual, Line: 3}},
		{func(x *api.Recipe) { x.Packages[0].Depends[1].On.Spans = nil }, api.Problem{Code: api.BadVirtual, Line: 3}},
		{func(x *api.Recipe) { x.Packages[0].Depends[1].On.Settings = []api.Setting{testkit.Set("y", "1")} }, api.Problem{Code: api.BadVirtual, Line: 3}},
		{func(x *api.Recipe) {
			x.Packages[0].Depends[0].On.Name = "a"
			x.Packages[0].Depends[0].On.Settings = nil
		}, api.Problem{}},
		{func(x *api.Recipe) { x.Packages[0].Depends[0].When.Settings[0].Value = "1" }, api.Problem{Code: api.BadSetting, Line: 2}},
		{func(x *api.Recipe) { x.Packages[0].Depends[1].When.Settings = []api.Setting{testkit.Set("y", "1")} }, api.Problem{Code: api.BadSetting, Line: 3}},
		{func(x *api.Recipe) { x.Packages[0].Conflicts[0].When.Settings[0].Name = "y" }, api.Problem{Code: api.BadSetting, Line: 4}},
		{func(x *api.Recipe) { x.Packages[0].Conflicts[1].With.Name = "v" }, api.Problem{Code: api.Unknown, Line: 5}},
		{func(x *api.Recipe) { x.Packages[0].Conflicts[1].With.Name = "z" }, api.Problem{Code: api.Unknown, Line: 5}},
		{func(x *api.Recipe) { x.Packages[0].Conflicts[1].With.Settings = []api.Setting{testkit.Set("y", "1")} }, api.Problem{Code: api.BadSetting, Line: 5}},
		{func(x *api.Recipe) {
			x.Packages[0].Conflicts[1].With = api.Spec{Settings: []api.Setting{testkit.Set("q", "1")}}
		}, api.Problem{}},
		{func(x *api.Recipe) { x.Prefers[0].Virtual = "b" }, api.Problem{Code: api.BadPrefer, Line: 8}},
		{func(x *api.Recipe) { x.Prefers[0].Virtual = "a" }, api.Problem{Code: api.BadPrefer, Line: 8}},
		{func(x *api.Recipe) { x.Prefers[0].Virtual = "z" }, api.Problem{Code: api.BadPrefer, Line: 8}},
		{func(x *api.Recipe) { x.Prefers[1].Virtual = "v" }, api.Problem{Code: api.BadPrefer, Line: 9}},
		{func(x *api.Recipe) { x.Prefers[1].Names = []string{"c"} }, api.Problem{Code: api.BadPrefer, Line: 9}},
		{func(x *api.Recipe) { x.Prefers[1].Names = []string{"z"} }, api.Problem{Code: api.BadPrefer, Line: 9}},
		{func(x *api.Recipe) { x.Prefers[1].Names = []string{"b", "b"} }, api.Problem{Code: api.BadPrefer, Line: 9}},
	} {
		x := good()
		c.change(&x)
		if got := Recipe(x); got != c.want {
			t.Error(i, got, c.want)
		}
	}
}

func TestTooManyPackages(t *testing.T) {
	var x api.Recipe
	for i, name := range many(25) {
		x.Packages = append(x.Packages, api.Package{Name: name, Line: 10 + i, Releases: releases(1), Provides: []string{"v" + strconv.Itoa(i)}})
		if i < 9 {
			x.Prefers = append(x.Prefers, api.Prefer{Virtual: "v" + strconv.Itoa(i), Names: []string{name}, Line: 50 + i})
		}
	}
	if p := Recipe(x); p != (api.Problem{Code: api.TooMany, Line: 34}) {
		t.Error(p)
	}
	x.Packages = x.Packages[:24]
	x.Packages[0].Releases = nil
	if p := Recipe(x); p != (api.Problem{Code: api.TooMany, Line: 58}) {
		t.Error(p)
	}
	x.Packages[0].Releases = releases(1)
	x.Prefers = x.Prefers[:8]
	if p := Recipe(x); p != (api.Problem{}) {
		t.Error(p)
	}
}

// TestNameClash: which package of the recipe provides a package's name makes no difference, nor which one stands ahead.
func TestNameClash(t *testing.T) {
	one := releases(1)
	provider := func(name string, l ...string) api.Package {
		return api.Package{Name: name, Line: 20, Releases: one, Provides: l}
	}
	plain := func(name string, line int) api.Package {
		return api.Package{Name: name, Line: line, Releases: one}
	}
	empty := func(name string, line int) api.Package { return api.Package{Name: name, Line: line} }
	for i, c := range []struct {
		packages []api.Package
		want     api.Problem
	}{
		{[]api.Package{provider("a", "b"), plain("b", 4)}, api.Problem{Code: api.NameClash, Line: 4}},
		{[]api.Package{plain("b", 1), provider("a", "b")}, api.Problem{Code: api.NameClash, Line: 1}},
		{[]api.Package{provider("a", "a")}, api.Problem{Code: api.NameClash, Line: 20}},
		{[]api.Package{provider("a", "v", "w", "b"), plain("c", 2), plain("b", 3)}, api.Problem{Code: api.NameClash, Line: 3}},
		{[]api.Package{plain("b", 1), plain("c", 2), provider("a", "c", "b")}, api.Problem{Code: api.NameClash, Line: 1}},
		{[]api.Package{provider("a", "b"), empty("b", 4)}, api.Problem{Code: api.NameClash, Line: 4}},
		{[]api.Package{empty("c", 1), provider("a", "b"), plain("b", 4)}, api.Problem{Code: api.NoRelease, Line: 1}},
		{[]api.Package{provider("a", "b", "b"), plain("b", 4)}, api.Problem{Code: api.SameThing, Line: 20}},
		{[]api.Package{plain("b", 4), provider("a", "b", "b")}, api.Problem{Code: api.NameClash, Line: 4}},
		{[]api.Package{plain("c", 1), plain("c", 2), provider("a", "c")}, api.Problem{Code: api.NameClash, Line: 1}},
		{[]api.Package{plain("c", 1), plain("c", 2), provider("a", "d"), plain("d", 5)}, api.Problem{Code: api.SameName, Line: 2}},
		{[]api.Package{provider("a", "b"), provider("c", "b"), plain("d", 1)}, api.Problem{}},
	} {
		if got := Recipe(api.Recipe{Packages: c.packages}); got != c.want {
			t.Error(i, got, c.want)
		}
	}
}

// TestTheOrder gives a recipe all problems, and takes them away one by one.
func TestTheOrder(t *testing.T) {
	x := good()
	x.Packages[0].Depends[0].On.Name = "z"
	x.Prefers[0].Virtual = "z"
	p := &x.Packages[2]
	p.Name, p.Provides, p.Releases = "b", []string{"c", "v", "v"}, nil
	p.Files, p.Variants = many(9), []api.Variant{{Name: "X"}}
	for i, step := range []struct {
		mend func()
		want api.Problem
	}{
		{func() {}, api.Problem{Code: api.SameName, Line: 7}},
		{func() { p.Name = "c" }, api.Problem{Code: api.NameClash, Line: 7}},
		{func() { p.Provides[0] = "u" }, api.Problem{Code: api.NoRelease, Line: 7}},
		{func() { p.Releases = slices.Repeat(releases(1), 2) }, api.Problem{Code: api.TooMany, Line: 7}},
		{func() { p.Files = nil }, api.Problem{Code: api.SameThing, Line: 7}},
		{func() { p.Releases = releases(1) }, api.Problem{Code: api.BadVariant, Line: 7}},
		{func() { p.Variants = nil }, api.Problem{Code: api.SameThing, Line: 7}},
		{func() { p.Provides = []string{"v"} }, api.Problem{Code: api.Unknown, Line: 2}},
		{func() {
			x.Packages[0].Depends[0].On = testkit.Wish("b", testkit.Set("y", "3"))
			x.Packages[0].Depends[0].When = testkit.Wish("", testkit.Set("z", "3"))
		}, api.Problem{Code: api.BadSetting, Line: 2}},
		{func() {
			x.Packages[0].Depends[0].On = testkit.Wish("b")
			x.Packages[0].Conflicts[0].When = testkit.Wish("", testkit.Set("z", "1"))
		}, api.Problem{Code: api.BadSetting, Line: 2}},
		{func() { x.Packages[0].Depends[0].When = testkit.Wish("") }, api.Problem{Code: api.BadSetting, Line: 4}},
		{func() { x.Packages[0].Conflicts = nil }, api.Problem{Code: api.BadPrefer, Line: 8}},
	} {
		step.mend()
		if got := Recipe(x); got != step.want {
			t.Error(i, got, step.want)
		}
	}
}

func TestRequest(t *testing.T) {
	x := good()
	ask := func(l ...api.Spec) api.Request {
		var q api.Request
		for i, s := range l {
			q.Roots = append(q.Roots, api.Root{Spec: s, Line: 10 + i})
		}
		return q
	}
	nine := slices.Repeat([]api.Spec{testkit.Wish("a")}, 9)
	for i, c := range []struct {
		q    api.Request
		want api.Problem
	}{
		{ask(), api.Problem{Code: api.NoRoot}},
		{ask(nine...), api.Problem{Code: api.TooMany, Line: 18}},
		{ask(nine[:8]...), api.Problem{}},
		{ask(testkit.Wish("a", testkit.Set("x", "on")), testkit.Wish("v"), testkit.Wish("a")), api.Problem{}},
		{ask(testkit.Wish("a"), testkit.Wish("z")), api.Problem{Code: api.Unknown, Line: 11}},
		{ask(testkit.Wish("a", testkit.Set("x", "1"))), api.Problem{Code: api.BadSetting, Line: 10}},
		{ask(testkit.Wish("v", testkit.Set("x", "1"))), api.Problem{Code: api.BadVirtual, Line: 10}},
		{ask(api.Spec{Name: "a"}), api.Problem{}},
	} {
		if got := Request(x, c.q); got != c.want {
			t.Error(i, got, c.want)
		}
	}
}

func TestNames(t *testing.T) {
	x := good()
	x.Packages[2].Provides[0] = "a"
	x.Packages = append(x.Packages, api.Package{Name: "b", Provides: []string{"v", "v"}})
	if Find(x, "b") != 1 || Find(x, "z") != -1 || Find(api.Recipe{}, "") != -1 {
		t.Error("Find")
	}
	if l := Providers(x, "v"); !slices.Equal(l, []int{1, 2, 3}) {
		t.Error(l)
	}
	if l := Providers(x, "a"); !slices.Equal(l, []int{2}) || len(Providers(x, "b")) != 0 {
		t.Error(l)
	}
	if !Virtual(x, "v") || !Virtual(x, "w") || Virtual(x, "a") || Virtual(x, "z") || Virtual(x, "") {
		t.Error("Virtual")
	}
}
