package print

import (
	"reflect"
	"strings"
	"testing"

	"cooper/api"
	"cooper/recipe"
	"cooper/testkit"
)

const written = `package a
  version 2
  version 1.rc old
  variant x on off
  provides v
  provides w
  depends b@1: y=on when @2 x=on
  depends b
  conflicts * with b@:1
  conflicts x=off
  conflicts @2: x=on with b y=on
  file bin/a
package b
  version 1
  variant y on
prefer v a
prefer w a b
`

func TestRecipe(t *testing.T) {
	scrambled := "prefer v a # first\npackage a\n version 2\nfile bin/a\ndepends b@1: y=on when @2 x=on\nprovides v\nversion 1.rc old\nvariant x on off\nprefer w a b\n" +
		"conflicts * with b@:1\nprovides w\ndepends b when *\nconflicts x=off\nconflicts @2: x=on with b y=on\n\n\npackage b\nvariant y on\nversion 1"
	x, _, err := recipe.Parse(scrambled)
	if err != api.OK {
		t.Fatal(err)
	}
	if text, ok := Recipe(x); !ok || text != written {
		t.Errorf("%v\n%s", ok, text)
	}
	if text, ok := Recipe(api.Recipe{}); !ok || text != "" {
		t.Error("an empty recipe may be written")
	}
}

func TestThereAndBack(t *testing.T) {
	for seed := range 300 {
		x := testkit.Recipe(testkit.New(seed), 1+seed%6)
		text, ok := Recipe(x)
		if !ok {
			t.Fatal(seed, "may be written")
		}
		again, _, err := recipe.Parse(text)
		if err != api.OK || !Same(x, again) || !Same(again, x) {
			t.Fatal(seed, err)
		}
		if second, ok := Recipe(again); !ok || second != text {
			t.Fatal(seed)
		}
	}
}

// TestAsLongAsATextMayBe: what was read may be written, if that has no more than a text may have.
func TestAsLongAsATextMayBe(t *testing.T) {
	long := "package a\n" + strings.Repeat("file "+strings.Repeat("f", 58)+"\n", 1022)
	x, _, err := recipe.Parse(long)
	if err != api.OK {
		t.Fatal(err)
	}
	if text, ok := Recipe(x); ok || text != "" {
		t.Error("with the blanks ahead there is too much")
	}
	x.Packages[0].Files = x.Packages[0].Files[:900]
	if _, ok := Recipe(x); !ok {
		t.Error("may be written")
	}
}

func TestRecipesThatMayNotBeWritten(t *testing.T) {
	always := testkit.Always()
	b := api.Spec{Name: "b", Spans: testkit.All()}
	for name, p := range map[string]api.Package{
		"a name":                   {Name: "A"},
		"a name of two words":      {Name: "a b"},
		"a name and a line":        {Name: "a\npackage b"},
		"a sharp sign":             {Name: "a", Files: []string{"f#g"}},
		"a file of two words":      {Name: "a", Files: []string{"f g"}},
		"a long file":              {Name: "a", Files: []string{strings.Repeat("f", 61)}},
		"no file":                  {Name: "a", Files: []string{""}},
		"a version":                {Name: "a", Releases: []api.Release{{Version: "01"}}},
		"an old version as a text": {Name: "a", Releases: []api.Release{{Version: "1 old"}}},
		"a variant without values": {Name: "a", Variants: []api.Variant{{Name: "x"}}},
		"two values as one":        {Name: "a", Variants: []api.Variant{{Name: "x", Values: []string{"on off"}}}},
		"a condition with a name":  {Name: "a", Depends: []api.Depend{{On: b, When: b}}},
		"a condition of none":      {Name: "a", Depends: []api.Depend{{On: b}}},
		"a wish without a name":    {Name: "a", Depends: []api.Depend{{On: always, When: always}}},
		"a set not in its form":    {Name: "a", Depends: []api.Depend{{On: api.Spec{Name: "b", Spans: []api.Span{{Lo: "1", Hi: "2"}, {Lo: "2"}}}, When: always}}},
		"a set of none":            {Name: "a", Depends: []api.Depend{{On: api.Spec{Name: "b"}, When: always}}},
		"settings that fall":       {Name: "a", Depends: []api.Depend{{On: api.Spec{Name: "b", Spans: testkit.All(), Settings: []api.Setting{testkit.Set("y", "1"), testkit.Set("x", "1")}}, When: always}}},
		"with without a name":      {Name: "a", Conflicts: []api.Conflict{{When: always, With: always}}},
		"too many words":           {Name: "a", Variants: []api.Variant{{Name: "x", Values: strings.Fields(strings.Repeat("on ", 39))}}},
	} {
		if text, ok := Recipe(api.Recipe{Packages: []api.Package{p}}); ok || text != "" {
			t.Errorf("%s: %q", name, text)
		}
	}
	for _, p := range []api.Prefer{{Virtual: "v"}, {Virtual: "V", Names: []string{"a"}}, {Virtual: "v", Names: []string{"a", ""}}} {
		if text, ok := Recipe(api.Recipe{Prefers: []api.Prefer{p}}); ok || text != "" {
			t.Error(p, text)
		}
	}
}

func TestWish(t *testing.T) {
	for want, s := range map[string]api.Spec{
		"a":               {Name: "a", Spans: testkit.All()},
		"a@1:2,5 x=1 y=2": {Name: "a", Spans: []api.Span{{Lo: "1", Hi: "2"}, {Lo: "5", Hi: "5"}}, Settings: []api.Setting{testkit.Set("x", "1"), testkit.Set("y", "2")}},
		"a@:2":            {Name: "a", Spans: []api.Span{{Hi: "2"}}},
	} {
		if text, ok := Wish(s); !ok || text != want {
			t.Errorf("%q, want %q", text, want)
		}
	}
	for _, s := range []api.Spec{
		{}, {Name: "a"}, {Spans: testkit.All()}, {Name: "a\n", Spans: testkit.All()}, {Name: "a#", Spans: testkit.All()}, {Name: "a b=1", Spans: testkit.All()},
		{Name: "a@1", Spans: testkit.All()}, {Name: "a", Spans: []api.Span{{Lo: "2", Hi: "1"}}}, {Name: "a", Spans: testkit.All(), Settings: []api.Setting{testkit.Set("x", "1 y=2")}},
		{Name: "a", Spans: testkit.All(), Settings: []api.Setting{testkit.Set("x", "")}}, {Name: "a", Spans: []api.Span{{}, {}}},
	} {
		if text, ok := Wish(s); ok || text != "" {
			t.Errorf("%v: %q", s, text)
		}
	}
}

func TestCondition(t *testing.T) {
	for want, s := range map[string]api.Spec{
		"*":        {Spans: testkit.All()},
		"@1: x=on": {Spans: []api.Span{{Lo: "1"}}, Settings: []api.Setting{testkit.Set("x", "on")}},
		"x=on":     {Spans: testkit.All(), Settings: []api.Setting{testkit.Set("x", "on")}},
		"@1":       {Spans: []api.Span{{Lo: "1", Hi: "1"}}},
	} {
		if text, ok := Condition(s); !ok || text != want {
			t.Errorf("%q, want %q", text, want)
		}
	}
	for _, s := range []api.Spec{{}, {Name: "a", Spans: testkit.All()}, {Spans: []api.Span{{Lo: "!"}}}, {Spans: testkit.All(), Settings: []api.Setting{testkit.Set("X", "1")}}} {
		if text, ok := Condition(s); ok || text != "" {
			t.Errorf("%v: %q", s, text)
		}
	}
}

func TestSame(t *testing.T) {
	x, _, _ := recipe.Parse(written)
	y, _, _ := recipe.Parse("\n\n" + written)
	if !Same(x, y) || reflect.DeepEqual(x, y) {
		t.Error("lines play no part")
	}
	changes := []func(*api.Recipe){
		func(z *api.Recipe) { z.Packages = z.Packages[:1] },
		func(z *api.Recipe) { z.Prefers = nil },
		func(z *api.Recipe) { z.Prefers[1].Names[0] = "b" },
		func(z *api.Recipe) { z.Prefers[1].Virtual = "b" },
		func(z *api.Recipe) { z.Packages[0].Name = "c" },
		func(z *api.Recipe) { z.Packages[0].Releases[0].Old = true },
		func(z *api.Recipe) { z.Packages[0].Releases[0].Version = "3" },
		func(z *api.Recipe) { z.Packages[0].Variants[0].Name = "z" },
		func(z *api.Recipe) { z.Packages[0].Variants[0].Values[1] = "z" },
		func(z *api.Recipe) { z.Packages[0].Provides[0] = "z" },
		func(z *api.Recipe) { z.Packages[0].Depends[0].On.Name = "a" },
		func(z *api.Recipe) { z.Packages[0].Depends[0].When.Spans[0].Lo = "" },
		func(z *api.Recipe) { z.Packages[0].Conflicts[0].With.Spans[0].Hi = "2" },
		func(z *api.Recipe) { z.Packages[0].Conflicts[1].When.Settings[0].Value = "on" },
		func(z *api.Recipe) { z.Packages[0].Files[0] = "bin/b" },
	}
	for i, change := range changes {
		z, _, _ := recipe.Parse(written)
		change(&z)
		if Same(x, z) || Same(z, x) {
			t.Error(i)
		}
	}
}

func TestSameSpec(t *testing.T) {
	a := api.Spec{Name: "a", Spans: testkit.All(), Settings: []api.Setting{testkit.Set("x", "1")}}
	if !SameSpec(a, a) || !SameSpec(api.Spec{}, api.Spec{Spans: []api.Span{}, Settings: []api.Setting{}}) || SameSpec(a, api.Spec{}) || SameSpec(a, api.Spec{Name: "a", Spans: testkit.All()}) {
		t.Error("wishes are the same, if name, versions and settings are")
	}
}
