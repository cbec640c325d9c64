package recipe

import (
	"math/rand"
	"reflect"
	"strings"
	"testing"

	"cooper/api"
	"cooper/lex"
)

const whole = `# a recipe
prefer mpi one two   # ahead of all packages
package zlib
  version 1.2
  version 1.rc old
package a-1
  version 3
  variant ssl on off
  variant bits 32 64
  provides mpi
  provides web
prefer web a-1
  depends zlib@1:,a shared=on when @:2,5 ssl=on
  depends zlib
  depends b when ssl=off
  depends c x=1 y=2 when *
  conflicts * with zlib@1.2
  conflicts bits=32
  conflicts @3 bits=32 ssl=on with web
  file bin/a
`

func all() []api.Span { return []api.Span{{}} }

func set(name, value string) api.Setting { return api.Setting{Name: name, Value: value} }

func wholeRecipe() api.Recipe {
	always := api.Spec{Spans: all()}
	return api.Recipe{
		Packages: []api.Package{
			{Name: "zlib", Line: 3, Releases: []api.Release{{Version: "1.2"}, {Version: "1.rc", Old: true}}},
			{
				Name: "a-1", Line: 6, Releases: []api.Release{{Version: "3"}},
				Variants: []api.Variant{{Name: "ssl", Values: []string{"on", "off"}}, {Name: "bits", Values: []string{"32", "64"}}},
				Provides: []string{"mpi", "web"},
				Depends: []api.Depend{
					{
						On:   api.Spec{Name: "zlib", Spans: []api.Span{{Lo: "a", Hi: "a"}, {Lo: "1"}}, Settings: []api.Setting{set("shared", "on")}},
						When: api.Spec{Spans: []api.Span{{Hi: "2"}, {Lo: "5", Hi: "5"}}, Settings: []api.Setting{set("ssl", "on")}}, Line: 13,
					},
					{On: api.Spec{Name: "zlib", Spans: all()}, When: always, Line: 14},
					{On: api.Spec{Name: "b", Spans: all()}, When: api.Spec{Spans: all(), Settings: []api.Setting{set("ssl", "off")}}, Line: 15},
					{On: api.Spec{Name: "c", Spans: all(), Settings: []api.Setting{set("x", "1"), set("y", "2")}}, When: always, Line: 16},
				},
				Conflicts: []api.Conflict{
					{When: always, With: api.Spec{Name: "zlib", Spans: []api.Span{{Lo: "1.2", Hi: "1.2"}}}, Line: 17},
					{When: api.Spec{Spans: all(), Settings: []api.Setting{set("bits", "32")}}, Line: 18},
					{
						When: api.Spec{Spans: []api.Span{{Lo: "3", Hi: "3"}}, Settings: []api.Setting{set("bits", "32"), set("ssl", "on")}},
						With: api.Spec{Name: "web", Spans: all()}, Line: 19,
					},
				},
				Files: []string{"bin/a"},
			},
		},
		Prefers: []api.Prefer{{Virtual: "mpi", Names: []string{"one", "two"}, Line: 2}, {Virtual: "web", Names: []string{"a-1"}, Line: 12}},
	}
}

func TestParse(t *testing.T) {
	text := strings.Replace(whole, "zlib@1:,a", "zlib@a,1:", 1)
	x, where, err := Parse(text)
	if err != api.OK || where != (api.Where{}) || !reflect.DeepEqual(x, wholeRecipe()) {
		t.Errorf("%+v %v %v", x, where, err)
	}
	if _, where, err := Parse(whole); err != api.ErrParse || where != (api.Where{Line: 13, Col: 11}) {
		t.Error("a set that isn't in its form is wrong", where, err)
	}
	if x, _, err := Parse(" # nothing\n"); err != api.OK || len(x.Packages) != 0 || len(x.Prefers) != 0 {
		t.Error("an empty text is an empty recipe")
	}
}

func TestWhatIsWrongInALine(t *testing.T) {
	long := strings.Repeat("p", 61)
	for line, col := range map[string]int{
		"frob":                             1,
		"package":                          8,
		" package  ":                       9,
		"package A":                        9,
		"package b c":                      11,
		"version":                          8,
		"version 01":                       9,
		"version 1 new":                    11,
		"version 1 old old":                15,
		"variant x":                        10,
		"variant X on":                     9,
		"variant x on 1000":                14,
		"variant x on off=1":               14,
		"provides":                         9,
		"provides a b":                     12,
		"provides 1":                       10,
		"depends":                          8,
		"depends B":                        9,
		"depends b@":                       9,
		"depends b@:":                      9,
		"depends b@!":                      9,
		"depends b@2:1":                    9,
		"depends b@1@2":                    9,
		"depends @1":                       9,
		"depends x=1":                      9,
		"depends b x=":                     11,
		"depends b x=1000":                 11,
		"depends b =1":                     11,
		"depends b x=1=2":                  11,
		"depends b x=1 x=2":                15,
		"depends b y=1 x=2":                15,
		"depends b c":                      11,
		"depends b x=1 c":                  15,
		"depends b when":                   15,
		"depends b when  c":                17,
		"depends b when @":                 16,
		"depends b when @: x=1":            16,
		"depends b when @!":                16,
		"depends b when @1 @2":             19,
		"depends b when * x=1":             18,
		"depends b when x=1 *":             20,
		"depends b when @1 when *":         19,
		"depends b with *":                 11,
		"conflicts":                        10,
		"conflicts with b":                 11,
		"conflicts b":                      11,
		"conflicts * with":                 17,
		"conflicts * with B":               18,
		"conflicts * with b when *":        20,
		"conflicts @1 y=1 x=1":             18,
		"file":                             5,
		"file a b":                         8,
		"file " + long:                     6,
		"prefer":                           7,
		"prefer b":                         9,
		"prefer b c D":                     12,
		"prefer b c=d":                     10,
		"Package b":                        1,
		"depends b when @1:2 ssl=on tls=x": 0,
		"prefer b c c":                     0,
		"variant x on on on on on on":      0,
		"file " + long[1:]:                 0,
		"version 1 old":                    0,
	} {
		x, where, err := Parse("package a\n\n" + line + "\n!\n")
		want := api.Where{Line: 3, Col: col}
		if col == 0 {
			want = api.Where{Line: 4, Col: 1}
		}
		if err != api.ErrParse || where != want || !reflect.DeepEqual(x, api.Recipe{}) {
			t.Errorf("%q: %v %v", line, where, err)
		}
	}
}

func TestLinesAheadOfAllPackages(t *testing.T) {
	for _, line := range []string{"version 1", "variant x on", "provides b", "depends b", "conflicts *", "file f"} {
		if _, where, err := Parse("prefer b c\n  " + line); err != api.ErrParse || where != (api.Where{Line: 2, Col: 3}) {
			t.Error(line, where, err)
		}
	}
}

func TestErrorsOfLayer5(t *testing.T) {
	if _, where, err := Parse("frob\n\n a\t"); err != api.ErrForm || where != (api.Where{Line: 3, Col: 3}) {
		t.Error(where, err)
	}
	if _, where, err := Parse(strings.Repeat("x", 65537)); err != api.ErrLong || where != (api.Where{}) {
		t.Error(where, err)
	}
}

func words(t *testing.T, text string) []api.Word {
	t.Helper()
	l, _, err := lex.Lines(text)
	if err != api.OK || len(l) > 1 {
		t.Fatal(text)
	}
	if len(l) == 0 {
		return nil
	}
	return l[0].Words
}

func TestWish(t *testing.T) {
	for _, c := range []struct {
		text   string
		count  int
		col    int
		spec   api.Spec
		reason string
	}{
		{"a", 1, 0, api.Spec{Name: "a", Spans: all()}, "a name alone"},
		{"a@1 x=1 y=on when z=1", 3, 0, api.Spec{Name: "a", Spans: []api.Span{{Lo: "1", Hi: "1"}}, Settings: []api.Setting{set("x", "1"), set("y", "on")}}, "up to the word without an equals sign"},
		{"", 0, 99, api.Spec{}, "a word is missing"},
		{"a x=1 x=2", 0, 7, api.Spec{}, "names rise"},
		{"a@!", 0, 1, api.Spec{}, "none isn't written"},
	} {
		s, count, col := Wish(words(t, c.text), 99)
		if !reflect.DeepEqual(s, c.spec) || count != c.count || col != c.col {
			t.Errorf("%q (%s): %v %d %d", c.text, c.reason, s, count, col)
		}
	}
}

func TestCondition(t *testing.T) {
	for _, c := range []struct {
		text   string
		count  int
		col    int
		spec   api.Spec
		reason string
	}{
		{"*", 1, 0, api.Spec{Spans: all()}, "a star"},
		{"@1: with b", 1, 0, api.Spec{Spans: []api.Span{{Lo: "1"}}}, "versions alone"},
		{"@1: x=1 with b", 2, 0, api.Spec{Spans: []api.Span{{Lo: "1"}}, Settings: []api.Setting{set("x", "1")}}, "both"},
		{"x=1", 1, 0, api.Spec{Spans: all(), Settings: []api.Setting{set("x", "1")}}, "settings alone"},
		{"", 0, 99, api.Spec{}, "a word is missing"},
		{"  with b", 0, 3, api.Spec{}, "one word at least"},
		{"@1 x=1 a=1", 0, 8, api.Spec{}, "names rise"},
		{"@", 0, 1, api.Spec{}, "no set"},
	} {
		s, count, col := Condition(words(t, c.text), 99)
		if !reflect.DeepEqual(s, c.spec) || count != c.count || col != c.col {
			t.Errorf("%q (%s): %v %d %d", c.text, c.reason, s, count, col)
		}
	}
}

// TestAnyBytes looks for calls that don't end, or panic.
func TestAnyBytes(t *testing.T) {
	r := rand.New(rand.NewSource(6))
	pieces := []string{"package", "version", "variant", "provides", "depends", "conflicts", "file", "prefer", "when", "with", "*", "a", "b@1", "@1", "x=1", "1", "old", "\n", "\n", "#", "\x00", "="}
	for range 5000 {
		var b strings.Builder
		for range r.Intn(20) {
			b.WriteString(pieces[r.Intn(len(pieces))])
			if r.Intn(4) > 0 {
				b.WriteByte(' ')
			}
		}
		x, where, err := Parse(b.String())
		if err != api.OK && (!reflect.DeepEqual(x, api.Recipe{}) || where.Line < 1 || where.Col < 1) {
			t.Fatalf("%q: %v %v %v", b.String(), x, where, err)
		}
	}
	for _, col := range []int{-1, 0, 1 << 62} {
		Wish([]api.Word{{Col: col, Text: ""}, {Col: col, Text: "="}}, col)
		Condition([]api.Word{{Col: col, Text: "\xff="}}, col)
	}
}
