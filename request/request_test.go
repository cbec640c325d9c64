package request

import (
	"reflect"
	"strconv"
	"strings"
	"testing"

	"cooper/api"
	"cooper/testkit"
)

func TestParse(t *testing.T) {
	want := api.Request{Roots: []api.Root{
		{Spec: api.Spec{Name: "a", Spans: []api.Span{{Lo: "1"}}, Settings: []api.Setting{testkit.Set("x", "on")}}, Line: 2},
		{Spec: api.Spec{Name: "root", Spans: testkit.All()}, Line: 4},
		{Spec: api.Spec{Name: "a", Spans: testkit.All()}, Line: 5},
	}}
	q, where, err := Parse("# asked for\n root a@1: x=on\n\nroot root # again\nroot a")
	if err != api.OK || where != (api.Where{}) || !reflect.DeepEqual(q, want) {
		t.Error(q, where, err)
	}
	if q, _, err := Parse(""); err != api.OK || len(q.Roots) != 0 {
		t.Error("an empty text asks for nothing")
	}
}

func TestWrongTexts(t *testing.T) {
	for line, col := range map[string]int{
		"a": 1, " Root a": 2, "root": 5, "root  ": 5, "root A": 6, "root a@": 6, "root a b": 8, "root a x=1 b": 12, "root a when *": 8, "root a x=1 x=1": 12, "root x=1": 6, "root @1": 6, "root *": 6,
	} {
		q, where, err := Parse("root b\n" + line + "\n!")
		if err != api.ErrParse || where != (api.Where{Line: 2, Col: col}) || len(q.Roots) != 0 {
			t.Error(line, q, where, err)
		}
	}
	if _, where, err := Parse("a\n\x00"); err != api.ErrForm || where != (api.Where{Line: 2, Col: 1}) {
		t.Error("the error of layer 5 is the first one", where, err)
	}
	if _, where, err := Parse(strings.Repeat("#", 65537)); err != api.ErrLong || where != (api.Where{}) {
		t.Error(where, err)
	}
}

func TestText(t *testing.T) {
	q, _, _ := Parse("  root   a@1: x=on\n\nroot b")
	if text, ok := Text(q); !ok || text != "root a@1: x=on\nroot b\n" {
		t.Errorf("%q", text)
	}
	if text, ok := Text(api.Request{}); !ok || text != "" {
		t.Error("of no roots the text is empty")
	}
	for _, s := range []api.Spec{{}, {Name: "a"}, {Spans: testkit.All()}, {Name: "a\nroot b", Spans: testkit.All()}} {
		if text, ok := Text(api.Request{Roots: append(q.Roots[:1:1], api.Root{Spec: s})}); ok || text != "" {
			t.Errorf("%v: %q", s, text)
		}
	}
}

func TestMoreThanATextMayHave(t *testing.T) {
	a := api.Root{Spec: api.Spec{Name: "a", Spans: testkit.All()}}
	var q api.Request
	for range 2000 {
		q.Roots = append(q.Roots, a)
	}
	if _, ok := Text(q); !ok {
		t.Error("2000 lines may be")
	}
	q.Roots = append(q.Roots, a)
	if text, ok := Text(q); ok || text != "" {
		t.Error("2001 lines may not be")
	}
	wide := api.Root{Spec: api.Spec{Name: "a", Spans: testkit.All()}}
	for i := range 38 {
		wide.Spec.Settings = append(wide.Spec.Settings, testkit.Set("x"+strconv.Itoa(10+i), "1"))
	}
	if _, ok := Text(api.Request{Roots: []api.Root{wide}}); !ok {
		t.Error("40 words may be")
	}
	wide.Spec.Settings = append(wide.Spec.Settings, testkit.Set("y", "1"))
	if text, ok := Text(api.Request{Roots: []api.Root{wide}}); ok || text != "" {
		t.Error("41 words may not be")
	}
	var long api.Request
	wide.Spec.Settings = nil
	for i := range 38 {
		wide.Spec.Settings = append(wide.Spec.Settings, testkit.Set(strings.Repeat("x", 20)+strconv.Itoa(10+i), "1"))
	}
	for range 80 {
		long.Roots = append(long.Roots, wide)
	}
	if text, ok := Text(long); ok || text != "" {
		t.Error("more than 65536 bytes may not be")
	}
}

func TestThereAndBack(t *testing.T) {
	for seed := range 300 {
		d := testkit.New(seed)
		q := testkit.Request(d, testkit.Recipe(d, 5))
		text, ok := Text(q)
		again, _, err := Parse(text)
		if !ok || err != api.OK || !Same(q, again) {
			t.Fatal(q, text, err)
		}
	}
}

func TestSame(t *testing.T) {
	q, _, _ := Parse("root a x=1\nroot b")
	r, _, _ := Parse("\nroot a x=1\nroot b")
	if !Same(q, r) || !Same(api.Request{}, api.Request{Roots: []api.Root{}}) {
		t.Error("lines play no part")
	}
	for _, text := range []string{"", "root a x=1", "root b\nroot a x=1", "root a x=2\nroot b", "root a x=1\nroot b@1"} {
		if r, _, _ := Parse(text); Same(q, r) {
			t.Error(text)
		}
	}
}
