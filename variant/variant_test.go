package variant

import (
	"slices"
	"strings"
	"testing"

	"cooper/api"
)

func is(name string, values ...string) api.Variant { return api.Variant{Name: name, Values: values} }

func set(name, value string) api.Setting { return api.Setting{Name: name, Value: value} }

func TestName(t *testing.T) {
	for _, s := range []string{"a", "z", "a1", "a-", "a-b--c9", strings.Repeat("a", 24)} {
		if !Name(s) || !Value(s) {
			t.Errorf("%q is a name", s)
		}
	}
	for _, s := range []string{"", "A", "1a", "-a", "a_b", "a b", "aB", "a\n", "é", "a.b", "a=b", strings.Repeat("a", 25)} {
		if Name(s) || Value(s) {
			t.Errorf("%q is no name", s)
		}
	}
}

func TestValue(t *testing.T) {
	for _, s := range []string{"0", "7", "12", "999", "000", "01"} {
		if !Value(s) || Name(s) {
			t.Errorf("%q is a value", s)
		}
	}
	for _, s := range []string{"1000", "-1", "+1", "1.0", "1a", "", " 1"} {
		if Value(s) {
			t.Errorf("%q is no value", s)
		}
	}
}

func TestMay(t *testing.T) {
	for _, l := range [][]api.Variant{
		nil, {is("x", "on")}, {is("x", "on", "off", "1", "2"), is("a", "on")}, {is("a", "1"), is("b", "1"), is("c", "1"), is("d", "1")},
	} {
		if !May(l) {
			t.Error(l)
		}
	}
	for _, l := range [][]api.Variant{
		{is("x")}, {is("X", "on")}, {is("", "on")}, {is("x", "on", "on")}, {is("x", "On")}, {is("x", "")}, {is("x", "1", "2", "3", "4", "5")},
		{is("x", "on"), is("x", "off")}, {is("a", "1"), is("b", "1"), is("c", "1"), is("d", "1"), is("e", "1")},
	} {
		if May(l) || len(All(l)) != 0 {
			t.Error(l)
		}
	}
}

func TestUsualAndLegal(t *testing.T) {
	l := []api.Variant{is("x", "on", "off"), is("y", "1", "2")}
	u := Usual(l)
	if !slices.Equal(u, []api.Setting{set("x", "on"), set("y", "1")}) || !Legal(l, u) {
		t.Error(u)
	}
	if u := Usual([]api.Variant{is("x"), is("y", "2")}); !slices.Equal(u, []api.Setting{set("y", "2")}) {
		t.Error(u)
	}
	if !Legal(nil, nil) || !Legal(l, []api.Setting{set("x", "off"), set("y", "2")}) {
		t.Error("legal settings")
	}
	for _, s := range [][]api.Setting{
		nil, {set("x", "on")}, {set("y", "1"), set("x", "on")}, {set("x", "on"), set("y", "3")}, {set("x", "on"), set("y", "1"), set("y", "1")}, {set("x", "on"), set("z", "1")},
	} {
		if Legal(l, s) {
			t.Error(s)
		}
	}
}

func TestWish(t *testing.T) {
	for _, s := range [][]api.Setting{nil, {set("x", "on")}, {set("a", "1"), set("b", "1"), set("c", "x")}} {
		if !Wish(s) {
			t.Error(s)
		}
	}
	for _, s := range [][]api.Setting{{set("b", "1"), set("a", "1")}, {set("a", "1"), set("a", "1")}, {set("a", "")}, {set("", "a")}, {set("1", "a")}, {set("a", "1000")}} {
		if Wish(s) {
			t.Error(s)
		}
	}
}

func TestMeets(t *testing.T) {
	s := []api.Setting{set("y", "1"), set("x", "on")}
	if !Meets(s, nil) || !Meets(s, []api.Setting{set("x", "on")}) || !Meets(s, s) || !Meets(nil, nil) {
		t.Error("met")
	}
	if Meets(s, []api.Setting{set("x", "off")}) || Meets(s, []api.Setting{set("x", "on"), set("z", "on")}) || Meets(nil, s) {
		t.Error("not met")
	}
}

// wishes are all wishes over two names with two values, and none.
func wishes() [][]api.Setting {
	out := [][]api.Setting{nil}
	for _, x := range []string{"on", "off"} {
		out = append(out, []api.Setting{set("x", x)}, []api.Setting{set("y", x)})
		for _, y := range []string{"on", "off"} {
			out = append(out, []api.Setting{set("x", x), set("y", y)})
		}
	}
	return out
}

func TestBoth(t *testing.T) {
	all := All([]api.Variant{is("x", "on", "off"), is("y", "on", "off")})
	for _, a := range wishes() {
		for _, b := range wishes() {
			both, ok := Both(a, b)
			if !Wish(both) || !ok && len(both) != 0 {
				t.Fatal(a, b, both)
			}
			for _, s := range all {
				if (ok && Meets(s, both)) != (Meets(s, a) && Meets(s, b)) {
					t.Fatal(a, b, both, s)
				}
			}
		}
	}
	a, b := []api.Setting{set("b", "1"), set("d", "1")}, []api.Setting{set("a", "1"), set("c", "1"), set("d", "1"), set("e", "1")}
	both, ok := Both(a, b)
	if !ok || !slices.Equal(both, []api.Setting{set("a", "1"), set("b", "1"), set("c", "1"), set("d", "1"), set("e", "1")}) {
		t.Error(both)
	}
	both[0] = set("z", "z")
	if a[0] != set("b", "1") || b[0] != set("a", "1") {
		t.Error("what is handed in was changed")
	}
	for _, wrong := range [][]api.Setting{{set("b", "1"), set("a", "1")}, {set("a", "!")}} {
		if both, ok := Both(wrong, nil); ok || len(both) != 0 {
			t.Error(both)
		}
		if both, ok := Both(nil, wrong); ok || len(both) != 0 {
			t.Error(both)
		}
	}
}

func TestAll(t *testing.T) {
	l := []api.Variant{is("x", "on", "off"), is("y", "1", "2", "3")}
	want := [][]api.Setting{
		{set("x", "on"), set("y", "1")}, {set("x", "off"), set("y", "1")}, {set("x", "on"), set("y", "2")},
		{set("x", "off"), set("y", "2")}, {set("x", "on"), set("y", "3")}, {set("x", "off"), set("y", "3")},
	}
	got := All(l)
	if !slices.EqualFunc(got, want, slices.Equal) {
		t.Error(got)
	}
	for _, s := range got {
		if !Legal(l, s) {
			t.Error(s)
		}
	}
	if got := All(nil); len(got) != 1 || len(got[0]) != 0 {
		t.Error("of no variants there is one row of settings, an empty one")
	}
}

func TestUnusual(t *testing.T) {
	l := []api.Variant{is("x", "on", "off"), is("y", "1"), is("v"), is("w", "a"), is("w", "b")}
	for _, c := range []struct {
		s    []api.Setting
		want int
	}{
		{nil, 0}, {[]api.Setting{set("x", "on"), set("y", "1")}, 0}, {[]api.Setting{set("x", "off"), set("y", "1")}, 1},
		{[]api.Setting{set("z", "on"), set("x", "off"), set("y", "2")}, 3}, {[]api.Setting{set("v", "on")}, 1}, {[]api.Setting{set("v", "")}, 1},
		{[]api.Setting{set("x", "off"), set("x", "off")}, 2}, {[]api.Setting{set("w", "c")}, 1},
	} {
		if n := Unusual(l, c.s); n != c.want {
			t.Error(c, n)
		}
	}
}
