package spans

import (
	"math/rand"
	"slices"
	"strconv"
	"strings"
	"testing"

	"cooper/api"
	"cooper/span"
)

func span2(lo, hi string) api.Span { return api.Span{Lo: lo, Hi: hi} }

func versions() []string {
	return []string{"a", "0", "1.rc", "1", "1.0", "1.5", "2", "2.0", "3", "4", "5", "9", "10", "11.x"}
}

// apart are n spans of which no two meet.
func apart(n int) []api.Span {
	var l []api.Span
	for i := range n {
		l = append(l, span2(strconv.Itoa(2*i), strconv.Itoa(2*i)))
	}
	return l
}

func wrong() [][]api.Span {
	return [][]api.Span{
		{span2("2", "1")}, {span2("!", "")}, {span2("1", "2"), span2("3", "01")}, {span2("3", "2"), span2("", "")}, apart(17),
	}
}

// some are sets, legal ones, in their form and not.
func some(t *testing.T) [][]api.Span {
	t.Helper()
	r := rand.New(rand.NewSource(3))
	v := append(versions(), "")
	out := [][]api.Span{nil, {}, {span2("", "")}, apart(1), apart(16)}
	for range 300 {
		var l []api.Span
		for range r.Intn(6) {
			s := span2(v[r.Intn(len(v))], v[r.Intn(len(v))])
			if span.May(s) {
				l = append(l, s)
			}
		}
		out = append(out, l)
	}
	return out
}

// inForm tells, by the words of the chapter, whether a set is in its form.
func inForm(l []api.Span) bool {
	if len(l) > 16 {
		return false
	}
	for i, s := range l {
		if !span.May(s) || i > 0 && (s.Lo == "" || !span.Has(span2(l[i-1].Lo, ""), s.Lo)) {
			return false
		}
		for _, other := range l[:i] {
			if span.Joins(s, other) {
				return false
			}
		}
	}
	return true
}

func TestForm(t *testing.T) {
	l := []api.Span{span2("5", "5"), span2("2", "3"), span2("1", "2")}
	kept := slices.Clone(l)
	f, ok := Form(l)
	if !ok || !slices.Equal(f, []api.Span{span2("1", "3"), span2("5", "5")}) {
		t.Error(f, ok)
	}
	f[0] = span2("", "")
	if !slices.Equal(l, kept) {
		t.Error("what is handed in was changed")
	}
	for _, l := range some(t) {
		f, ok := Form(l)
		if !ok || !inForm(f) {
			t.Fatal(l, f, ok)
		}
		for _, v := range versions() {
			if Has(f, v) != Has(l, v) {
				t.Fatal(l, f, v)
			}
		}
	}
	if f, ok := Form([]api.Span{span2("7", "9"), span2("", "2"), span2("8", ""), span2("1", "1")}); !ok || !slices.Equal(f, []api.Span{span2("", "2"), span2("7", "")}) {
		t.Error(f, ok)
	}
	if f, ok := Form(nil); len(f) != 0 || !ok {
		t.Error("of none the form is none")
	}
	if f, ok := Form(slices.Concat(apart(17), []api.Span{span2("3", "9")})); !ok || len(f) != 15 {
		t.Error("many spans that meet have a form:", f, ok)
	}
}

func TestWrongSets(t *testing.T) {
	all := []api.Span{span2("", "")}
	for _, l := range wrong() {
		if f, ok := Form(l); ok || len(f) != 0 {
			t.Error(l, f)
		}
		if len(Union(l, all)) != 0 || len(Union(all, l)) != 0 || len(Meet(l, all)) != 0 || len(Meet(all, l)) != 0 || Text(l) != "" || Same(l, all) || Same(nil, l) || !Same(l, wrong()[0]) {
			t.Error(l)
		}
	}
	if !Has(wrong()[2], "1") || Has(wrong()[2], "3") || !Has(apart(17), "32") {
		t.Error("a version is in a set, if it is in one of its spans")
	}
}

func TestUnionAndMeet(t *testing.T) {
	l := some(t)
	for i, a := range l {
		b := l[(i*7+1)%len(l)]
		u, m := Union(a, b), Meet(a, b)
		_, fits := Form(slices.Concat(a, b))
		for _, v := range versions() {
			if fits && Has(u, v) != (Has(a, v) || Has(b, v)) || Has(m, v) != (Has(a, v) && Has(b, v)) {
				t.Fatal(a, b, u, m, v)
			}
		}
		if !inForm(u) || !inForm(m) {
			t.Fatal(a, b, u, m)
		}
	}
	odd := []api.Span{span2("1", "1")}
	if len(Union(apart(16), odd)) != 0 || len(Union(apart(15), odd)) != 16 {
		t.Error("a union of more than 16 spans is none")
	}
	// 16 wide spans and 16 bridges between them meet in more than 16 places.
	var wide, bridges []api.Span
	for i := range 16 {
		wide = append(wide, span2(strconv.Itoa(10*i), strconv.Itoa(10*i+6)))
		bridges = append(bridges, span2(strconv.Itoa(10*i+5), strconv.Itoa(10*i+11)))
	}
	if len(Meet(wide, bridges)) != 0 || len(Meet(wide[:8], bridges[:8])) != 15 {
		t.Error("what is in common has a form of at most 16 spans")
	}
}

func TestText(t *testing.T) {
	for want, l := range map[string][]api.Span{
		"!":       nil,
		":":       {span2("", "")},
		"1:3,5":   {span2("5", "5"), span2("1", "2"), span2("2", "3")},
		":1,2:":   {span2("2", ""), span2("", "1")},
		"a,0,1.0": {span2("0", "0"), span2("1.0", "1.0"), span2("a", "a")},
	} {
		if got := Text(l); got != want {
			t.Errorf("%q, want %q", got, want)
		}
	}
}

func TestThereAndBack(t *testing.T) {
	for _, l := range some(t) {
		text := Text(l)
		set, ok := Read(text)
		if !ok || !Same(set, l) || !inForm(set) || Text(set) != text {
			t.Fatal(l, text, set, ok)
		}
	}
	long := Text(apart(16))
	for _, text := range []string{
		"", ",", "1,", ",1", "!,1", "!!", "1,1", "2,1", "1:2,2:3", "1:3,2", ":,1", "1, 2", "1:1", "3:1", "01", "1,:0", long + ",99", strings.Repeat("1,", 1000) + "1",
	} {
		if set, ok := Read(text); ok || len(set) != 0 {
			t.Errorf("%q was read as %v", text, set)
		}
	}
	if set, ok := Read(long); !ok || len(set) != 16 {
		t.Error("16 spans may be")
	}
}

func TestAll(t *testing.T) {
	l := All([]api.Span{span2("5", ""), span2("1", "2")}, []string{"9", "2", "3", "!", "1", "2", "1.rc"})
	if !slices.Equal(l, []string{"9", "2", "1", "2"}) {
		t.Error(l)
	}
	if len(All(nil, versions())) != 0 || len(All([]api.Span{{}}, nil)) != 0 {
		t.Error("none")
	}
}

func TestSame(t *testing.T) {
	if !Same([]api.Span{span2("1", "2"), span2("2", "3")}, []api.Span{span2("1", "3")}) || Same(nil, []api.Span{{}}) || !Same(nil, []api.Span{}) {
		t.Error("sets are the same, if their forms are")
	}
}
