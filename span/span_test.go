package span

import (
	"testing"

	"cooper/api"
	"cooper/version"
)

// versions stand in a row; the first one is no bound.
func versions() []string {
	return []string{"", "a", "0", "1.rc", "1", "1.0", "1.5", "2", "2.0", "10"}
}

func span(lo, hi string) api.Span { return api.Span{Lo: lo, Hi: hi} }

// legal are all spans of the versions that may be.
func legal() []api.Span {
	l := versions()
	var out []api.Span
	for i, lo := range l {
		for k, hi := range l {
			if i == 0 || k == 0 || i <= k {
				out = append(out, span(lo, hi))
			}
		}
	}
	return out
}

func wrong() []api.Span {
	return []api.Span{span("2", "1"), span("1", "1.rc"), span("01", "2"), span("1", "x y"), span("!", ""), span("", "!"), span("!", "!"), span(":", ":")}
}

func TestMay(t *testing.T) {
	for _, s := range legal() {
		if !May(s) {
			t.Error(s)
		}
	}
	for _, s := range wrong() {
		if May(s) {
			t.Error(s)
		}
	}
}

func TestHas(t *testing.T) {
	s := span("1", "2")
	for v, want := range map[string]bool{"1": true, "1.5": true, "2": true, "2.0": false, "1.rc": false, "2.rc": true, "": false, "!": false, "01": false} {
		if Has(s, v) != want {
			t.Error(v)
		}
	}
	for _, s := range legal() {
		for _, v := range versions()[1:] {
			want := (s.Lo == "" || version.Compare(s.Lo, v) <= 0) && (s.Hi == "" || version.Compare(v, s.Hi) <= 0)
			if Has(s, v) != want {
				t.Error(s, v)
			}
		}
		if Has(s, "") || Has(s, "1.") || Has(s, ":") {
			t.Error(s, "has a text that is no version")
		}
	}
	for _, s := range wrong() {
		for _, v := range versions() {
			if Has(s, v) {
				t.Error(s, v)
			}
		}
	}
}

func TestMeet(t *testing.T) {
	for _, a := range legal() {
		for _, b := range legal() {
			m, ok := Meet(a, b)
			if ok != Joins(a, b) || !ok && m != (api.Span{}) || ok && !May(m) {
				t.Fatal(a, b, m, ok)
			}
			for _, v := range versions()[1:] {
				if (ok && Has(m, v)) != (Has(a, v) && Has(b, v)) {
					t.Fatal(a, b, m, v)
				}
			}
			if ok && (!Within(m, a) || !Within(m, b)) {
				t.Fatal(a, b, m)
			}
		}
	}
	if m, ok := Meet(span("1", ""), span("", "2")); !ok || m != span("1", "2") {
		t.Error(m, ok)
	}
	if m, ok := Meet(span("", "1"), span("1.0", "")); ok || m != (api.Span{}) {
		t.Error(m, ok)
	}
}

func TestJoin(t *testing.T) {
	for _, a := range legal() {
		for _, b := range legal() {
			j := Join(a, b)
			if !Within(a, j) || !Within(b, j) {
				t.Fatal(a, b, j)
			}
			for _, c := range legal() {
				if Within(a, c) && Within(b, c) && !Within(j, c) {
					t.Fatal(a, b, j, "isn't the least one:", c)
				}
			}
		}
	}
	if j := Join(span("1", "2"), span("5", "7")); j != span("1", "7") {
		t.Error(j)
	}
}

func TestOfSpansThatMayNotBe(t *testing.T) {
	all := span("", "")
	for _, s := range wrong() {
		if m, ok := Meet(s, all); ok || m != all {
			t.Error(s, m)
		}
		if m, ok := Meet(all, s); ok || m != all {
			t.Error(s, m)
		}
		for _, b := range legal() {
			if m, ok := Meet(s, b); ok || m != all || Joins(b, s) || Join(s, b) != all || Join(b, s) != all {
				t.Error(s, b, m)
			}
		}
		if Joins(s, s) || Join(s, span("1", "2")) != all || Join(span("1", "2"), s) != all || Text(s) != "" || Within(s, s) || Within(s, all) || Within(all, s) {
			t.Error(s)
		}
	}
}

func TestWithin(t *testing.T) {
	for _, c := range []struct {
		a, b api.Span
		want bool
	}{
		{span("1", "2"), span("1", "2"), true},
		{span("1", "2"), span("", ""), true},
		{span("", ""), span("1", "2"), false},
		{span("1", "2"), span("1.rc", "2.0"), true},
		{span("1", "2"), span("1.0", "2"), false},
		{span("1", "2"), span("1", "1.5"), false},
		{span("", "2"), span("1", ""), false},
		{span("1", ""), span("1", "2"), false},
	} {
		if Within(c.a, c.b) != c.want {
			t.Error(c)
		}
	}
}

func TestText(t *testing.T) {
	for want, s := range map[string]api.Span{":": span("", ""), "1:": span("1", ""), ":1": span("", "1"), "1": span("1", "1"), "1:2": span("1", "2")} {
		if got := Text(s); got != want {
			t.Errorf("%q, want %q", got, want)
		}
	}
}

func TestThereAndBack(t *testing.T) {
	for _, s := range legal() {
		if r, ok := Read(Text(s)); !ok || r != s {
			t.Error(s, r, ok)
		}
	}
	for _, text := range []string{"", "1:1", "::", "1:2:3", "2:1", " 1", "1 ", "01", "1:x1", "!", "1,2", "1::"} {
		if s, ok := Read(text); ok || s != (api.Span{}) {
			t.Errorf("%q was read as %v", text, s)
		}
	}
}
