package version

import (
	"slices"
	"strings"
	"testing"
)

// row has versions as they stand, the first one ahead.
func row() []string {
	return []string{
		"a.b", "a", "a.0", "a.1", "ab", "b", "z",
		"0.rc", "0", "0.0", "0.1", "1.alpha", "1.beta", "1.beta.2", "1.rc", "1", "1.0.rc", "1.0", "1.0.0", "1.1",
		"1.2", "1.9", "1.10", "2", "9", "10", "99999999", "999999999", "999999999.1",
	}
}

func wrong() []string {
	return []string{
		"", ".", "1.", ".1", "1..2", "01", "00", "1.00", "1000000000", "99999999999999999999999999", "A", "1a", "a1",
		"1 2", "1.1.1.1.1.1.1.1.1", strings.Repeat("a", 41), "-1", "+1", "\x00", "é", "1\n", "1,2", "0x1",
	}
}

func TestMay(t *testing.T) {
	for _, s := range row() {
		if !May(s) {
			t.Errorf("%q is a version", s)
		}
	}
	for _, s := range []string{strings.Repeat("a", 40), "1.1.1.1.1.1.1.1", "0.0.0", "a.b.c.d.e.f.g.h", "999999999.999999999.999999999.999999999"} {
		if !May(s) {
			t.Errorf("%q is a version", s)
		}
	}
	for _, s := range wrong() {
		if May(s) {
			t.Errorf("%q is no version", s)
		}
	}
}

func TestCompareIsARow(t *testing.T) {
	l := row()
	for i, a := range l {
		for k, b := range l {
			want := 0
			if i < k {
				want = -1
			} else if i > k {
				want = 1
			}
			if n := Compare(a, b); n != want {
				t.Errorf("Compare(%q, %q) = %d, want %d", a, b, n, want)
			}
		}
	}
}

func TestCompareOfNoVersions(t *testing.T) {
	for _, a := range wrong() {
		if Compare(a, "a.a") != -1 || Compare("a.a", a) != 1 {
			t.Errorf("%q stands ahead of all versions", a)
		}
		for _, b := range wrong() {
			if Compare(a, b) != 0 {
				t.Errorf("%q and %q are alike", a, b)
			}
		}
	}
}

// TestCompareAll holds many short versions against each other, three by three.
func TestCompareAll(t *testing.T) {
	var l []string
	for _, a := range []string{"a", "b", "0", "1", "10"} {
		l = append(l, a)
		for _, b := range []string{"a", "rc", "0", "2"} {
			l = append(l, a+"."+b, a+"."+b+".0", a+"."+b+".x")
		}
	}
	for _, a := range l {
		for _, b := range l {
			n := Compare(a, b)
			if (n == 0) != (a == b) || n != -Compare(b, a) {
				t.Fatalf("Compare(%q, %q) = %d", a, b, n)
			}
			for _, c := range l {
				if n < 0 && Compare(b, c) < 0 && Compare(a, c) >= 0 {
					t.Fatalf("%q, %q, %q don't stand in a row", a, b, c)
				}
			}
		}
	}
}

func TestParts(t *testing.T) {
	for s, want := range map[string][]string{"1": {"1"}, "1.rc.2": {"1", "rc", "2"}, "a.b": {"a", "b"}} {
		if l := Parts(s); !slices.Equal(l, want) {
			t.Errorf("Parts(%q) = %q", s, l)
		}
	}
	for _, s := range wrong() {
		if l := Parts(s); len(l) != 0 {
			t.Errorf("Parts(%q) = %q", s, l)
		}
	}
}

func TestNewest(t *testing.T) {
	in := []string{"1", "x", "2.rc", "!", "2", "?", "1", "x"}
	kept := slices.Clone(in)
	out := Newest(in)
	if !slices.Equal(out, []string{"2", "2.rc", "1", "1", "x", "x", "!", "?"}) {
		t.Error(out)
	}
	out[0] = "changed"
	if !slices.Equal(in, kept) {
		t.Error("what is handed in was changed")
	}
	if len(Newest(nil)) != 0 {
		t.Error("of none there are none")
	}
}
