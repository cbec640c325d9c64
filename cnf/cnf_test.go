package cnf

import (
	"math"
	"math/rand"
	"slices"
	"strings"
	"testing"
)

func same(a, b [][]int) bool { return slices.EqualFunc(a, b, slices.Equal) }

func TestForm(t *testing.T) {
	in := []int{3, -1, 3, 2, -1}
	if f, ok := Form(in); !ok || !slices.Equal(f, []int{-1, 2, 3}) || !slices.Equal(in, []int{3, -1, 3, 2, -1}) {
		t.Error(f, in)
	}
	if f, ok := Form(nil); !ok || len(f) != 0 {
		t.Error("the empty clause has a form")
	}
	if f, ok := Form([]int{math.MaxInt, -math.MaxInt + 1, 1}); !ok || !slices.Equal(f, []int{1, -math.MaxInt + 1, math.MaxInt}) {
		t.Error(f)
	}
	for _, l := range [][]int{{0}, {1, 0}, {1, -1}, {2, 1, 3, -2}, {math.MinInt}, {1, math.MinInt}, {math.MaxInt, -math.MaxInt}, {-1, -1, 1, 1}} {
		if f, ok := Form(l); ok || len(f) != 0 {
			t.Error(l, f)
		}
	}
}

func TestHolds(t *testing.T) {
	for _, c := range []struct {
		clauses [][]int
		model   []bool
		want    bool
	}{
		{nil, nil, true}, {[][]int{{}}, nil, false}, {[][]int{{1}}, []bool{true}, true}, {[][]int{{1}}, nil, false}, {[][]int{{-1}}, nil, true},
		{[][]int{{1, 2}, {-1}}, []bool{false, true}, true}, {[][]int{{1, 2}, {-1}}, []bool{true, true}, false}, {[][]int{{-3}, {-math.MaxInt}}, []bool{true, true}, true},
		{[][]int{{0}}, []bool{true}, false}, {[][]int{{math.MinInt}}, []bool{true}, false}, {[][]int{{math.MaxInt}}, nil, false}, {[][]int{{1, 1, -1}}, nil, true},
	} {
		if Holds(c.clauses, c.model) != c.want {
			t.Error(c)
		}
	}
}

func TestAtoms(t *testing.T) {
	if n := Atoms([][]int{{1, -7}, {}, {5}}); n != 7 {
		t.Error(n)
	}
	if Atoms(nil) != 0 || Atoms([][]int{{0}, {math.MinInt}}) != 0 || Atoms([][]int{{-math.MaxInt}}) != math.MaxInt {
		t.Error("the greatest atom")
	}
}

func TestBuilder(t *testing.T) {
	for i, c := range []struct {
		build func(b *Builder)
		want  [][]int
	}{
		{func(b *Builder) {}, nil},
		{func(b *Builder) { b.Add(); b.Add(3, 1, 3); b.Add(1, -1); b.Add(-2) }, [][]int{{}, {1, 3}, {-2}}},
		{func(b *Builder) { b.Most(1, 2, 3) }, [][]int{{-1, -2}, {-1, -3}, {-2, -3}}},
		{func(b *Builder) { b.Most(); b.Most(1) }, nil},
		{func(b *Builder) { b.Most(1, 1, -2) }, [][]int{{-1}, {-1, 2}, {-1, 2}}},
		{func(b *Builder) { b.Most(1, -1) }, nil},
		{func(b *Builder) { b.One(1, 2) }, [][]int{{1, 2}, {-1, -2}}},
		{func(b *Builder) { b.One() }, [][]int{{}}},
		{func(b *Builder) { b.All(3, 1, -2) }, [][]int{{1, -3}, {-2, -3}, {-1, 2, 3}}},
		{func(b *Builder) { b.All(-3) }, [][]int{{-3}}},
		{func(b *Builder) { b.Any(3, 1, -2) }, [][]int{{1, -2, -3}, {-1, 3}, {2, 3}}},
		{func(b *Builder) { b.Any(3) }, [][]int{{-3}}},
	} {
		b := New()
		c.build(b)
		if got := b.Clauses(); !same(got, c.want) || b.Bad() || b.Full() {
			t.Error(i, got)
		}
	}
}

// TestMeaning tries all models of what the builder's calls say.
func TestMeaning(t *testing.T) {
	most, one, all, either := New(), New(), New(), New()
	most.Most(1, 2, 3, 4)
	one.One(1, 2, 3, 4)
	all.All(4, 1, 2, 3)
	either.Any(4, 1, 2, 3)
	for n := range 16 {
		model, count := make([]bool, 4), 0
		for i := range 4 {
			if model[i] = n>>i&1 == 1; model[i] {
				count++
			}
		}
		if Holds(most.Clauses(), model) != (count <= 1) || Holds(one.Clauses(), model) != (count == 1) {
			t.Error(model)
		}
		if Holds(all.Clauses(), model) != (model[3] == (model[0] && model[1] && model[2])) || Holds(either.Clauses(), model) != (model[3] == (model[0] || model[1] || model[2])) {
			t.Error(model)
		}
	}
}

func TestBad(t *testing.T) {
	for i, build := range []func(b *Builder){
		func(b *Builder) { b.Add(0) }, func(b *Builder) { b.Add(1, -1, 0) }, func(b *Builder) { b.Add(math.MinInt, 1) },
		func(b *Builder) { b.Most(0, math.MinInt) }, func(b *Builder) { b.All(0) }, func(b *Builder) { b.Any(math.MinInt) }, func(b *Builder) { b.One(0) },
	} {
		b := New()
		build(b)
		if !b.Bad() || b.Full() || len(b.Clauses()) != 0 {
			t.Error(i, b.Clauses())
		}
		if b.Add(1); len(b.Clauses()) != 1 || !b.Bad() {
			t.Error(i, "it goes on, and stays bad")
		}
	}
}

func TestFull(t *testing.T) {
	b := New()
	for range 262144 {
		b.Add(1)
	}
	if b.Add(1, -1); b.Full() || b.Bad() {
		t.Error("262144 clauses may be, and one that is left out isn't too much")
	}
	b.Add(2)
	if l := b.Clauses(); !b.Full() || b.Bad() || len(l) != 262144 || l[len(l)-1][0] != 1 {
		t.Error("one more is left out")
	}
}

func TestNewMemory(t *testing.T) {
	b := New()
	l := []int{1, 2}
	b.Add(l...)
	l[0] = 7
	got := b.Clauses()
	got[0][0] = 9
	if !same(b.Clauses(), [][]int{{1, 2}}) {
		t.Error(b.Clauses())
	}
}

func TestNilBuilder(t *testing.T) {
	var b *Builder
	b.Add(1)
	b.Most(1, 2)
	b.One(1, 2)
	b.All(1, 2)
	b.Any(1, 2)
	if !b.Bad() || b.Full() || len(b.Clauses()) != 0 {
		t.Error("a nil builder takes nothing, and is bad")
	}
}

func TestText(t *testing.T) {
	if got := Text(3, [][]int{{1, -3}, {}, {2}}); got != "p cnf 3 3\n1 -3 0\n0\n2 0\n" {
		t.Errorf("%q", got)
	}
	if got := Text(-1, nil); got != "p cnf -1 0\n" {
		t.Errorf("%q", got)
	}
}

func TestThereAndBack(t *testing.T) {
	r := rand.New(rand.NewSource(12))
	for range 300 {
		var clauses [][]int
		for range r.Intn(6) {
			var c []int
			for range r.Intn(5) {
				c = append(c, (1+r.Intn(20))*(1-2*r.Intn(2)))
			}
			clauses = append(clauses, c)
		}
		n := Atoms(clauses) + r.Intn(3)
		atoms, got, ok := Read(Text(n, clauses))
		if !ok || atoms != n || !same(got, clauses) {
			t.Fatal(n, clauses, atoms, got)
		}
	}
	if n, l, ok := Read("p cnf 0 0\n"); !ok || n != 0 || len(l) != 0 {
		t.Error("no clauses may be")
	}
}

func TestReadWrongTexts(t *testing.T) {
	for _, text := range []string{
		"", "\n", "p cnf 1 0", "p cnf 1 0\n\n", "p cnf 1\n", "p cnf 1 0 0\n", "p  cnf 1 0\n", "p cnf 01 0\n", "p cnf +1 0\n", "p cnf -1 0\n", "p cnf 1 -1\n", "p dnf 1 0\n", "P cnf 1 0\n",
		"p cnf 1 1\n", "p cnf 1 0\n1 0\n", "p cnf 1 1\n1 0", "p cnf 1 1\n1\n", "p cnf 1 1\n2 0\n", "p cnf 1 1\n-2 0\n", "p cnf 1 1\n1 0 \n", "p cnf 1 1\n 1 0\n", "p cnf 1 1\n1  0\n",
		"p cnf 1 1\n1 0 1 0\n", "p cnf 1 1\n0 0\n", "p cnf 10 1\n10\n", "p cnf 1 1\n-0 0\n", "p cnf 1 1\n01 0\n", "p cnf 1 1\nx 0\n", "p cnf 1 1\r\n1 0\r\n", "c\np cnf 1 0\n",
		"p cnf 99999999999999999999 0\n", "p cnf 9223372036854775807 1\n-9223372036854775808 0\n", "p cnf 1 1\n10\n", strings.Repeat(" ", 100),
	} {
		if n, l, ok := Read(text); ok || n != 0 || len(l) != 0 {
			t.Errorf("%q: %d %v", text, n, l)
		}
	}
}
