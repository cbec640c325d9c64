package order

import (
	"math"
	"slices"
	"testing"

	"cooper/api"
	"cooper/choice"
	"cooper/cnf"
	"cooper/testkit"
)

// ground is one of n packages, that may all be needed, and of an unneeded one ahead of them.
func ground(n, limit int) *choice.Ground {
	x := api.Recipe{Packages: []api.Package{{Name: "other"}}}
	var q api.Request
	for i := range n {
		name := "abcdefgh"[i : i+1]
		x.Packages = append(x.Packages, api.Package{Name: name})
		q.Roots = append(q.Roots, api.Root{Spec: api.Spec{Name: name, Spans: testkit.All()}})
	}
	return choice.New(x, q, limit)
}

func edge(p, t int) api.Atom { return api.Atom{Kind: api.EdgeAtom, A: p, B: t} }

func ahead(p, t int) api.Atom { return api.Atom{Kind: api.AheadAtom, A: p, B: t} }

func TestClauses(t *testing.T) {
	g := ground(3, 100)
	back, self, there := g.Number(edge(3, 1)), g.Number(edge(2, 2)), g.Number(edge(1, 3))
	g.Number(edge(0, 1)) // may not be needed: plays no part
	Orders(g)
	n := func(p, t int) int { return g.Table().Look(ahead(p, t)) }
	b := cnf.New()
	b.Add(-there, n(1, 3))
	b.Add(-self)
	b.Add(-back, n(3, 1))
	for _, c := range [][2]int{{1, 2}, {1, 3}, {2, 3}} {
		b.Add(-n(c[0], c[1]), -n(c[1], c[0]))
	}
	for _, c := range [][3]int{{1, 2, 3}, {1, 3, 2}, {2, 1, 3}, {2, 3, 1}, {3, 1, 2}, {3, 2, 1}} {
		b.Add(-n(c[0], c[1]), -n(c[1], c[2]), n(c[0], c[2]))
	}
	if got := g.Builder().Clauses(); !slices.EqualFunc(got, b.Clauses(), slices.Equal) || b.Bad() {
		t.Errorf("%v\n%v", got, b.Clauses())
	}
	if g.Table().Len() != 4+6 || g.Builder().Bad() {
		t.Error(g.Table().Len())
	}
}

// TestNoWayRound tries sets of edges: the third part has a model just if they go no way round.
func TestNoWayRound(t *testing.T) {
	for _, n := range []int{1, 2, 3, 4} {
		g := ground(n, 1000)
		var numbers [][2]int
		for p := range n {
			for q := range n {
				g.Number(edge(p+1, q+1))
				numbers = append(numbers, [2]int{p, q})
			}
		}
		Orders(g)
		d := testkit.New(n)
		for set := range min(1<<len(numbers), 600) {
			if n == 4 {
				set = d.Roll(1<<16) & d.Roll(1<<16)
			}
			edges := make([][]int, n)
			var assume []int
			for i, e := range numbers {
				literal := g.Table().Look(edge(e[0]+1, e[1]+1))
				if set>>i&1 == 0 {
					literal = -literal
				} else {
					edges[e[0]] = append(edges[e[0]], e[1])
				}
				assume = append(assume, literal)
			}
			some := len(testkit.Models(g.Table().Len(), g.Builder().Clauses(), assume)) > 0
			if some != (len(Circle(edges)) == 0) || some == goesRound(edges) {
				t.Fatal(edges, some, Circle(edges))
			}
		}
	}
}

// goesRound takes places away that lead nowhere, until none is left or none can be.
func goesRound(edges [][]int) bool {
	gone := make([]bool, len(edges))
	for range edges {
		for i, l := range edges {
			gone[i] = gone[i] || !slices.ContainsFunc(l, func(k int) bool { return !gone[k] })
		}
	}
	return slices.Contains(gone, false)
}

func TestCircle(t *testing.T) {
	for _, c := range []struct {
		edges [][]int
		want  []int
	}{
		{nil, nil}, {[][]int{{}}, nil}, {[][]int{{0}}, []int{0}}, {[][]int{{1}, {0}}, []int{0, 1}}, {[][]int{{1}, {2}, {1}}, []int{1, 2}}, {[][]int{{1, 2}, {2}, nil}, nil},
		{[][]int{{-1, 3, math.MinInt, math.MaxInt}, {2}, {2, 7}}, []int{2}}, {[][]int{{1}, {2}, {3}, {0}}, []int{0, 1, 2, 3}}, {[][]int{{2}, {0}, {1}}, []int{0, 2, 1}},
	} {
		if got := Circle(c.edges); !slices.Equal(got, c.want) {
			t.Error(c.edges, got)
		}
	}
}

// TestCircleIsAWayRound throws edges: a circle leads along edges, from the first place that has one.
func TestCircleIsAWayRound(t *testing.T) {
	d := testkit.New(1)
	for range 2000 {
		edges := make([][]int, 1+d.Roll(7))
		for i := range edges {
			for range d.Roll(3) {
				edges[i] = append(edges[i], d.Roll(len(edges)+1))
			}
		}
		way := Circle(edges)
		for i, p := range way {
			if !slices.Contains(edges[p], way[(i+1)%len(way)]) || slices.Contains(way[:i], p) {
				t.Fatal(edges, way)
			}
		}
		for start := range edges {
			if len(wayBack(edges, start)) > 0 {
				if way[0] != start {
					t.Fatal(edges, way)
				}
				break
			}
		}
	}
}

func TestLimitAndNil(t *testing.T) {
	g := ground(3, 7)
	g.Number(edge(1, 2))
	Orders(g)
	if g.Table().Full() || g.Builder().Bad() || len(g.Builder().Clauses()) != 1+3+6 {
		t.Error("7 atoms are enough for all clauses", g.Builder().Clauses())
	}
	g = ground(3, 3)
	g.Number(edge(1, 2))
	Orders(g)
	if !g.Table().Full() || g.Table().Len() != 3 || g.Builder().Bad() || cnf.Atoms(g.Builder().Clauses()) > 3 {
		t.Error("clauses with an atom that got no number are left out")
	}
	Orders(nil)
}
