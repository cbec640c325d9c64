package partial

import (
	"slices"
	"testing"

	"cooper/cnf"
)

func TestClausesWithALiteral0(t *testing.T) {
	for i, c := range []struct {
		build func(b *cnf.Builder)
		want  [][]int
	}{
		{func(b *cnf.Builder) { Add(b, 1, 0); Add(b, 2, 1); Add(b) }, [][]int{{1, 2}, {}}},
		{func(b *cnf.Builder) { Most(b, 1, 0, 2, 0, 3) }, [][]int{{-1, -2}, {-1, -3}, {-2, -3}}},
		{func(b *cnf.Builder) { All(b, 3, 1, 0) }, [][]int{{1, -3}}},
		{func(b *cnf.Builder) { All(b, 3, 1) }, [][]int{{1, -3}, {-1, 3}}},
		{func(b *cnf.Builder) { All(b, 0, 1); Any(b, 0, 1) }, nil},
		{func(b *cnf.Builder) { Any(b, 3, 1, 0) }, [][]int{{-1, 3}}},
		{func(b *cnf.Builder) { Any(b, 3, 1) }, [][]int{{1, -3}, {-1, 3}}},
	} {
		b := cnf.New()
		c.build(b)
		if got := b.Clauses(); !slices.EqualFunc(got, c.want, slices.Equal) || b.Bad() {
			t.Error(i, got)
		}
	}
}
