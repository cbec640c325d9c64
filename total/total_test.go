package total

import (
	"math"
	"slices"
	"testing"

	"cooper/api"
	"cooper/atoms"
	"cooper/cnf"
	"cooper/testkit"
)

// table is one with n atoms that may be chosen.
func table(n, limit int) *atoms.Table {
	t := atoms.New(limit)
	for i := range n {
		t.Number(api.Atom{Kind: api.NodeAtom, A: i})
	}
	return t
}

// checkCount tries all choices of n atoms: each has a model, and in each the count tells how many of the row are so.
func checkCount(t *testing.T, n int, row []int, cap int) {
	t.Helper()
	tab, b := table(n, 10000), cnf.New()
	kept := slices.Clone(row)
	count := Count(tab, b, row, cap)
	if len(count) != min(len(row), cap) || !slices.Equal(row, kept) || b.Bad() || tab.Full() {
		t.Fatal(row, cap, count)
	}
	seen := 0
	for _, m := range testkit.Models(tab.Len(), b.Clauses(), nil) {
		so := func(l int) bool { return m[max(l, -l)-1] == (l > 0) }
		many := 0
		for _, l := range row {
			if so(l) {
				many++
			}
		}
		for i, l := range count {
			if so(l) != (many >= i+1) {
				t.Fatal(row, cap, count, m)
			}
		}
		seen++
	}
	if seen != 1<<n {
		t.Fatal(row, cap, "models:", seen)
	}
}

func TestCount(t *testing.T) {
	rows := [][]int{{1}, {-1}, {1, 2}, {1, 1}, {1, -1}, {1, 2, 3}, {-3, 2, 1, 2}, {1, 2, 3, 4, 5}, {2, 2, 2, 2, 2, 2, 2}, {1, -2, 3, -4, 5, -6, 1}, {1, 2, 3, 4, 5, 6, 7, 8}, {3, 3, 3, -3, -3, 1, 1, 2, 2, 4}}
	for _, row := range rows {
		n := 0
		for _, l := range row {
			n = max(n, l, -l)
		}
		for cap := 1; cap <= len(row)+1; cap++ {
			checkCount(t, n, row, cap)
		}
		checkCount(t, n, row, math.MaxInt)
	}
}

func TestThrownRows(t *testing.T) {
	for seed := range 200 {
		d := testkit.New(seed)
		n := 1 + d.Roll(6)
		var row []int
		for range 1 + d.Roll(12) {
			row = append(row, (1+d.Roll(n))*(1-2*d.Roll(2)))
		}
		checkCount(t, n, row, 1+d.Roll(len(row)+2))
	}
}

func TestOneLiteral(t *testing.T) {
	tab, b := table(3, 100), cnf.New()
	if got := Count(tab, b, []int{-2}, 5); !slices.Equal(got, []int{-2}) || tab.Len() != 3 || len(b.Clauses()) != 0 {
		t.Error(got)
	}
	if got := Count(tab, b, []int{1, 2, 3}, 2); len(got) != 2 || tab.Len() != 3+2+2 {
		t.Error("it is built of halves, by HelpAtoms", got, tab.Len())
	}
	for _, n := range []int{4, 5, 6, 7} {
		if a, _ := tab.At(n); a.Kind != api.HelpAtom {
			t.Error(a)
		}
	}
}

func TestNone(t *testing.T) {
	for i, c := range []struct {
		t   *atoms.Table
		b   *cnf.Builder
		row []int
		cap int
	}{
		{table(3, 100), cnf.New(), nil, 3}, {table(3, 100), cnf.New(), []int{1, 2}, 0}, {table(3, 100), cnf.New(), []int{1, 2}, math.MinInt}, {table(3, 100), cnf.New(), []int{1, 0}, 3},
		{table(3, 100), cnf.New(), []int{0}, 3}, {nil, cnf.New(), []int{1}, 3}, {table(3, 100), nil, []int{1}, 3}, {nil, nil, []int{1, 2}, 3}, {table(3, 100), cnf.New(), []int{1, math.MinInt}, 3},
	} {
		if got := Count(c.t, c.b, c.row, c.cap); len(got) != 0 {
			t.Error(i, got)
		}
	}
	for limit := 3; limit < 3+2+2+4; limit++ {
		tab := table(3, limit)
		if got := Count(tab, cnf.New(), []int{1, 2, 3, 1}, 9); len(got) != 0 || !tab.Full() {
			t.Error(limit, got)
		}
	}
	if got := Count(table(3, 11), cnf.New(), []int{1, 2, 3, 1}, 9); len(got) != 4 {
		t.Error("eight atoms are enough", got)
	}
}

func TestRepeat(t *testing.T) {
	for i, c := range []struct{ row, weights, want []int }{
		{nil, nil, nil}, {[]int{1, 2}, nil, nil}, {[]int{1, -2, 3}, []int{2, 0, 1}, []int{1, 1, 3}}, {[]int{1, 2, 3}, []int{-1, 1}, []int{2}}, {[]int{5}, []int{1, 7}, []int{5}},
		{[]int{0, 4}, []int{1, math.MinInt}, []int{0}},
	} {
		if got := Repeat(c.row, c.weights); !slices.Equal(got, c.want) {
			t.Error(i, got)
		}
	}
	if got := Repeat([]int{1, 2}, []int{1000, math.MaxInt}); len(got) != 2000 || got[999] != 1 || got[1000] != 2 {
		t.Error("at most 1000 times", len(got))
	}
	row, weights := slices.Repeat([]int{7}, 101), slices.Repeat([]int{999}, 101)
	row[100] = 8
	if got := Repeat(row, weights); len(got) != 100000 || got[99899] != 7 || got[99900] != 8 {
		t.Error("at most 100000 in all", len(got))
	}
}
