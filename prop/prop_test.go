package prop

import (
	"math"
	"math/rand"
	"slices"
	"testing"
)

func trail(n int, clauses ...[]int) *Trail {
	t := New(n)
	for _, c := range clauses {
		t.Add(c)
	}
	return t
}

func TestExample(t *testing.T) {
	tr := trail(3, []int{-1, 2}, []int{3, -2})
	if !tr.Decide(1) || tr.Follow() != -1 || !slices.Equal(tr.List(), []int{1, 2, 3}) || tr.Level() != 1 {
		t.Error(tr.List())
	}
	for atom, want := range map[int][2]int{1: {1, -1}, 2: {1, 0}, 3: {1, 1}, 0: {-1, -1}, 4: {-1, -1}, -1: {-1, -1}} {
		if level, reason := tr.At(atom); level != want[0] || reason != want[1] {
			t.Error(atom, level, reason)
		}
	}
	for literal, want := range map[int]int{1: 1, -1: -1, 3: 1, -3: -1, 0: 0, 4: 0, -4: 0, math.MinInt: 0, math.MaxInt: 0} {
		if tr.Value(literal) != want {
			t.Error(literal, tr.Value(literal))
		}
	}
	tr.Back(0)
	if len(tr.List()) != 0 || tr.Level() != 0 || tr.Value(2) != 0 {
		t.Error("all went")
	}
	if level, reason := tr.At(2); level != -1 || reason != -1 {
		t.Error(level, reason)
	}
}

func TestAdd(t *testing.T) {
	tr := New(3)
	for i, c := range []struct {
		clause []int
		want   int
	}{
		{[]int{2, -1, 2}, 0}, {[]int{4}, -1}, {[]int{1, -1}, -1}, {[]int{0}, -1}, {[]int{math.MinInt}, -1}, {[]int{-4, 1}, -1}, {nil, 1}, {[]int{3}, 2},
	} {
		if n := tr.Add(c.clause); n != c.want {
			t.Error(i, n)
		}
	}
	if tr.Clauses() != 3 || !slices.Equal(tr.Clause(0), []int{-1, 2}) || len(tr.Clause(1)) != 0 || !slices.Equal(tr.Clause(2), []int{3}) {
		t.Error("clauses in their forms")
	}
	tr.Clause(0)[0] = 3
	if !slices.Equal(tr.Clause(0), []int{-1, 2}) || tr.Clause(-1) != nil || tr.Clause(3) != nil {
		t.Error("what is answered is new memory")
	}
	if tr.Follow() != 1 {
		t.Error("the empty clause is a conflict")
	}
}

func TestDrop(t *testing.T) {
	tr := trail(3, []int{-1, 2}, []int{-2, 3}, nil, []int{-3})
	tr.Drop(2)
	tr.Drop(3)
	tr.Drop(-1)
	tr.Drop(9)
	tr.Decide(1)
	if tr.Follow() != -1 || !slices.Equal(tr.List(), []int{1, 2, 3}) {
		t.Error(tr.List())
	}
	tr.Drop(1)
	if level, reason := tr.At(3); level != 1 || reason != 1 || len(tr.Clause(1)) != 0 {
		t.Error("what has it as reason stays")
	}
	tr.Back(0)
	tr.Decide(1)
	if tr.Follow() != -1 || !slices.Equal(tr.List(), []int{1, 2}) || tr.Add([]int{-2, 3}) != 4 || tr.Clauses() != 5 {
		t.Error("its number isn't given again")
	}
	if tr.Follow() != -1 || tr.Value(3) != 1 {
		t.Error("the new one is there")
	}
}

func TestDecideSetBack(t *testing.T) {
	tr := New(4)
	if !tr.Set(4, 7) || tr.Set(4, 1) || tr.Set(-4, 1) || tr.Decide(-4) || tr.Decide(0) || tr.Decide(5) || tr.Set(math.MinInt, 0) || tr.Level() != 0 {
		t.Error("what isn't open can't be set")
	}
	if level, reason := tr.At(4); level != 0 || reason != 7 {
		t.Error(level, reason)
	}
	tr.Decide(-1)
	tr.Set(2, -1)
	tr.Decide(3)
	if level, _ := tr.At(1); level != 1 || tr.Level() != 2 || !slices.Equal(tr.List(), []int{4, -1, 2, 3}) {
		t.Error(tr.List())
	}
	for _, level := range []int{2, 3, math.MaxInt} {
		if tr.Back(level); tr.Level() != 2 || len(tr.List()) != 4 {
			t.Error("the level isn't higher", level)
		}
	}
	if tr.Back(1); tr.Level() != 1 || !slices.Equal(tr.List(), []int{4, -1, 2}) {
		t.Error(tr.List())
	}
	if tr.Back(math.MinInt); tr.Level() != 0 || !slices.Equal(tr.List(), []int{4}) {
		t.Error(tr.List())
	}
}

// TestClauseThatComesLate: it is as if it had always been there, at whatever level.
func TestClauseThatComesLate(t *testing.T) {
	tr := New(4)
	tr.Set(-1, -1)
	tr.Follow()
	tr.Decide(3)
	tr.Decide(4)
	tr.Follow()
	tr.Add([]int{1, 2})
	for _, level := range []int{2, 1, 0} {
		tr.Back(level)
		if tr.Value(2) != 0 && level < 2 || tr.Follow() != -1 {
			t.Fatal(level)
		}
		if at, reason := tr.At(2); at != level || reason != 0 {
			t.Fatal("it follows at the level now", level, at, reason)
		}
	}
	if tr.Add([]int{-2}); tr.Follow() != 1 || tr.Follow() != 1 {
		t.Error("a conflict stays one")
	}
}

func TestNil(t *testing.T) {
	var tr *Trail
	tr.Drop(0)
	tr.Back(0)
	if tr.Add(nil) != -1 || tr.Follow() != -1 || tr.Decide(1) || tr.Set(1, 0) || tr.Value(1) != 0 || tr.Level() != 0 || len(tr.List()) != 0 || len(tr.Clause(0)) != 0 || tr.Clauses() != 0 {
		t.Error("a nil trail has nothing")
	}
	if level, reason := tr.At(1); level != -1 || reason != -1 {
		t.Error(level, reason)
	}
}

func TestSizes(t *testing.T) {
	for n, want := range map[int]int{-1: 0, math.MinInt: 0, 65536: 65536, 65537: 65536, math.MaxInt: 65536} {
		tr := New(n)
		if want > 0 && tr.Add([]int{want}) != 0 || tr.Add([]int{want + 1}) != -1 || tr.Decide(want+1) {
			t.Error(n)
		}
	}
}

// model is a trail as the chapter says it: it looks at all clauses, again and again.
type model struct {
	clauses map[int][]int
	list    []int
	starts  []int
}

func (m *model) value(l int) int {
	if slices.Contains(m.list, l) {
		return 1
	}
	if slices.Contains(m.list, -l) {
		return -1
	}
	return 0
}

// look tells of a clause how many literals are open, and whether one is so.
func (m *model) look(c []int) (last, count int, holds bool) {
	for _, l := range c {
		switch m.value(l) {
		case 1:
			return 0, 0, true
		case 0:
			last, count = l, count+1
		}
	}
	return last, count, false
}

// follow answers whether a conflict is met.
func (m *model) follow() bool {
	for changed := true; changed; {
		changed = false
		for _, c := range m.clauses {
			if l, count, holds := m.look(c); !holds && count == 0 {
				return true
			} else if !holds && count == 1 {
				m.list = append(m.list, l)
				changed = true
			}
		}
	}
	return false
}

func checkReasons(t *testing.T, tr *Trail, set map[int]int) {
	t.Helper()
	ahead := map[int]int{}
	for _, l := range tr.List() {
		_, reason := tr.At(max(l, -l))
		c := tr.Clause(reason)
		if reason >= 0 && set[l] == 0 && c != nil {
			if !slices.Contains(c, l) {
				t.Fatal(l, "isn't in its reason", c)
			}
			for _, other := range c {
				if other != l && ahead[-other] == 0 {
					t.Fatal(l, "doesn't follow from what stands ahead", c)
				}
			}
		}
		ahead[l]++
	}
}

func TestAnyRowOfCalls(t *testing.T) {
	r := rand.New(rand.NewSource(18))
	conflicts, quiet := 0, 0
	for range 3000 {
		n := 1 + r.Intn(8)
		tr, m := New(n), &model{clauses: map[int][]int{}}
		set := map[int]int{}
		literal := func() int { return (1 + r.Intn(n)) * (1 - 2*r.Intn(2)) }
		for range 60 {
			switch k := r.Intn(20); {
			case k < 6:
				var c []int
				for range r.Intn(5) {
					c = append(c, literal())
				}
				if len(c) == 0 && r.Intn(20) > 0 {
					continue
				}
				if number := tr.Add(c); number >= 0 {
					m.clauses[number] = tr.Clause(number)
				}
			case k < 7:
				number := r.Intn(tr.Clauses() + 1)
				tr.Drop(number)
				delete(m.clauses, number)
			case k < 11:
				l, open := literal(), 0
				start := len(m.list)
				if m.value(l) == 0 {
					open = 1
					m.starts = append(m.starts, start)
					m.list = append(m.list, l)
				}
				if tr.Decide(l) != (open == 1) {
					t.Fatal("Decide")
				}
			case k < 12:
				l := literal()
				open := m.value(l) == 0
				if open {
					m.list = append(m.list, l)
					set[l]++
				}
				if tr.Set(l, -1) != open {
					t.Fatal("Set")
				}
			case k < 14:
				level := r.Intn(len(m.starts)+2) - 1
				tr.Back(level)
				if level = max(level, 0); level < len(m.starts) {
					m.list, m.starts = m.list[:m.starts[level]], m.starts[:level]
				}
			default:
				c := tr.Follow()
				if conflict := m.follow(); conflict != (c >= 0) {
					t.Fatal("a conflict is met, or none", c)
				}
				if c >= 0 {
					conflicts++
					for _, l := range m.clauses[c] {
						if tr.Value(l) != -1 {
							t.Fatal(c, "is no conflict")
						}
					}
					// Which literals follow ahead of a conflict is free.
					m.list = tr.List()
				} else {
					quiet++
				}
			}
			got, want := tr.List(), slices.Clone(m.list)
			slices.Sort(got)
			slices.Sort(want)
			if !slices.Equal(got, want) || tr.Level() != len(m.starts) {
				t.Fatal(got, want, tr.Level())
			}
			level := 0
			for i, l := range tr.List() {
				decided := level < len(m.starts) && m.starts[level] == i
				if decided {
					level++
				}
				if at, reason := tr.At(max(l, -l)); at != level || decided && reason != -1 {
					t.Fatal("level", level, at, reason)
				}
			}
			checkReasons(t, tr, set)
		}
	}
	if conflicts < 1000 || quiet < 1000 {
		t.Error("too few were met", conflicts, quiet)
	}
}
