package luby

import (
	"math"
	"slices"
	"testing"
)

// row is the row as the chapter says it.
func row(n int) int {
	for k := 1; ; k++ {
		if n == 1<<k-1 {
			return 1 << (k - 1)
		}
		if 1<<(k-1) <= n && n < 1<<k-1 {
			return row(n - 1<<(k-1) + 1)
		}
	}
}

func TestRow(t *testing.T) {
	for i, want := range []int{1, 1, 2, 1, 1, 2, 4, 1, 1, 2, 1, 1, 2, 4, 8, 1} {
		if n := Row(i + 1); n != want {
			t.Error(i+1, n)
		}
	}
	for n := 1; n < 5000; n++ {
		if Row(n) != row(n) {
			t.Fatal(n, Row(n))
		}
	}
	for n, want := range map[int]int{0: 0, -1: 0, math.MinInt: 0, math.MaxInt: 1 << 62, math.MaxInt - 1: 1 << 61, 1<<62 - 1: 1 << 61, 1 << 62: 1} {
		if Row(n) != want {
			t.Error(n, Row(n))
		}
	}
}

func TestForget(t *testing.T) {
	l := []Note{
		{Number: 9, Size: 5, Levels: 3}, {Number: 1, Size: 5, Levels: 3}, {Number: 8, Size: 4, Levels: 4}, {Number: 3, Size: 9, Levels: 3},
		{Number: 4, Size: 2, Levels: 9}, {Number: 5, Size: 9, Levels: 2}, {Number: 6, Size: 9, Levels: 9, Locked: true}, {Number: 7, Size: 3, Levels: 3},
	}
	kept := slices.Clone(l)
	// 8, 3, 1, 9, 7 may go: the worst first.
	if got := Forget(l); !slices.Equal(got, []int{3, 8}) {
		t.Error(got)
	}
	if got := Forget(append(l, Note{Number: 0, Size: 3, Levels: 3})); !slices.Equal(got, []int{1, 3, 8}) {
		t.Error(got)
	}
	if !slices.Equal(l, kept) {
		t.Error("what is handed in was changed")
	}
	if len(Forget(nil)) != 0 || len(Forget(l[:1])) != 0 || len(Forget(l[4:7])) != 0 {
		t.Error("half of one is none")
	}
}

func TestTurns(t *testing.T) {
	for _, unit := range []int{1, 3, 10, 0, -5} {
		p := New(unit, 1000)
		for turn := 1; turn <= 20; turn++ {
			for i := range max(unit, 1) * row(turn) {
				anew, forget := p.Conflict(0)
				if last := i == max(unit, 1)*row(turn)-1; anew != last || forget {
					t.Fatal(unit, turn, i, anew, forget)
				}
			}
			if p.Restarts() != turn {
				t.Fatal(p.Restarts(), turn)
			}
		}
	}
}

func TestKeep(t *testing.T) {
	p := New(100, 4)
	for i, c := range []struct {
		learnt int
		forget bool
	}{
		// Kept are 4, then 7, 11, 17, 26, 40.
		{4, false}, {5, true}, {5, false}, {7, false}, {8, true}, {11, false}, {12, true}, {100, true}, {24, false}, {27, true}, {28, false}, {-1, false},
	} {
		if _, forget := p.Conflict(c.learnt); forget != c.forget {
			t.Error(i, c, forget)
		}
	}
	for _, keep := range []int{0, -3, math.MinInt, 1} {
		p := New(1, keep)
		if _, forget := p.Conflict(1); forget {
			t.Error("one is kept")
		}
		if _, forget := p.Conflict(2); !forget {
			t.Error("two are too many")
		}
		if _, forget := p.Conflict(2); forget {
			t.Error("now two are kept")
		}
	}
}

func TestHugeNumbers(t *testing.T) {
	p := New(math.MaxInt, math.MaxInt-1)
	if anew, forget := p.Conflict(math.MaxInt); anew || !forget {
		t.Error(anew, forget)
	}
	if _, forget := p.Conflict(math.MaxInt); forget {
		t.Error("more can't be kept")
	}
	if product(math.MaxInt/2, 3) != math.MaxInt {
		t.Error("the greatest there is")
	}
}

func TestNil(t *testing.T) {
	var p *Pace
	if anew, forget := p.Conflict(1); anew || forget || p.Restarts() != 0 {
		t.Error("a nil pace tells nothing")
	}
}
