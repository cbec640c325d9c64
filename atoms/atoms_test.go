package atoms

import (
	"math"
	"testing"

	"cooper/api"
)

func atom(kind uint8, a, b, c int) api.Atom { return api.Atom{Kind: kind, A: a, B: b, C: c} }

func TestNumbers(t *testing.T) {
	l := []api.Atom{atom(1, 0, 0, 0), atom(1, 1, 0, 0), atom(2, 0, 0, 0), {}, atom(200, -1, math.MaxInt, math.MinInt), atom(1, 0, 1, 0), atom(1, 0, 0, 1)}
	table := New(100)
	for i, a := range l {
		if table.Look(a) != 0 || table.Len() != i {
			t.Error("looking gives no number")
		}
		if n := table.Number(a); n != i+1 {
			t.Error(a, n)
		}
	}
	for i, a := range l {
		if table.Number(a) != i+1 || table.Look(a) != i+1 {
			t.Error("asked again it is the same", a)
		}
		if b, ok := table.At(i + 1); !ok || b != a {
			t.Error(b, ok)
		}
	}
	for _, n := range []int{0, -1, len(l) + 1, math.MinInt, math.MaxInt} {
		if a, ok := table.At(n); ok || a != (api.Atom{}) {
			t.Error(n, a)
		}
	}
	if table.Len() != len(l) || table.Full() {
		t.Error(table.Len(), table.Full())
	}
}

func TestLimit(t *testing.T) {
	table := New(2)
	table.Number(atom(1, 0, 0, 0))
	table.Help()
	if table.Full() || table.Look(atom(1, 9, 0, 0)) != 0 || table.Full() {
		t.Error("nothing was refused yet")
	}
	if table.Number(atom(1, 0, 0, 0)) != 1 || table.Full() {
		t.Error("one that has a number isn't refused")
	}
	if table.Number(atom(1, 1, 0, 0)) != 0 || !table.Full() || table.Len() != 2 || table.Help() != 0 {
		t.Error("a third one is refused")
	}
	if table.Number(atom(9, 0, 0, 0)) != 2 || !table.Full() {
		t.Error("what was there stays")
	}
	for _, limit := range []int{0, -1, math.MinInt} {
		table := New(limit)
		if table.Full() || table.Help() != 0 || !table.Full() || table.Len() != 0 {
			t.Error(limit)
		}
	}
	if table := New(1); table.Help() != 1 || table.Help() != 0 || !table.Full() {
		t.Error("a help is refused too")
	}
}

func TestGreatestLimit(t *testing.T) {
	table := New(math.MaxInt)
	for i := range 65536 {
		if table.Number(atom(1, i, 0, 0)) != i+1 {
			t.Fatal(i)
		}
	}
	if table.Full() || table.Help() != 0 || !table.Full() {
		t.Error("65536 atoms may be")
	}
}

func TestHelp(t *testing.T) {
	table := New(100)
	table.Number(atom(api.HelpAtom, 1, 0, 0))
	table.Number(atom(api.HelpAtom, 0, 1, 0))
	table.Number(atom(api.HelpAtom, -1, 0, 0))
	for i, a := range []int{0, 2, 3, 5} {
		if a == 5 {
			table.Number(atom(api.HelpAtom, 4, 0, 0))
		}
		n := table.Help()
		if got, ok := table.At(n); !ok || got != atom(api.HelpAtom, a, 0, 0) {
			t.Error(i, n, got)
		}
	}
}

func TestNil(t *testing.T) {
	var table *Table
	if table.Number(api.Atom{}) != 0 || table.Help() != 0 || table.Look(api.Atom{}) != 0 || table.Len() != 0 || !table.Full() {
		t.Error("a nil table has none, and refuses all")
	}
	if _, ok := table.At(1); ok {
		t.Error("a nil table has none")
	}
}
