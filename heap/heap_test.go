package heap

import (
	"math"
	"math/rand"
	"testing"
)

// plain is a heap as the chapter says it, without any order kept.
type plain struct {
	scores []uint64
	in     []bool
}

func newPlain(n int) *plain {
	p := &plain{scores: make([]uint64, n+1), in: make([]bool, n+1)}
	for i := range n {
		p.in[i+1] = true
	}
	return p
}

func (p *plain) may(atom int) bool { return atom >= 1 && atom < len(p.scores) }

func (p *plain) halve() {
	for i := range p.scores {
		p.scores[i] /= 2
	}
}

func (p *plain) bump(atom int, by uint64) {
	if !p.may(atom) {
		return
	}
	for p.scores[atom]+by > 1<<62 || p.scores[atom]+by < by {
		p.halve()
		by /= 2
	}
	p.scores[atom] += by
}

func (p *plain) pop() int {
	best := 0
	for i := 1; i < len(p.in); i++ {
		if p.in[i] && (best == 0 || p.scores[i] > p.scores[best]) {
			best = i
		}
	}
	p.in[best] = false
	return best
}

func TestExample(t *testing.T) {
	h := New(3)
	h.Bump(2, 5)
	for _, want := range []int{2, 1, 3, 0, 0} {
		if got := h.Pop(); got != want {
			t.Error(got, want)
		}
	}
	if h.Len() != 0 || h.Has(2) || h.Score(2) != 5 {
		t.Error("what is popped keeps its score")
	}
	if !h.Push(3) || h.Push(3) || !h.Push(2) || h.Push(0) || h.Push(4) || h.Push(-1) || h.Len() != 2 || !h.Has(3) {
		t.Error("pushed")
	}
	if h.Pop() != 2 || h.Pop() != 3 {
		t.Error("popped")
	}
}

func TestGreatScores(t *testing.T) {
	h := New(3)
	h.Bump(1, 1<<62)
	h.Bump(2, 7)
	if h.Score(1) != 1<<62 || h.Score(2) != 7 {
		t.Error("2^62 may be")
	}
	h.Bump(1, 1)
	if h.Score(1) != 1<<61 || h.Score(2) != 3 {
		t.Error(h.Score(1), h.Score(2))
	}
	h.Bump(3, math.MaxUint64)
	if h.Score(3) != math.MaxUint64>>2 || h.Score(1) != 1<<59 || h.Score(2) != 0 {
		t.Error(h.Score(1), h.Score(2), h.Score(3))
	}
}

// TestHalvedScoresMayBeTheSame: then the lower number is the first one.
func TestHalvedScoresMayBeTheSame(t *testing.T) {
	h := New(4)
	for atom, by := range []uint64{0, 2, 3, 4, 5} {
		h.Bump(atom, by)
	}
	h.Halve()
	for _, want := range []int{3, 4, 1, 2} {
		if got := h.Pop(); got != want {
			t.Error(got, want)
		}
	}
}

func TestAnyRowOfCalls(t *testing.T) {
	r := rand.New(rand.NewSource(17))
	for range 200 {
		n := r.Intn(12)
		h, p := New(n), newPlain(n)
		for range 300 {
			atom := r.Intn(n+3) - 1
			switch r.Intn(7) {
			case 0, 1:
				by := uint64(r.Intn(4))
				if r.Intn(20) == 0 {
					by = r.Uint64()
				}
				h.Bump(atom, by)
				p.bump(atom, by)
			case 2:
				if r.Intn(5) == 0 {
					h.Halve()
					p.halve()
				}
			case 3, 4:
				want := p.may(atom) && !p.in[atom]
				if want {
					p.in[atom] = true
				}
				if h.Push(atom) != want {
					t.Fatal("Push", atom)
				}
			case 5:
				if got, want := h.Pop(), p.pop(); got != want {
					t.Fatal("Pop", got, want)
				}
			}
			count := 0
			for i := -1; i <= n+1; i++ {
				in := p.may(i) && p.in[i]
				if in {
					count++
				}
				if h.Has(i) != in || p.may(i) && h.Score(i) != p.scores[i] || !p.may(i) && h.Score(i) != 0 {
					t.Fatal("Has, Score", i)
				}
			}
			if h.Len() != count {
				t.Fatal("Len", h.Len(), count)
			}
		}
	}
}

func TestSizes(t *testing.T) {
	for n, want := range map[int]int{-1: 0, math.MinInt: 0, 0: 0, 65536: 65536, 65537: 65536, math.MaxInt: 65536} {
		h := New(n)
		if h.Len() != want || h.Has(want) != (want > 0) || h.Has(want+1) {
			t.Error(n, h.Len())
		}
	}
}

func TestNil(t *testing.T) {
	var h *Heap
	h.Bump(1, 1)
	h.Halve()
	if h.Push(1) || h.Pop() != 0 || h.Has(1) || h.Len() != 0 || h.Score(1) != 0 {
		t.Error("a nil heap has none")
	}
}
