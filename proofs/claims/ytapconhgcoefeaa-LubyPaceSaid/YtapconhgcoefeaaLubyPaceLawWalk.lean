/- A pace begins anew and forgets as the document says. -/
import Derived.Test.YtapconhgcoefeaaLubyPaceWalk
namespace Go.Proofs.Ytapconhgcoefeaa.Luby
set_option linter.unusedVariables false
open Go.RowKit

/-- what is known of the slice that came in. -/
def IsRow (k : IntKind) (w : World) (a : Option Addr) (len cap : Nat) (zs : List Int) : Prop :=
  (a = none ∧ len = 0 ∧ cap = 0 ∧ zs = []) ∨
  ∃ x, a = some x ∧ len ≤ cap ∧ cap ≤ maxLen ∧ zs.length = cap ∧ (∀ i, i < zs.length → w.cell? (x.add i) = some (.int k (zs.getD i 0))) ∧ ∀ n ∈ zs, (Lit.int k n).wf = true

/-- the least amount of what is met in a turn. -/
def due (u r : Nat) : Int := sat ((u * lub (r + 1) : Nat) : Int)

structure PRel (W : World) (u : Nat) (rv : Value) (k : Int) (i r met : Nat) (wr : World) : Prop where
  blk : wr.heap[W.heap.size]? = some (blk u k r (due u r - met))
  lt : (met : Int) < due u r
  ri : r ≤ i
  mi : met ≤ i
  k1 : 1 ≤ k
  k2 : k ≤ 9223372036854775807
  big : 3000 < u → r = 0
  own : wr.ownsRow (W.heap.size + 1) 3 1 rv 1101 (lst 1100)
  bel : Below W.heap.size W wr
  sz : W.heap.size + 1 ≤ wr.heap.size

theorem own_block {w : World} {base : Nat} {e : TypeId} {size n : Nat} {v : Value} {xs : List Value} (h : w.ownsRow (base + 1) e size v n xs) : v.ownBlock = none ∨ v.ownBlock ≠ some base := by
  rcases h.2 with ⟨rfl, _⟩ | ⟨g, cap, cur, rfl, hb, _⟩
  · exact .inl rfl
  · right
    simp [Value.ownBlock]
    omega

theorem PRel.step {W : World} {u : Nat} {rv : Value} {k k' : Int} {i r r' met met' : Nat} {wr w' : World} (h : PRel W u rv k i r met wr)
    (hb : w'.heap[W.heap.size]? = some (Luby.blk u k' r' (due u r' - met'))) (hg : wr.grownBy w' (some W.heap.size))
    (h1 : (met' : Int) < due u r') (h2 : r' ≤ i + 1) (h3 : met' ≤ i + 1) (h4 : 1 ≤ k') (h5 : k' ≤ 9223372036854775807) (h6 : 3000 < u → r' = 0) : PRel W u rv k' (i + 1) r' met' w' :=
  ⟨hb, h1, h2, h3, h4, h5, h6, h.own.kept hg (own_block h.own), h.bel.grown hg (by have := h.sz; omega) (fun k hk => by cases hk; omega), by have := hg.size; have := h.sz; omega⟩

theorem due_pos (u r : Nat) (hu : 1 ≤ u) (hr : r < 100000) : 1 ≤ due u r := by
  have := lub_pos (r + 1) (by omega) (by omega)
  have h : 1 * 1 ≤ u * lub (r + 1) := Nat.mul_le_mul hu this.1
  exact sat_pos _ (by omega)
theorem due_small (u r : Nat) (hu : u ≤ 3000) (hr : r ≤ 1000) : due u r = ((u * lub (r + 1) : Nat) : Int) ∧ u * lub (r + 1) ≤ 3000 * 1001 := by
  have := lub_pos (r + 1) (by omega) (by omega)
  have h : u * lub (r + 1) ≤ 3000 * 1001 := Nat.mul_le_mul hu (by omega)
  exact ⟨sat_id _ (by omega), h⟩
theorem lub_one : lub 1 = 1 := lub_small.1
theorem due_great (u : Nat) (hu : u ≤ 9223372036854775807) : due u 0 = u := by
  unfold due
  rw [Nat.zero_add, lub_one, Nat.mul_one]
  exact sat_id _ (by omega)

/-- one conflict. -/
theorem pace_round {W : World} {u : Nat} {rv : Value} {k : Int} {i r met : Nat} {wr : World} (h : PRel W u rv k i r met wr) (n : Int) (hi : i < 1000) (hu : 1 ≤ u) (hu2 : u ≤ 9223372036854775807) :
    ∃ (x y : Bool) (k2 : Int) (r2 met2 : Nat),
      Calls Try.prog 15 #[.pointer (some ⟨W.heap.size, 0, none⟩), .int .i64 n] wr (fun e w' => e = .returned (.tuple #[.bool x, .bool y]) ∧ PRel W u rv k2 (i + 1) r2 met2 w') ∧
      y = decide (k < n) ∧ (u ≤ 3000 → x = ((met : Int) + 1 == ((u * lub (r + 1) : Nat) : Int))) ∧ (3000 < u → x = false) ∧ (x = true → r2 = r + 1 ∧ met2 = 0) ∧ (x = false → r2 = r ∧ met2 = met + 1) ∧
      (k < n → k2 = sat (k + (k / 2 + 1))) ∧ (¬ k < n → k2 = k) := by
  have hr := h.ri
  have hm := h.mi
  have hk1 := h.k1
  have hk2 := h.k2
  have hlt := h.lt
  have hd2 : due u r ≤ 9223372036854775807 := sat_le _
  have hk3 : 1 ≤ sat (k + (k / 2 + 1)) ∧ sat (k + (k / 2 + 1)) ≤ 9223372036854775807 := ⟨sat_pos _ (by omega), sat_le _⟩
  by_cases h1 : due u r - met = 1
  · -- the turn is over
    have hu3 : u ≤ 3000 := by
      apply Nat.le_of_not_lt
      intro hb
      have := h.big hb
      subst this
      rw [due_great u hu2] at h1
      omega
    have hds := due_small u r hu3 (by omega)
    have hx : ((met : Int) + 1 == ((u * lub (r + 1) : Nat) : Int)) = true := by rw [beq_iff_eq, ← hds.1]; omega
    have hnew : 1 ≤ due u (r + 1) := due_pos u (r + 1) hu (by omega)
    have hB : wr.heap[W.heap.size]? = some (Luby.blk u k r 1) := by rw [h.blk, h1]
    have hbig : 3000 < u → r + 1 = 0 := fun hb => by omega
    have fin : ∀ (y : Bool) (k' : Int) (e : Ending) (w' : World), 1 ≤ k' → k' ≤ 9223372036854775807 → After W.heap.size u k' ((r : Int) + 1) (sat ((u * lub (r + 2) : Nat) : Int)) true y wr e w' →
        e = .returned (.tuple #[.bool true, .bool y]) ∧ PRel W u rv k' (i + 1) (r + 1) 0 w' := by
      intro y k' e w' g1 g2 ⟨he, hb, hg⟩
      refine ⟨he, h.step ?_ hg (by omega) (by omega) (by omega) g1 g2 hbig⟩
      rw [hb]
      have e1 : due u (r + 1) - (0 : Nat) = sat ((u * lub (r + 2) : Nat) : Int) := by unfold due; simp
      rw [e1]
      rfl
    by_cases hkn : k < n
    · refine ⟨true, true, _, r + 1, 0, (conflict_11 W.heap.size u r k n wr hB hkn hk1 hk2 (by omega) hu2).mono fun e w' ha => fin true _ e w' hk3.1 hk3.2 ha, by simp [hkn], fun _ => hx.symm, fun hb => by omega, fun _ => ⟨rfl, rfl⟩, fun hf => by simp at hf, fun _ => rfl, fun hf => absurd hkn hf⟩
    · refine ⟨true, false, _, r + 1, 0, (conflict_10 W.heap.size u r k n wr hB (by omega) (by omega) hu2).mono fun e w' ha => fin false _ e w' hk1 hk2 ha, by simp [hkn], fun _ => hx.symm, fun hb => by omega, fun _ => ⟨rfl, rfl⟩, fun hf => by simp at hf, fun hf => absurd hf hkn, fun _ => rfl⟩
  · have hx : u ≤ 3000 → false = ((met : Int) + 1 == ((u * lub (r + 1) : Nat) : Int)) := by
      intro hu3
      have hds := due_small u r hu3 (by omega)
      symm
      rw [beq_eq_false_iff_ne, ← hds.1]
      omega
    have hB := h.blk
    have fin : ∀ (y : Bool) (k' : Int) (e : Ending) (w' : World), 1 ≤ k' → k' ≤ 9223372036854775807 → After W.heap.size u k' (r : Int) (due u r - met - 1) false y wr e w' →
        e = .returned (.tuple #[.bool false, .bool y]) ∧ PRel W u rv k' (i + 1) r (met + 1) w' := by
      intro y k' e w' g1 g2 ⟨he, hb, hg⟩
      refine ⟨he, h.step ?_ hg (by omega) (by omega) (by omega) g1 g2 h.big⟩
      rw [hb]
      have e1 : due u r - ((met + 1 : Nat) : Int) = due u r - met - 1 := by omega
      rw [e1]
    by_cases hkn : k < n
    · refine ⟨false, true, _, r, met + 1, (conflict_01 W.heap.size u k r _ n wr hB (by omega) (by omega) hkn hk1 hk2).mono fun e w' ha => fin true _ e w' hk3.1 hk3.2 ha, by simp [hkn], hx, fun _ => rfl, fun hf => by simp at hf, fun _ => ⟨rfl, rfl⟩, fun _ => rfl, fun hf => absurd hkn hf⟩
    · refine ⟨false, false, _, r, met + 1, (conflict_00 W.heap.size u k r _ n wr hB (by omega) (by omega) (by omega)).mono fun e w' ha => fin false _ e w' hk1 hk2 ha, by simp [hkn], hx, fun _ => rfl, fun hf => by simp at hf, fun _ => ⟨rfl, rfl⟩, fun hf => absurd hf hkn, fun _ => rfl⟩

end Go.Proofs.Ytapconhgcoefeaa.Luby
