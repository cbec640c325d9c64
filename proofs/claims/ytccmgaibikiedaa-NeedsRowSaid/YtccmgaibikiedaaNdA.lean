/- Recipes: what a name may be. -/
import Derived.Test.YtccmgaibikiedaaDfA
import Derived.Lib.SmallJoins
namespace Go.Proofs.Ytccmgaibikiedaa.Dc
open Go.RowKit
set_option linter.unusedVariables false
set_option linter.unusedSimpArgs false
def tgtF (x : Rc) (nm : ByteArray) : List Int := if 0 ≤ findF x.packs nm then [findF x.packs nm] else provF x.packs nm
/-- numbers that a call has made. -/
def IntsEnd (l : List Int) (w : World) (e : Ending) (w' : World) : Prop :=
  ∃ A n c, e = .returned (.slice A n c) ∧ n = l.length ∧ w'.ownsRow w.heap.size 3 1 (.slice A n c) n (intsV l) ∧ Below w.heap.size w w'
theorem find_lt (x : Rc) (nm : ByteArray) : findF x.packs nm = -1 ∨ ∃ j : Nat, j < x.packs.length ∧ findF x.packs nm = (j : Int) := by
  rcases findG_lt (f := nmB nm) x.packs 0 with h | ⟨j, h1, h2⟩
  · exact .inl h
  · exact .inr ⟨j, h1, by unfold findF; rw [h2, Nat.zero_add]⟩
theorem provG_mem {α : Type} (f : α → Bool) : ∀ (l : List α) (k : Nat) (z : Int), z ∈ provG f l k → (k : Int) ≤ z ∧ z < k + l.length
  | [], _, z, h => by simp [provG] at h
  | a :: l, k, z, h => by
    unfold provG at h
    rw [List.length_cons]
    by_cases ha : f a = true
    · simp only [ha, if_true, List.mem_cons] at h
      rcases h with h | h
      · subst h; omega
      · have := provG_mem f l (k + 1) z h; omega
    · simp only [ha] at h
      have := provG_mem f l (k + 1) z (by simpa using h)
      omega
theorem tgt_mem {x : Rc} {nm : ByteArray} {z : Int} (h : z ∈ tgtF x nm) : 0 ≤ z ∧ z < x.packs.length := by
  unfold tgtF at h
  by_cases h0 : 0 ≤ findF x.packs nm
  · rw [if_pos h0, List.mem_singleton] at h
    subst h
    rcases find_lt x nm with e | ⟨j, h1, h2⟩ <;> omega
  · rw [if_neg h0] at h
    have := provG_mem _ _ _ _ h
    omega
set_option maxHeartbeats 4000000 in
set_option maxRecDepth 100000 in
theorem targets_any {w : World} {B : Nat} {x : Rc} {cs : List Value} (h : rcD w B cs x) (hB : B ≤ w.heap.size) (hl : x.packs.length ≤ 1000) (nm : ByteArray) : Calls Try.prog 27 #[.agg cs.toArray, .string nm] w (IntsEnd (tgtF x nm) w) := by
  obtain ⟨A1, n1, c1, A2, n2, c2, hcs, -, -⟩ := rc_cells h
  have R := Lib.hid (show Bxs w [(#[.slice A1 n1 c1, .slice A2 n2 c2], 25)] _ from (Bxs.nil w).push (by simp) #[.slice A1 n1 c1, .slice A2 n2 c2] 25)
  have KC : Hid (∀ W, Bxs w [(#[.slice A1 n1 c1, .slice A2 n2 c2], 25)] W → W.cell? ⟨w.heap.size, 0, none⟩ = some (.slice A1 n1 c1) ∧ W.cell? ⟨w.heap.size, 1, none⟩ = some (.slice A2 n2 c2)) := Lib.hid (fun W hR => ⟨blk_cell (j := 0) (hR.box 0 _ rfl) rfl, blk_cell (j := 1) (hR.box 0 _ rfl) rfl⟩)
  have DR : Hid (∀ W, Bxs w [(#[.slice A1 n1 c1, .slice A2 n2 c2], 25)] W → rcD W B [.slice A1 n1 c1, .slice A2 n2 c2] x ∧ B ≤ W.heap.size) := Lib.hid (fun W hR => by
    have h3 := rc_stays _ _ _ _ _ _ h (Nat.le_refl B) (hR.below.mono hB)
    rw [hcs] at h3
    exact ⟨h3, Nat.le_trans hB hR.below.size⟩)
  have C1 : Hid (∀ W, Bxs w [(#[.slice A1 n1 c1, .slice A2 n2 c2], 25)] W → Calls Try.prog 14 #[.agg #[.slice A1 n1 c1, .slice A2 n2 c2], .string nm] W fun e w' => e = .returned (.int .i64 (findF x.packs nm)) ∧ Below W.heap.size W w') := Lib.hid (fun W hR => find_any (DR.out W hR).1 (DR.out W hR).2 nm)
  have C2 : Hid (∀ W, Bxs w [(#[.slice A1 n1 c1, .slice A2 n2 c2], 25)] W → Calls Try.prog 12 #[.agg #[.slice A1 n1 c1, .slice A2 n2 c2], .string nm] W (NumsEnd x nm W)) := Lib.hid (fun W hR => providers_any (DR.out W hR).1 (DR.out W hR).2 hl nm)
  rw [hcs]
  clear h hcs hB
  obtain ⟨k0, k1⟩ := KC.out _ R.out
  show Calls Try.prog _ #[.agg #[.slice A1 n1 c1, .slice A2 n2 c2], .string nm] w _
  rcases find_lt x nm with hz | ⟨j, hj, hz⟩
  · have T0 : Hid (tgtF x nm = provF x.packs nm) := Lib.hid (by unfold tgtF; rw [hz, if_neg (by decide)])
    rw [hz] at C1
    clear hz
    go_enter Try.func27, Try.ntmps27
    go_wp2_with (first | (go_at_call 14; (with_reducible refine (C1.out _ R.out).mono ?_); rintro e v1 ⟨rfl, hb⟩; have R := Lib.hid (R.out.step hb); clear hb; obtain ⟨k0, k1⟩ := KC.out _ R.out) | (go_at_call 12; (with_reducible refine (C2.out _ R.out).mono ?_); rintro e v2 ⟨PA, pn, pc, rfl, hpn, -, hown, hb⟩; have HB := Lib.hid (And.intro R.out.below hb); have HO := Lib.hid (And.intro hpn hown); clear hb hown hpn))
    go_ret
    unfold IntsEnd
    rw [T0.out]
    exact ⟨PA, pn, pc, rfl, HO.out.1, Joins.ownsRow_le HO.out.2 R.out.below.size, HB.out.1.trans (HB.out.2.mono HB.out.1.size)⟩
  · have T0 : Hid (tgtF x nm = [(j : Int)]) := Lib.hid (by unfold tgtF; rw [hz, if_pos (by omega)])
    rw [hz] at C1
    clear hz
    go_enter Try.func27, Try.ntmps27
    go_wp2_with (go_at_call 14; (with_reducible refine (C1.out _ R.out).mono ?_); rintro e v1 ⟨rfl, hb⟩; have R := Lib.hid (R.out.step hb); clear hb; obtain ⟨k0, k1⟩ := KC.out _ R.out)
    go_ret
    unfold IntsEnd
    rw [T0.out]
    exact ⟨_, 1, 1, rfl, rfl, Joins.ownsRow_le (World.ownsRow_lit v1 #[.int .i64 (j : Nat)] 1 (Nat.le_refl _) (by unfold maxLen; omega) rfl) R.out.below.size, R.out.below.alloc R.out.below.size _⟩
set_option maxHeartbeats 4000000 in
set_option maxRecDepth 100000 in
theorem rtargets_any {w : World} {B : Nat} {x : Rc} {cs : List Value} (h : rcD w B cs x) (hB : B ≤ w.heap.size) (hl : x.packs.length ≤ 1000) (nm : ByteArray) : Calls Try.prog 28 #[.agg cs.toArray, .string nm] w (IntsEnd (tgtF x nm) w) := by
  obtain ⟨A1, n1, c1, A2, n2, c2, hcs, -, -⟩ := rc_cells h
  have R := Lib.hid (show Bxs w [(#[.slice A1 n1 c1, .slice A2 n2 c2], 25)] _ from (Bxs.nil w).push (by simp) #[.slice A1 n1 c1, .slice A2 n2 c2] 25)
  have KC : Hid (∀ W, Bxs w [(#[.slice A1 n1 c1, .slice A2 n2 c2], 25)] W → W.cell? ⟨w.heap.size, 0, none⟩ = some (.slice A1 n1 c1) ∧ W.cell? ⟨w.heap.size, 1, none⟩ = some (.slice A2 n2 c2)) := Lib.hid (fun W hR => ⟨blk_cell (j := 0) (hR.box 0 _ rfl) rfl, blk_cell (j := 1) (hR.box 0 _ rfl) rfl⟩)
  have DR : Hid (∀ W, Bxs w [(#[.slice A1 n1 c1, .slice A2 n2 c2], 25)] W → rcD W B [.slice A1 n1 c1, .slice A2 n2 c2] x ∧ B ≤ W.heap.size) := Lib.hid (fun W hR => by
    have h3 := rc_stays _ _ _ _ _ _ h (Nat.le_refl B) (hR.below.mono hB)
    rw [hcs] at h3
    exact ⟨h3, Nat.le_trans hB hR.below.size⟩)
  have C1 : Hid (∀ W, Bxs w [(#[.slice A1 n1 c1, .slice A2 n2 c2], 25)] W → Calls Try.prog 15 #[.agg #[.slice A1 n1 c1, .slice A2 n2 c2], .string nm] W fun e w' => e = .returned (.int .i64 (findF x.packs nm)) ∧ Below W.heap.size W w') := Lib.hid (fun W hR => rfind_any (DR.out W hR).1 (DR.out W hR).2 nm)
  have C2 : Hid (∀ W, Bxs w [(#[.slice A1 n1 c1, .slice A2 n2 c2], 25)] W → Calls Try.prog 13 #[.agg #[.slice A1 n1 c1, .slice A2 n2 c2], .string nm] W (NumsEnd x nm W)) := Lib.hid (fun W hR => rproviders_any (DR.out W hR).1 (DR.out W hR).2 hl nm)
  rw [hcs]
  clear h hcs hB
  obtain ⟨k0, k1⟩ := KC.out _ R.out
  show Calls Try.prog _ #[.agg #[.slice A1 n1 c1, .slice A2 n2 c2], .string nm] w _
  rcases find_lt x nm with hz | ⟨j, hj, hz⟩
  · have T0 : Hid (tgtF x nm = provF x.packs nm) := Lib.hid (by unfold tgtF; rw [hz, if_neg (by decide)])
    rw [hz] at C1
    clear hz
    go_enter Try.func28, Try.ntmps28
    go_wp2_with (first | (go_at_call 15; (with_reducible refine (C1.out _ R.out).mono ?_); rintro e v1 ⟨rfl, hb⟩; have R := Lib.hid (R.out.step hb); clear hb; obtain ⟨k0, k1⟩ := KC.out _ R.out) | (go_at_call 13; (with_reducible refine (C2.out _ R.out).mono ?_); rintro e v2 ⟨PA, pn, pc, rfl, hpn, -, hown, hb⟩; have HB := Lib.hid (And.intro R.out.below hb); have HO := Lib.hid (And.intro hpn hown); clear hb hown hpn))
    go_ret
    unfold IntsEnd
    rw [T0.out]
    exact ⟨PA, pn, pc, rfl, HO.out.1, Joins.ownsRow_le HO.out.2 R.out.below.size, HB.out.1.trans (HB.out.2.mono HB.out.1.size)⟩
  · have T0 : Hid (tgtF x nm = [(j : Int)]) := Lib.hid (by unfold tgtF; rw [hz, if_pos (by omega)])
    rw [hz] at C1
    clear hz
    go_enter Try.func28, Try.ntmps28
    go_wp2_with (go_at_call 15; (with_reducible refine (C1.out _ R.out).mono ?_); rintro e v1 ⟨rfl, hb⟩; have R := Lib.hid (R.out.step hb); clear hb; obtain ⟨k0, k1⟩ := KC.out _ R.out)
    go_ret
    unfold IntsEnd
    rw [T0.out]
    exact ⟨_, 1, 1, rfl, rfl, Joins.ownsRow_le (World.ownsRow_lit v1 #[.int .i64 (j : Nat)] 1 (Nat.le_refl _) (by unfold maxLen; omega) rfl) R.out.below.size, R.out.below.alloc R.out.below.size _⟩

end Go.Proofs.Ytccmgaibikiedaa.Dc
