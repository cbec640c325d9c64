/- A way round, of all starts; the document's own example. -/
import Derived.Test.YtbffcehaednefaaOrderE
namespace Go.Proofs.Ytbffcehaednefaa.Order
set_option linter.unusedVariables false
set_option linter.unusedSimpArgs false
open Go.RowKit

def CircleEnd (E : Es) (w : World) (e : Ending) (w' : World) : Prop :=
  ∃ A' c' Q, e = .returned (.slice A' (Q : List Nat).length c') ∧ Below w.heap.size w w' ∧ ((Q = [] ∧ ¬ Cyclic E) ∨ (IsCycle E Q ∧ Way E (Q.getD 0 0) (Q.getD 0 0) ∧ (∀ v, v < Q.getD 0 0 → ¬ Way E v v) ∧ IRow w' w'.heap.size A' (ints Q) ∧ (Q.length ≤ c' ∧ c' ≤ maxLen)))

set_option maxHeartbeats 4000000 in
set_option maxRecDepth 100000 in
theorem circle_any (A : Option Addr) (E : Es) (n c : Nat) (w : World) (h : ERow w w.heap.size A E) (hn : n = E.length) (hm : n ≤ 100) :
    Calls Try.prog 35 #[.slice A n c] w (CircleEnd E w) := by
  have z : (n : Int) ≤ 100 := by omega
  have HN := Lib.hid hn
  have H := Lib.hid h
  have HM := Lib.hid hm
  clear hn h hm
  go_enter Try.func35, Try.ntmps35
  go_wp2_with fail
  go_loopw [7] (fun v wr => ∃ k : Nat, v = .int .i64 k ∧ k ≤ n ∧ Below w.heap.size w wr ∧ ∀ u, u < k → ¬ Way E u u) (fun v _ => n - (intOf v).toNat)
  case atStart => exact ⟨0, rfl, Nat.zero_le _, Below.refl _ _, fun u hu => absurd hu (Nat.not_lt_zero _)⟩
  case round =>
    obtain ⟨k, rfl, hk, hbel, hno⟩ := hrel
    obtain ⟨wo, rfl⟩ : ∃ wo : World, wo = wr := ⟨_, rfl⟩
    have J := Lib.hid hbel
    have NO := Lib.hid hno
    clear hbel hno
    by_cases hlt : k < n
    · have hlt' : (k : Int) < (n : Int) := by omega
      have WB := Lib.hid (wayBack_any A E n c k wo (H.out.below J.out.size J.out) HN.out HM.out hlt)
      go_wp2_with fail
      go_at_call 57; refine WB.out.mono ?_; rintro e w2 ⟨A', c', Q, rfl, hb, hq⟩
      have B2 := Lib.hid (J.out.trans (hb.mono J.out.size))
      have Q2 := Lib.hid hq
      clear hb hq WB
      rcases Nat.eq_zero_or_pos Q.length with h0 | h0
      · have NK : Hid (∀ u, u < k + 1 → ¬ Way E u u) := Lib.hid (fun u hu => by
          rcases Nat.lt_or_ge u k with h1 | h1
          · exact NO.out u h1
          · obtain rfl : u = k := by omega
            rcases Q2.out with ⟨_, h2⟩ | ⟨h2, _⟩
            · exact h2
            · exact absurd (List.eq_nil_of_length_eq_zero h0) h2.1.ne)
        rw [h0]
        go_wp2_with fail
        go_roundw
        case rel => exact ⟨k + 1, by go_num, by omega, B2.out, NK.out⟩
        case measure => simp [intOf]; omega
      · have h0' : (0 : Int) < (Q.length : Int) := by omega
        have END : Hid (IsCycle E Q ∧ Way E (Q.getD 0 0) (Q.getD 0 0) ∧ (∀ v, v < Q.getD 0 0 → ¬ Way E v v) ∧ IRow w2 w2.heap.size A' (ints Q) ∧ (Q.length ≤ c' ∧ c' ≤ maxLen)) := Lib.hid (by
          rcases Q2.out with ⟨h1, _⟩ | ⟨⟨h1, h2⟩, h3, h4⟩
          · rw [h1] at h0; simp at h0
          · rw [h2]; exact ⟨h1, h3, NO.out, h4⟩)
        go_wp2_with fail
        go_ret
        exact ⟨A', c', Q, rfl, B2.out, .inr END.out⟩
    · obtain rfl : k = n := by omega
      have NC : Hid (¬ Cyclic E) := Lib.hid (by
        rintro ⟨v, hv⟩
        obtain ⟨t, ht, _⟩ := way_head hv
        exact NO.out v (by have := ht.1; have := HN.out; omega) hv)
      go_wp2_with fail
      go_ret
      exact ⟨none, 0, [], rfl, J.out, .inl ⟨rfl, NC.out⟩⟩

/-! ### the document's example -/
abbrev E0 : Es := [[1], [0]]
theorem edge0 {p t : Nat} (h : Edge E0 p t) : (p = 0 ∧ t = 1) ∨ (p = 1 ∧ t = 0) := by
  obtain ⟨h1, h2, h3⟩ := h
  have h1' : p < 2 := h1
  have h2' : t < 2 := h2
  match p, h1' with
  | 0, _ => left; simp at h3; omega
  | 1, _ => right; simp at h3; omega
theorem edge01 : Edge E0 0 1 := ⟨by decide, by decide, by simp⟩
theorem edge10 : Edge E0 1 0 := ⟨by decide, by decide, by simp⟩
theorem way0 : Way E0 0 0 := .tail (.single edge01) edge10
theorem cycle0 {Q : List Nat} (h : IsCycle E0 Q) (hl : ∀ v, v < Q.getD 0 0 → ¬ Way E0 v v) : Q.length = 2 ∧ Q.getD 0 0 = 0 ∧ Q.getD 1 0 = 1 := by
  have q0 : Q.getD 0 0 = 0 := by
    rcases Nat.eq_zero_or_pos (Q.getD 0 0) with h0 | h0
    · exact h0
    · exact absurd way0 (hl 0 h0)
  have hpos : 0 < Q.length := List.length_pos_iff.2 h.ne
  have hle : Q.length ≤ 2 := by
    have := nodup_sub Q (List.range 2) h.nodup (fun x hx => by
      obtain ⟨i, hi, e⟩ := List.getElem_of_mem hx
      have := h.lt i hi
      rw [List.getD_eq_getElem?_getD, List.getElem?_eq_getElem hi, Option.getD_some, e] at this
      exact List.mem_range.2 this)
    simpa using this
  have hb := h.back
  rw [q0] at hb
  rcases Nat.lt_or_ge 1 Q.length with h1 | h1
  · have hs := h.step 0 (by omega)
    rw [q0] at hs
    rcases edge0 hs with ⟨_, h2⟩ | ⟨h2, _⟩
    · exact ⟨by omega, q0, h2⟩
    · omega
  · have e : Q.length - 1 = 0 := by omega
    rw [e, q0] at hb
    rcases edge0 hb with ⟨_, h2⟩ | ⟨h2, _⟩ <;> omega

abbrev W1 (w : World) : World := w.alloc (.cells #[.int .i64 1] 3)
abbrev W2 (w : World) : World := (W1 w).alloc (.cells #[.int .i64 0] 3)
abbrev W3 (w : World) : World := (W2 w).alloc (.cells #[.slice (some ⟨w.heap.size, 0, none⟩) 1 1, .slice (some ⟨w.heap.size + 1, 0, none⟩) 1 1] 52)
theorem erow0 (w : World) : ERow (W3 w) (W3 w).heap.size (some ⟨w.heap.size + 2, 0, none⟩) E0 := by
  have s1 : (W1 w).heap.size = w.heap.size + 1 := by simp
  have s2 : (W2 w).heap.size = w.heap.size + 2 := by simp
  have s3 : (W3 w).heap.size = w.heap.size + 3 := by simp
  have a1 : (W3 w).heap[w.heap.size]? = some (.cells #[.int .i64 1] 3 (0, 0)) := by
    rw [Below.heap_alloc _ _ _ (by omega), Below.heap_alloc _ _ _ (by omega)]; exact heap_alloc_new w _
  have a2 : (W3 w).heap[w.heap.size + 1]? = some (.cells #[.int .i64 0] 3 (0, 0)) := by
    rw [Below.heap_alloc _ _ _ (by omega), ← s1]; exact heap_alloc_new (W1 w) _
  have a3 : (W3 w).heap[w.heap.size + 2]? = some (.cells #[.slice (some ⟨w.heap.size, 0, none⟩) 1 1, .slice (some ⟨w.heap.size + 1, 0, none⟩) 1 1] 52 (0, 0)) := by
    rw [← s2]; exact heap_alloc_new (W2 w) _
  refine .inr ⟨w.heap.size + 2, 0, rfl, by omega, fun j hj => ?_⟩
  have hj' : j < 2 := hj
  match j, hj' with
  | 0, _ => exact ⟨some ⟨w.heap.size, 0, none⟩, 1, 1, rfl, Nat.le_refl _, by unfold maxLen; omega, .inr ⟨w.heap.size, 0, rfl, by omega, fun i hi => by
      obtain rfl : i = 0 := by simpa using hi
      exact blk_cell a1 rfl⟩, blk_cell a3 rfl⟩
  | 1, _ => exact ⟨some ⟨w.heap.size + 1, 0, none⟩, 1, 1, rfl, Nat.le_refl _, by unfold maxLen; omega, .inr ⟨w.heap.size + 1, 0, rfl, by omega, fun i hi => by
      obtain rfl : i = 0 := by simpa using hi
      exact blk_cell a2 rfl⟩, blk_cell a3 rfl⟩
set_option maxHeartbeats 4000000 in
set_option maxRecDepth 100000 in
theorem fixed_any (w : World) : Calls Try.prog 34 #[] w fun e w' => e = .returned (.bool true) ∧ Below w.heap.size w w' := by
  have CP := Lib.hid (circle_any (some ⟨w.heap.size + 2, 0, none⟩) E0 2 2 (W3 w) (erow0 w) rfl (by omega))
  have B3 : Hid (Below w.heap.size w (W3 w)) := Lib.hid ((((Below.refl w.heap.size w).alloc (Nat.le_refl _) _).alloc (by simp) _).alloc (by simp; omega) _)
  go_enter Try.func34, Try.ntmps34
  go_wp2_with fail
  go_at_call 35; refine CP.out.mono ?_; rintro e w2 ⟨A', c', Q, rfl, hb, hq⟩
  have B2 := Lib.hid (B3.out.trans (hb.mono B3.out.size))
  clear hb CP
  rcases hq with ⟨_, h⟩ | ⟨h1, _, h2, h3, _⟩
  · exact absurd ⟨0, way0⟩ h
  · obtain ⟨e1, e2, e3⟩ := cycle0 h1 h2
    rcases h3 with h3 | ⟨b, o, rfl, hb, hc⟩
    · have := congrArg List.length h3; rw [ints_len, e1] at this; simp at this
    have c0 := hc 0 (by rw [ints_len, e1]; omega)
    have c1 := hc 1 (by rw [ints_len, e1]; omega)
    rw [ints_at, e2] at c0
    rw [ints_at, e3] at c1
    rw [e1]
    rw [Nat.add_zero] at c0
    clear hc h1 h2 e1 e2 e3
    go_wp2_with fail
    go_ret
    exact ⟨rfl, B2.out⟩

end Go.Proofs.Ytbffcehaednefaa.Order
