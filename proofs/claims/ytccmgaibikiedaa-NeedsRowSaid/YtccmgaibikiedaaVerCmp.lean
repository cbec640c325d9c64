/- The program's parts of a version, and how two texts stand to each other. -/
import Derived.Test.YtccmgaibikiedaaVerMay
namespace Go.Proofs.Ytccmgaibikiedaa.Ver
set_option linter.unusedVariables false
open Go.RowKit Go.Shelf

theorem bstep {w w1 w2 : World} (h : Below w.heap.size w w1) (h2 : Below w1.heap.size w1 w2) : Below w.heap.size w w2 := h.trans (h2.mono h.size)
theorem own_slice {w : World} {base : Nat} {e : TypeId} {v : Value} {n : Nat} {xs : List Value} (h : w.ownsRow base e 1 v n xs) : ∃ A cap, v = .slice A n cap := by
  rcases h.2 with ⟨rfl, rfl⟩ | ⟨g, cap, cur, rfl, _⟩
  · exact ⟨none, 0, rfl⟩
  · exact ⟨_, cap, rfl⟩

/-- behind a call that hands back a row of texts. -/
def RowPost (w : World) (l : List Bs) (e : Ending) (w' : World) : Prop :=
  ∃ A cap, e = .returned (.slice A l.length cap) ∧ Row w' w'.heap.size A l ∧ Below w.heap.size w w'
theorem CutPost.row {w : World} {l : List Bs} {e : Ending} {w' : World} (h : CutPost w l e w') : RowPost w l e w' := by
  obtain ⟨g, cap, rfl, hown, hb⟩ := h
  exact ⟨_, cap, rfl, (Row.of_own hown).1, hb⟩

set_option maxHeartbeats 1000000 in
theorem parts_yes (s : ByteArray) (w : World) (hv : mayV s.data.toList = true) : Calls Try.prog 74 #[.string s] w (RowPost w (cutAt 46 s.data.toList)) := by
  have hs : s.size ≤ 40 := by
    simp only [mayV, Bool.and_eq_true, decide_eq_true_eq] at hv
    have := hv.1.1.2
    rwa [len_list] at this
  have HM := Lib.hid (may_any s w (by unfold maxLen; omega))
  have HC := Lib.hid (fun x w hx => collect_parts x s (by omega) w hx)
  go_enter Try.func74, Try.ntmps74
  go_wp2_with fail
  go_at_call 72; refine HM.out.mono ?_; rintro e w1 ⟨rfl, hb1⟩; rw [hv]
  have HB1 := Lib.hid hb1
  clear hb1
  go_wp2_with fail
  go_at_call 87; refine (parts_any _ _).mono ?_; rintro e w2 ⟨rfl, hw2⟩
  have HW2 := Lib.hid hw2
  clear hw2
  go_wp2_with fail
  go_at_call 92; refine (HC.out w1.heap.size w2 (by rw [HW2.out]; exact heap_alloc_new w1 _)).mono ?_; rintro e w3 ⟨v, c, rfl, hrow, hb3⟩
  obtain ⟨A, cap, rfl⟩ := own_slice hrow
  have HR := Lib.hid (Row.of_own hrow)
  have HB3 := Lib.hid hb3
  clear hrow hb3
  go_wp2_with fail
  go_ret
  refine ⟨A, cap, rfl, HR.out.1, ?_⟩
  have h1 := HB1.out
  have h2 := HB3.out
  have e2 := HW2.out
  have hz : w2.heap.size = w1.heap.size + 1 := by rw [e2]; simp
  have h3 : Below w.heap.size w w2 := by rw [e2]; exact h1.alloc h1.size _
  have h4 : Below w.heap.size w (w2.setCell ⟨w1.heap.size, 0, none⟩ (.string c)) := h3.setCell (p := ⟨w1.heap.size, 0, none⟩) h1.size _
  exact h4.trans (h2.mono (by have := h1.size; omega))

set_option maxHeartbeats 1000000 in
theorem parts_no (s : ByteArray) (w : World) (hm : s.size ≤ maxLen) (hv : mayV s.data.toList = false) : Calls Try.prog 74 #[.string s] w fun e w' => e = .returned (.slice none 0 0) ∧ Below w.heap.size w w' := by
  have HM := Lib.hid (may_any s w hm)
  clear hm
  go_enter Try.func74, Try.ntmps74
  go_wp2_with fail
  go_at_call 72; refine HM.out.mono ?_; rintro e w1 ⟨rfl, hb1⟩; rw [hv]
  have HB1 := Lib.hid hb1
  clear hb1
  go_wp2_with fail
  go_ret
  exact ⟨rfl, HB1.out⟩

theorem part_le : ∀ (d : UInt8) (s : Bs), ∀ p ∈ cutAt d s, p.length ≤ s.length := by
  intro d s
  induction s with
  | nil => simp [cutAt]
  | cons c s ih =>
    obtain ⟨p, ps, e⟩ := cutAt_ne d s
    rw [cut_cons]
    rw [e] at ih ⊢
    by_cases h : c = d
    · rw [if_pos h]
      intro q hq
      rcases List.mem_cons.1 hq with rfl | hq
      · simp
      · have := ih q hq; simp; omega
    · rw [if_neg h]
      intro q hq
      rcases List.mem_cons.1 hq with rfl | hq
      · have := ih p (by simp); simp; omega
      · have := ih q (by simp [hq]); simp; omega
theorem may_facts {s : Bs} (hv : mayV s = true) : s.length ≤ 40 ∧ (cutAt 46 s).length ≤ 8 ∧ ∀ i, ((cutAt 46 s).getD i []).length ≤ 40 := by
  simp only [mayV, Bool.and_eq_true, decide_eq_true_eq] at hv
  refine ⟨hv.1.1.2, hv.2, fun i => ?_⟩
  have hl := hv.1.1.2
  rcases Nat.lt_or_ge i (cutAt 46 s).length with h | h
  · have e : (cutAt 46 s).getD i [] = (cutAt 46 s)[i] := by simp [List.getD_eq_getElem?_getD, List.getElem?_eq_getElem h]
    rw [e]
    exact Nat.le_trans (part_le 46 s _ (List.getElem_mem h)) hl
  · rw [getD_past _ _ h]; simp

set_option maxHeartbeats 2000000 in
theorem compare_any (a b : ByteArray) (w : World) (ha : a.size ≤ maxLen) (hb : b.size ≤ maxLen) :
    Calls Try.prog 47 #[.string a, .string b] w fun e w' => e = .returned (.int .i64 (cmpV a.data.toList b.data.toList)) ∧ Below w.heap.size w w' := by
  have HMA := Lib.hid (may_any a w ha)
  have HMB := Lib.hid (fun w => may_any b w hb)
  clear ha hb
  cases va : mayV a.data.toList with
  | false =>
    cases vb : mayV b.data.toList with
    | false =>
      have F : Hid (cmpV a.data.toList b.data.toList = 0) := Lib.hid (by rw [cmpV, va, vb]; rfl)
      go_enter Try.func47, Try.ntmps47
      go_wp2_with fail
      go_at_call 72; refine HMA.out.mono ?_; rintro e w1 ⟨rfl, hb1⟩; rw [va]; have HB1 := Lib.hid hb1; clear hb1
      go_wp2_with fail
      go_at_call 72; refine (HMB.out w1).mono ?_; rintro e w2 ⟨rfl, hb2⟩; rw [vb]; have HB2 := Lib.hid hb2; clear hb2
      go_wp2_with fail
      go_ret
      exact ⟨ret_int F.out.symm, bstep HB1.out HB2.out⟩
    | true =>
      have F : Hid (cmpV a.data.toList b.data.toList = -1) := Lib.hid (by rw [cmpV, va, vb]; rfl)
      go_enter Try.func47, Try.ntmps47
      go_wp2_with fail
      go_at_call 72; refine HMA.out.mono ?_; rintro e w1 ⟨rfl, hb1⟩; rw [va]; have HB1 := Lib.hid hb1; clear hb1
      go_wp2_with fail
      go_at_call 72; refine (HMB.out w1).mono ?_; rintro e w2 ⟨rfl, hb2⟩; rw [vb]; have HB2 := Lib.hid hb2; clear hb2
      go_wp2_with fail
      go_ret
      exact ⟨ret_int F.out.symm, bstep HB1.out HB2.out⟩
  | true =>
    cases vb : mayV b.data.toList with
    | false =>
      have F : Hid (cmpV a.data.toList b.data.toList = 1) := Lib.hid (by rw [cmpV, va, vb]; rfl)
      go_enter Try.func47, Try.ntmps47
      go_wp2_with fail
      go_at_call 72; refine HMA.out.mono ?_; rintro e w1 ⟨rfl, hb1⟩; rw [va]; have HB1 := Lib.hid hb1; clear hb1
      go_wp2_with fail
      go_at_call 72; refine (HMB.out w1).mono ?_; rintro e w2 ⟨rfl, hb2⟩; rw [vb]; have HB2 := Lib.hid hb2; clear hb2
      go_wp2_with fail
      go_ret
      exact ⟨ret_int F.out.symm, bstep HB1.out HB2.out⟩
    | true =>
      have F : Hid (cmpV a.data.toList b.data.toList = cmpParts (cutAt 46 a.data.toList) (cutAt 46 b.data.toList)) := Lib.hid (by rw [cmpV, va, vb]; rfl)
      have PA := Lib.hid (fun w => parts_yes a w va)
      have PB := Lib.hid (fun w => parts_yes b w vb)
      have FA := Lib.hid (may_facts va)
      have FB := Lib.hid (may_facts vb)
      go_enter Try.func47, Try.ntmps47
      go_wp2_with fail
      go_at_call 72; refine HMA.out.mono ?_; rintro e w1 ⟨rfl, hb1⟩; rw [va]; have HB1 := Lib.hid hb1; clear hb1
      go_wp2_with fail
      go_at_call 72; refine (HMB.out w1).mono ?_; rintro e w2 ⟨rfl, hb2⟩; rw [vb]; have HB2 := Lib.hid hb2; clear hb2
      clear HMA HMB va vb
      go_wp2_with fail
      go_at_call 74; refine (PA.out w2).mono ?_; rintro e w3 ⟨A1, c1, rfl, hr3, hb3⟩; have HR3 := Lib.hid hr3; have HB3 := Lib.hid hb3; clear hr3 hb3
      obtain ⟨n1, hn1⟩ : ∃ n, n = (cutAt 46 a.data.toList).length := ⟨_, rfl⟩
      rw [← hn1]
      have HN1 := Lib.hid hn1; clear hn1
      go_wp2_with fail
      go_at_call 74; refine (PB.out w3).mono ?_; rintro e w4 ⟨A2, c2, rfl, hr4, hb4⟩; have HR4 := Lib.hid hr4; have HB4 := Lib.hid hb4; clear hr4 hb4
      obtain ⟨n2, hn2⟩ : ∃ n, n = (cutAt 46 b.data.toList).length := ⟨_, rfl⟩
      rw [← hn2]
      have HN2 := Lib.hid hn2; clear hn2
      go_wp2_with fail
      go_at_call 73; refine (parts_cmp w4 (HR3.out.below HB4.out.size HB4.out) HR4.out n1 n2 c1 c2 HN1.out HN2.out (by have := FA.out.2.1; have := HN1.out; omega) (by have := FB.out.2.1; have := HN2.out; omega)
        (fun i => by have := FA.out.2.2 i; unfold maxLen; omega) (fun i => by have := FB.out.2.2 i; unfold maxLen; omega)).mono ?_; rintro e w5 ⟨rfl, rfl⟩
      go_wp2_with fail
      go_ret
      have h12 := bstep HB1.out HB2.out
      have h13 := bstep h12 HB3.out
      exact ⟨ret_int F.out.symm, bstep h13 HB4.out⟩

end Go.Proofs.Ytccmgaibikiedaa.Ver
