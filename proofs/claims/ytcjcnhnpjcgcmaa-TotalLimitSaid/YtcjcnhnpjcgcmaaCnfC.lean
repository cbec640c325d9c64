/- Clauses: a row without literals that are none; do clauses hold. -/
import Derived.Test.YtcjcnhnpjcgcmaaCnfB
namespace Go.Proofs.Ytcjcnhnpjcgcmaa.Cnf
set_option linter.unusedVariables false
set_option linter.unusedSimpArgs false
open Go.RowKit
open Go.Proofs.Ytcjcnhnpjcgcmaa.Order (IRow ERow add_at)

def RgL (l : List Int) : Prop := ∀ x ∈ l, Rg x
theorem RgL.at {l : List Int} (h : RgL l) {i : Nat} (hi : i < l.length) : Rg (l.getD i 0) := by
  rw [List.getD_eq_getElem?_getD, List.getElem?_eq_getElem hi]; exact h _ (List.getElem_mem hi)
theorem contains_any (A : Option Addr) (l : List Int) (n c : Nat) (x : Int) (w : World) (h : IRow w w.heap.size A l) (hn : n = l.length) (hm : n ≤ maxLen) :
    Calls Try.prog 40 #[.slice A n c, .int .i64 x] w fun e w' => e = .returned (.bool (l.contains x)) ∧ w = w' := by
  rcases h with h | ⟨b, o, rfl, hb, hc⟩
  · subst h
    simp at hn
    subst hn
    exact (Try.slices_Contains_int_empty A c x w).mono fun e w' ⟨h1, h2⟩ => ⟨h1, h2.symm⟩
  · have h := Try.slices_Contains_int b o n c l x w (by omega) (by unfold maxLen at hm; omega) hc
    rw [hn, List.take_length, ← hn] at h
    exact h.mono fun e w' ⟨h1, h2⟩ => ⟨h1, h2.symm⟩
def hasNone (l : List Int) : Bool := l.contains 0 || l.contains (-9223372036854775808)
theorem hasNone_iff (l : List Int) : hasNone l = true ↔ ∃ x ∈ l, noneI x = true := by
  unfold hasNone noneI
  simp
  constructor
  · rintro (h | h)
    · exact ⟨0, h, .inl rfl⟩
    · exact ⟨_, h, .inr rfl⟩
  · rintro ⟨x, hx, rfl | rfl⟩
    · exact .inl hx
    · exact .inr hx
set_option maxHeartbeats 400000 in
theorem hasNone_any (A : Option Addr) (l : List Int) (n c : Nat) (w : World) (h : IRow w w.heap.size A l) (hn : n = l.length) (hm : n ≤ maxLen) :
    Calls Try.prog 28 #[.slice A n c] w fun e w' => e = .returned (.bool (hasNone l)) ∧ w = w' := by
  have C1 := Lib.hid (contains_any A l n c 0 w h hn hm)
  have C2 := Lib.hid (contains_any A l n c (-9223372036854775808) w h hn hm)
  have F : Hid (hasNone l = (l.contains 0 || l.contains (-9223372036854775808))) := Lib.hid rfl
  obtain ⟨p, hp⟩ : ∃ p, p = l.contains 0 := ⟨_, rfl⟩
  obtain ⟨q, hq⟩ : ∃ p, p = l.contains (-9223372036854775808) := ⟨_, rfl⟩
  rw [← hp] at C1 F
  rw [← hq] at C2 F
  clear hp hq h hn hm
  cases p with
  | true =>
    go_enter Try.func28, Try.ntmps28
    go_wp2_with fail
    refine C1.out.mono ?_
    rintro e w' ⟨rfl, rfl⟩
    go_wp2_with fail
    go_ret
    exact ⟨ret_bool (by rw [F.out]; rfl), rfl⟩
  | false =>
    go_enter Try.func28, Try.ntmps28
    go_wp2_with fail
    refine C1.out.mono ?_
    rintro e w' ⟨rfl, rfl⟩
    go_wp2_with fail
    refine C2.out.mono ?_
    rintro e w' ⟨rfl, rfl⟩
    go_wp2_with fail
    go_ret
    exact ⟨ret_bool (by rw [F.out]; rfl), rfl⟩

/-! ### the program's Holds -/
theorem anyI_next (p : Int → Bool) (l : List Int) (k : Nat) (hk : k < l.length) : (l.take (k + 1)).any p = ((l.take k).any p || p (l.getD k 0)) := by
  rw [List.take_succ_eq_append_getElem hk, List.any_append]
  have : l[k] = l.getD k 0 := by rw [List.getD_eq_getElem?_getD, List.getElem?_eq_getElem hk]; rfl
  rw [this]; simp
abbrev fnH (p : Addr) : Value := .func (.func 33) #[] #[.pointer (some p)]
set_option maxHeartbeats 400000 in
theorem soH_any (n : Int) (p : Addr) (A : Option Addr) (m : List Bool) (k c : Nat) (w : World) (hn : Rg n) (hc : w.cell? p = some (.slice A k c)) (h : BRow w w.heap.size A m) (hk : k = m.length) (hm : k ≤ maxLen) :
    Calls Try.prog 33 #[.int .i64 n, .pointer (some p)] w fun e w' => e = .returned (.bool (soB m n)) ∧ w = w' := by
  have C1 := Lib.hid (soC_any n A m k c w hn h hk hm)
  clear h hk hm hn
  go_enter Try.func33, Try.ntmps33
  go_wp2_with fail
  refine C1.out.mono ?_
  rintro e w' ⟨rfl, rfl⟩
  go_wp2_with fail
  go_ret
  exact ⟨rfl, rfl⟩
/-- a place where it is so, or -1. -/
def IdxIs (b : Bool) (z : Int) : Prop := (z = -1 ∧ b = false) ∨ (0 ≤ z ∧ b = true)
set_option maxHeartbeats 1000000 in
theorem idxH_any (B : Option Addr) (l : List Int) (n d : Nat) (p : Addr) (A : Option Addr) (m : List Bool) (k c : Nat) (w : World) (hl : IRow w w.heap.size B l) (hn : n = l.length) (hnm : n ≤ maxLen) (hr : RgL l)
    (hc : w.cell? p = some (.slice A k c)) (h : BRow w w.heap.size A m) (hk : k = m.length) (hm : k ≤ maxLen) :
    Calls Try.prog 47 #[.slice B n d, fnH p] w fun e w' => ∃ z, e = .returned (.int .i64 z) ∧ IdxIs (l.any (soB m)) z ∧ w = w' := by
  have h63 : (n : Int) ≤ 9223372036854775807 := by unfold maxLen at hnm; omega
  have CL : Hid (∀ x, Rg x → Calls Try.prog 33 #[.int .i64 x, .pointer (some p)] w fun e w' => e = .returned (.bool (soB m x)) ∧ w = w') := Lib.hid (fun x hx => soH_any x p A m k c w hx hc h hk hm)
  have HN := Lib.hid hn
  have HL := Lib.hid hl
  have HR := Lib.hid hr
  clear hn hl hr hc h hk hm hnm
  go_enter Try.func47, Try.ntmps47
  go_wp2_with fail
  go_loopw [5, 8] (fun _ v wr => ∃ i : Nat, v = .int .i64 i ∧ i ≤ n ∧ wr = w ∧ (l.take i).any (soB m) = false) (fun _ v _ => n - (intOf v).toNat)
  case atStart => exact ⟨0, rfl, Nat.zero_le _, rfl, rfl⟩
  case round =>
    obtain ⟨i, rfl, hi, rfl, hno⟩ := hrel
    have NO := Lib.hid hno
    clear hno
    by_cases hlt : i < n
    · have hlt' : (i : Int) < (n : Int) := by omega
      have IA : Hid (i < l.length) := Lib.hid (by have := HN.out; omega)
      rcases HL.out with h' | ⟨b, o, rfl, hb, hcell⟩
      · exfalso; have := IA.out; rw [h'] at this; simp at this
      have e5 := hcell i IA.out
      have CX := Lib.hid (CL.out _ (HR.out.at IA.out))
      have NX := Lib.hid (anyI_next (soB m) l i IA.out)
      have AL : Hid (soB m (l.getD i 0) = true → l.any (soB m) = true) := Lib.hid (fun h => by
        rw [List.any_eq_true]
        refine ⟨l.getD i 0, ?_, h⟩
        rw [List.getD_eq_getElem?_getD, List.getElem?_eq_getElem IA.out]; exact List.getElem_mem _)
      obtain ⟨x, hx⟩ : ∃ x, x = l.getD i 0 := ⟨_, rfl⟩
      rw [← hx] at e5 CX NX AL
      clear hx hcell
      cases hq : soB m x with
      | true =>
        have F : Hid (IdxIs (l.any (soB m)) (i : Int)) := Lib.hid (.inr ⟨by omega, AL.out hq⟩)
        rw [hq] at CX
        clear hq
        go_wp2_with fail
        refine CX.out.mono ?_
        rintro e w' ⟨rfl, rfl⟩
        go_wp2_with fail
        go_ret
        exact ⟨_, rfl, F.out, rfl⟩
      | false =>
        have F : Hid ((l.take (i + 1)).any (soB m) = false) := Lib.hid (by rw [NX.out, NO.out, hq]; rfl)
        rw [hq] at CX
        clear hq
        go_wp2_with fail
        refine CX.out.mono ?_
        rintro e w' ⟨rfl, rfl⟩
        go_wp2_with fail
        go_roundw
        case rel => exact ⟨i + 1, by go_num, by omega, trivial, F.out⟩
        case measure => simp [intOf]; omega
    · have e : i = n := by omega
      subst e
      have F : Hid (IdxIs (l.any (soB m)) (-1)) := Lib.hid (.inl ⟨rfl, by
        have h := NO.out
        rwa [HN.out, List.take_of_length_le (Nat.le_refl _)] at h⟩)
      go_wp2_with fail
      go_ret
      exact ⟨-1, rfl, F.out, rfl⟩
set_option maxHeartbeats 400000 in
theorem conH_any (B : Option Addr) (l : List Int) (n d : Nat) (p : Addr) (A : Option Addr) (m : List Bool) (k c : Nat) (w : World) (hl : IRow w w.heap.size B l) (hn : n = l.length) (hnm : n ≤ maxLen) (hr : RgL l)
    (hc : w.cell? p = some (.slice A k c)) (h : BRow w w.heap.size A m) (hk : k = m.length) (hm : k ≤ maxLen) :
    Calls Try.prog 35 #[.slice B n d, fnH p] w fun e w' => e = .returned (.bool (l.any (soB m))) ∧ w = w' := by
  have I := Lib.hid (idxH_any B l n d p A m k c w hl hn hnm hr hc h hk hm)
  obtain ⟨q, hq⟩ : ∃ q, q = l.any (soB m) := ⟨_, rfl⟩
  rw [← hq] at I ⊢
  clear hq hl hn hnm hr hc h hk hm
  go_enter Try.func35, Try.ntmps35
  go_wp2_with fail
  refine I.out.mono ?_
  rintro e w' ⟨z, rfl, hz, rfl⟩
  rcases hz with ⟨rfl, rfl⟩ | ⟨h0, rfl⟩
  · go_wp2_with fail
    go_ret
    exact ⟨rfl, rfl⟩
  · go_wp2_with fail
    go_ret
    exact ⟨ret_bool (by simp [h0]), rfl⟩

def RgE (E : List (List Int)) : Prop := ∀ l ∈ E, RgL l
theorem RgE.at {E : List (List Int)} (h : RgE E) {i : Nat} (hi : i < E.length) : RgL (E.getD i []) := by
  rw [List.getD_eq_getElem?_getD, List.getElem?_eq_getElem hi]; exact h _ (List.getElem_mem hi)
theorem allE_next (p : List Int → Bool) (E : List (List Int)) (k : Nat) (hk : k < E.length) : (E.take (k + 1)).all p = ((E.take k).all p && p (E.getD k [])) := by
  rw [List.take_succ_eq_append_getElem hk, List.all_append]
  have : E[k] = E.getD k [] := by rw [List.getD_eq_getElem?_getD, List.getElem?_eq_getElem hk]; rfl
  rw [this]; simp
theorem allE_no (p : List Int → Bool) (E : List (List Int)) (k : Nat) (hk : k < E.length) (h : p (E.getD k []) = false) : E.all p = false := by
  rw [List.all_eq_false]
  refine ⟨E.getD k [], ?_, by simpa using h⟩
  rw [List.getD_eq_getElem?_getD, List.getElem?_eq_getElem hk]; exact List.getElem_mem _

set_option maxHeartbeats 2000000 in
set_option maxRecDepth 100000 in
theorem holdsC_any (B : Option Addr) (E : List (List Int)) (n d : Nat) (A : Option Addr) (m : List Bool) (k c : Nat) (w : World) (hl : ERow w w.heap.size B E) (hn : n = E.length) (hnm : n ≤ maxLen) (hr : RgE E)
    (h : BRow w w.heap.size A m) (hk : k = m.length) (hm : k ≤ maxLen) :
    Calls Try.prog 12 #[.slice B n d, .slice A k c] w fun e w' => e = .returned (.bool (holdsB m E)) ∧ Below w.heap.size w w' := by
  have hmf : ∀ (fn : Fn) (first cap : Array Value) (w : World), (Instr.makeFunc fn first cap).run Try.prog w = .ok (.func fn first cap) w := fun _ _ _ _ => rfl
  have h63 : (n : Int) ≤ 9223372036854775807 := by unfold maxLen at hnm; omega
  obtain ⟨W, hW⟩ : ∃ W, W = w.alloc (.cells #[.slice A k c] 23) := ⟨_, rfl⟩
  have BL : Hid (Below w.heap.size w W) := Lib.hid (by rw [hW]; exact (Below.refl _ _).alloc (Nat.le_refl _) _)
  have PC : W.cell? ⟨w.heap.size, 0, none⟩ = some (.slice A k c) := by rw [hW]; exact blk_cell (j := 0) (heap_alloc_new w _) rfl
  have CON : Hid (∀ (B : Option Addr) (l : List Int) (n d : Nat), IRow w w.heap.size B l → n = l.length → n ≤ maxLen → RgL l → Calls Try.prog 35 #[.slice B n d, fnH ⟨w.heap.size, 0, none⟩] W fun e w' => e = .returned (.bool (l.any (soB m))) ∧ W = w') := Lib.hid (fun B l n d h1 h2 h3 h4 =>
    conH_any B l n d ⟨w.heap.size, 0, none⟩ A m k c W (h1.below BL.out.size BL.out) h2 h3 h4 PC (h.below BL.out.size BL.out) hk hm)
  have HL := Lib.hid hl
  have HN := Lib.hid hn
  have HR := Lib.hid hr
  have FH : Hid (holdsB m E = E.all fun c => c.any (soB m)) := Lib.hid rfl
  have HW := Lib.hid hW
  clear hl hn hr h hk hm hnm PC hW
  go_enter Try.func12, Try.ntmps12
  go_wp2_with fail
  rw [← HW.out]
  clear HW
  go_loopw [7, 11] (fun _ v wr => ∃ i : Nat, v = .int .i64 i ∧ i ≤ n ∧ wr = W ∧ (E.take i).all (fun c => c.any (soB m)) = true) (fun _ v _ => n - (intOf v).toNat)
  case atStart => exact ⟨0, rfl, Nat.zero_le _, rfl, rfl⟩
  case round =>
    obtain ⟨i, rfl, hi, rfl, hno⟩ := hrel
    have NO := Lib.hid hno
    clear hno
    by_cases hlt : i < n
    · have hlt' : (i : Int) < (n : Int) := by omega
      have IA : Hid (i < E.length) := Lib.hid (by have := HN.out; omega)
      rcases HL.out with h' | ⟨b, o, rfl, hb, hcell⟩
      · exfalso; have := IA.out; rw [h'] at this; simp at this
      obtain ⟨A', n', c', g1, g2, g3, g4, g5⟩ := hcell i IA.out
      have CX := Lib.hid (CON.out A' _ n' c' g4 g1 (by omega) (HR.out.at IA.out))
      have e5 := (BL.out.cell (p := ⟨b, o + i, none⟩) hb).trans g5
      have NX := Lib.hid (allE_next (fun c => c.any (soB m)) E i IA.out)
      have NN := Lib.hid (allE_no (fun c => c.any (soB m)) E i IA.out)
      obtain ⟨x, hx⟩ : ∃ x, x = E.getD i [] := ⟨_, rfl⟩
      rw [← hx] at CX NX NN
      clear hx hcell g1 g2 g3 g4 g5
      cases hq : x.any (soB m) with
      | true =>
        have F : Hid ((E.take (i + 1)).all (fun c => c.any (soB m)) = true) := Lib.hid (by rw [NX.out, NO.out, hq]; rfl)
        rw [hq] at CX
        clear hq
        go_wp2_with fail
        refine CX.out.mono ?_
        rintro e w' ⟨rfl, rfl⟩
        go_wp2_with fail
        go_roundw
        case rel => exact ⟨i + 1, by go_num, by omega, trivial, F.out⟩
        case measure => simp [intOf]; omega
      | false =>
        have F := Lib.hid (FH.out.trans (NN.out hq))
        rw [hq] at CX
        clear hq
        go_wp2_with fail
        refine CX.out.mono ?_
        rintro e w' ⟨rfl, rfl⟩
        go_wp2_with fail
        go_ret
        exact ⟨ret_bool F.out.symm, BL.out⟩
    · have e : i = n := by omega
      subst e
      have F : Hid (holdsB m E = true) := Lib.hid (by
        rw [FH.out]
        have h := NO.out
        rwa [HN.out, List.take_of_length_le (Nat.le_refl _)] at h)
      go_wp2_with fail
      go_ret
      exact ⟨ret_bool F.out.symm, BL.out⟩

end Go.Proofs.Ytcjcnhnpjcgcmaa.Cnf
