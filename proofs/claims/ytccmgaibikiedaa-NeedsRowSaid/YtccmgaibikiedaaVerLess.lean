/- The document's Less and Compare. -/
import Derived.Test.YtccmgaibikiedaaVerRef
namespace Go.Proofs.Ytccmgaibikiedaa.Ver
set_option linter.unusedVariables false
open Go.RowKit Go.Shelf

theorem ok_at {s : Bs} (hv : mayV s = true) (i : Nat) : okP ((cutAt 46 s).getD i []) := by
  rcases Nat.lt_or_ge i (cutAt 46 s).length with h | h
  · right
    have e : (cutAt 46 s).getD i [] = (cutAt 46 s)[i] := by simp [List.getD_eq_getElem?_getD, List.getElem?_eq_getElem h]
    rw [e]
    exact may_all hv _ (List.getElem_mem h)
  · left; exact getD_past _ _ h

set_option maxHeartbeats 4000000 in
theorem less_yes (a b : ByteArray) (w : World) (ha : a.size ≤ maxLen) (hb : b.size ≤ maxLen) (va : mayV a.data.toList = true) (vb : mayV b.data.toList = true) :
    Calls Try.prog 30 #[.string a, .string b] w fun e w' => e = .returned (.bool (decide (cmpV a.data.toList b.data.toList < 0))) ∧ Below w.heap.size w w' := by
  have HMA := Lib.hid (fun w => rmay_any a w ha)
  have HMB := Lib.hid (fun w => rmay_any b w hb)
  have FA := Lib.hid (may_facts va)
  have FB := Lib.hid (may_facts vb)
  have CA := Lib.hid (fun w => cut_any a 46 w (by have := FA.out.1; rw [len_list] at this; omega))
  have CB := Lib.hid (fun w => cut_any b 46 w (by have := FB.out.1; rw [len_list] at this; omega))
  have OA := Lib.hid (ok_at va)
  have OB := Lib.hid (ok_at vb)
  have F0 : Hid (cmpV a.data.toList b.data.toList = cmpParts (cutAt 46 a.data.toList) (cutAt 46 b.data.toList)) := Lib.hid (by rw [cmpV, va, vb]; rfl)
  have VA := Lib.hid va
  have VB := Lib.hid vb
  clear ha hb va vb
  obtain ⟨x, hx⟩ : ∃ x, x = cutAt 46 a.data.toList := ⟨_, rfl⟩
  obtain ⟨y, hy⟩ : ∃ y, y = cutAt 46 b.data.toList := ⟨_, rfl⟩
  rw [← hx] at FA CA OA F0
  rw [← hy] at FB CB OB F0
  clear hx hy
  go_enter Try.func30, Try.ntmps30
  go_wp2_with fail
  go_at_call 29; refine (HMA.out w).mono ?_; rintro e w1 ⟨rfl, hb1⟩; rw [VA.out]; have HB1 := Lib.hid hb1; clear hb1
  go_wp2_with fail
  go_at_call 29; refine (HMB.out w1).mono ?_; rintro e w2 ⟨rfl, hb2⟩; rw [VB.out]; have HB2 := Lib.hid hb2; clear hb2
  clear HMA HMB
  go_wp2_with fail
  go_at_call 51; refine (CA.out w2).mono ?_; intro e w3 hcp
  obtain ⟨A1, c1, rfl, hr3, hb3⟩ := hcp.row
  have HR3 := Lib.hid hr3; have HB3 := Lib.hid hb3; clear hr3 hb3 hcp CA
  obtain ⟨n, hn⟩ : ∃ n, n = x.length := ⟨_, rfl⟩
  rw [← hn]
  have HN := Lib.hid hn; clear hn
  go_wp2_with fail
  go_at_call 51; refine (CB.out w3).mono ?_; intro e w4 hcp
  obtain ⟨A2, c2, rfl, hr4, hb4⟩ := hcp.row
  have HR4 := Lib.hid hr4; have HB4 := Lib.hid hb4; clear hr4 hb4 hcp CB
  obtain ⟨m, hm⟩ : ∃ m, m = y.length := ⟨_, rfl⟩
  rw [← hm]
  have HM := Lib.hid hm; clear hm
  have n8 : (n : Int) ≤ 8 := by have := FA.out.2.1; have := HN.out; omega
  have m8 : (m : Int) ≤ 8 := by have := FB.out.2.1; have := HM.out; omega
  have HR5 := Lib.hid (HR3.out.below HB4.out.size HB4.out)
  have HBW : Hid (Below w.heap.size w w4) := Lib.hid (bstep (bstep (bstep HB1.out HB2.out) HB3.out) HB4.out)
  have F1 : Hid (cmpParts x y = cmpFrom x y 0 (max n m - 0)) := Lib.hid (by rw [HN.out, HM.out]; rfl)
  have S := Lib.hid (from_split x y (max n m))
  clear HB1 HB2 HB3 HB4 HR3
  go_wp2_with fail
  go_loopw [7] (fun v wr => ∃ k : Nat, v = .int .i64 k ∧ k ≤ max n m ∧ wr = w4 ∧ cmpParts x y = cmpFrom x y k (max n m - k)) (fun v _ => max n m - (intOf v).toNat)
  case atStart => exact ⟨0, rfl, Nat.zero_le _, rfl, F1.out⟩
  case round =>
    obtain ⟨k, rfl, hk, rfl, heq⟩ := hrel
    have HEQ := Lib.hid heq
    clear heq
    have k8 : (k : Int) ≤ 8 := by omega
    by_cases hlt : k < max n m
    · have A0 := at_any wr HR5.out n c1 k HN.out (by unfold maxLen; omega) (by unfold maxLen; omega)
      have A1 := at_any wr HR4.out m c2 k HM.out (by unfold maxLen; omega) (by unfold maxLen; omega)
      have lx := FA.out.2.2 k
      have ly := FB.out.2.2 k
      have B0 := before_list wr (a := x.getD k []) (b := y.getD k []) (by unfold maxLen; omega) (by unfold maxLen; omega) (OA.out k) (OB.out k)
      have B1 := before_list wr (a := y.getD k []) (b := x.getD k []) (by unfold maxLen; omega) (by unfold maxLen; omega) (OB.out k) (OA.out k)
      have SK := Lib.hid (S.out k hlt)
      have AN := Lib.hid (ord_part.anti (x.getD k []) (y.getD k []))
      have RG := ord_part.rng (x.getD k []) (y.getD k [])
      obtain ⟨c, hc⟩ : ∃ c, c = cmpPart (x.getD k []) (y.getD k []) := ⟨_, rfl⟩
      obtain ⟨c', hc'⟩ : ∃ c', c' = cmpPart (y.getD k []) (x.getD k []) := ⟨_, rfl⟩
      rw [← hc] at B0 SK AN RG
      rw [← hc'] at B1 AN
      clear hc hc' lx ly
      have hor : ((k : Int) < (n : Int)) ∨ ((n : Int) ≤ (k : Int) ∧ (k : Int) < (m : Int)) := by omega
      by_cases c0 : c < 0
      · have d0 : decide (c < 0) = true := decide_eq_true c0
        have F : Hid (decide (cmpV a.data.toList b.data.toList < 0) = true) := Lib.hid (by
          rw [F0.out, HEQ.out, SK.out, orI, if_pos (by omega)]; exact d0)
        rw [d0] at B0
        clear d0 c0 RG
        rcases hor with h | ⟨h, h'⟩
        all_goals
          go_wp2_with fail
          go_at_call 54; refine A0.mono ?_; rintro e w' ⟨rfl, rfl⟩
          go_wp2_with fail
          go_at_call 54; refine A1.mono ?_; rintro e w' ⟨rfl, rfl⟩
          go_wp2_with fail
          go_at_call 53; refine B0.mono ?_; rintro e w' ⟨rfl, rfl⟩
          go_wp2_with fail
          go_ret
          exact ⟨ret_bool F.out.symm, HBW.out⟩
      · have d0 : decide (c < 0) = false := decide_eq_false c0
        rw [d0] at B0
        by_cases c1 : c = 0
        · have d1 : decide (c' < 0) = false := decide_eq_false (by have := AN.out; omega)
          have NX : Hid (cmpParts x y = cmpFrom x y (k + 1) (max n m - (k + 1))) := Lib.hid (by rw [HEQ.out, SK.out, c1]; simp [orI])
          rw [d1] at B1
          clear d0 d1 c0 c1 RG
          rcases hor with h | ⟨h, h'⟩
          all_goals
            go_wp2_with fail
            go_at_call 54; refine A0.mono ?_; rintro e w' ⟨rfl, rfl⟩
            go_wp2_with fail
            go_at_call 54; refine A1.mono ?_; rintro e w' ⟨rfl, rfl⟩
            go_wp2_with fail
            go_at_call 53; refine B0.mono ?_; rintro e w' ⟨rfl, rfl⟩
            go_wp2_with fail
            go_at_call 54; refine A1.mono ?_; rintro e w' ⟨rfl, rfl⟩
            go_wp2_with fail
            go_at_call 54; refine A0.mono ?_; rintro e w' ⟨rfl, rfl⟩
            go_wp2_with fail
            go_at_call 53; refine B1.mono ?_; rintro e w' ⟨rfl, rfl⟩
            go_wp2_with fail
            go_roundw
            case rel => exact ⟨k + 1, by go_num, by omega, trivial, NX.out⟩
            case measure => simp [intOf]; omega
        · have d1 : decide (c' < 0) = true := decide_eq_true (by have := AN.out; omega)
          have F : Hid (decide (cmpV a.data.toList b.data.toList < 0) = false) := Lib.hid (by
            rw [F0.out, HEQ.out, SK.out, orI, if_pos c1]; exact d0)
          rw [d1] at B1
          clear d0 d1 c0 c1 RG
          rcases hor with h | ⟨h, h'⟩
          all_goals
            go_wp2_with fail
            go_at_call 54; refine A0.mono ?_; rintro e w' ⟨rfl, rfl⟩
            go_wp2_with fail
            go_at_call 54; refine A1.mono ?_; rintro e w' ⟨rfl, rfl⟩
            go_wp2_with fail
            go_at_call 53; refine B0.mono ?_; rintro e w' ⟨rfl, rfl⟩
            go_wp2_with fail
            go_at_call 54; refine A1.mono ?_; rintro e w' ⟨rfl, rfl⟩
            go_wp2_with fail
            go_at_call 54; refine A0.mono ?_; rintro e w' ⟨rfl, rfl⟩
            go_wp2_with fail
            go_at_call 53; refine B1.mono ?_; rintro e w' ⟨rfl, rfl⟩
            go_wp2_with fail
            go_ret
            exact ⟨ret_bool F.out.symm, HBW.out⟩
    · have e : k = max n m := by omega
      have F : Hid (decide (cmpV a.data.toList b.data.toList < 0) = false) := Lib.hid (by
        rw [F0.out, HEQ.out, e]
        exact congrArg (fun z : Int => decide (z < 0)) (from_end x y (max n m)))
      have h1 : (n : Int) ≤ (k : Int) := by omega
      have h2 : (m : Int) ≤ (k : Int) := by omega
      clear e hlt
      go_wp2_with fail
      go_ret
      exact ⟨ret_bool F.out.symm, HBW.out⟩

set_option maxHeartbeats 1000000 in
theorem less_no (a b : ByteArray) (w : World) (ha : a.size ≤ maxLen) (hb : b.size ≤ maxLen) (h : mayV a.data.toList = false ∨ mayV b.data.toList = false) :
    Calls Try.prog 30 #[.string a, .string b] w fun e w' => e = .returned (.bool (decide (cmpV a.data.toList b.data.toList < 0))) ∧ Below w.heap.size w w' := by
  have HMA := Lib.hid (fun w => rmay_any a w ha)
  have HMB := Lib.hid (fun w => rmay_any b w hb)
  clear ha hb
  cases va : mayV a.data.toList with
  | false =>
    have F : Hid (decide (cmpV a.data.toList b.data.toList < 0) = mayV b.data.toList) := Lib.hid (by
      unfold cmpV; rw [va]; cases mayV b.data.toList <;> rfl)
    have VA := Lib.hid va
    clear va h
    go_enter Try.func30, Try.ntmps30
    go_wp2_with fail
    go_at_call 29; refine (HMA.out w).mono ?_; rintro e w1 ⟨rfl, hb1⟩; rw [VA.out]; have HB1 := Lib.hid hb1; clear hb1
    go_wp2_with fail
    go_at_call 29; refine (HMA.out w1).mono ?_; rintro e w2 ⟨rfl, hb2⟩; rw [VA.out]; have HB2 := Lib.hid hb2; clear hb2
    go_wp2_with fail
    go_at_call 29; refine (HMB.out w2).mono ?_; rintro e w3 ⟨rfl, hb3⟩; have HB3 := Lib.hid hb3; clear hb3
    go_wp2_with fail
    go_ret
    exact ⟨ret_bool F.out.symm, bstep (bstep HB1.out HB2.out) HB3.out⟩
  | true =>
    have vb : mayV b.data.toList = false := by rw [va] at h; simpa using h
    have F : Hid (decide (cmpV a.data.toList b.data.toList < 0) = false) := Lib.hid (by
      unfold cmpV; rw [va, vb]; rfl)
    have VA := Lib.hid va
    have VB := Lib.hid vb
    clear va vb h
    go_enter Try.func30, Try.ntmps30
    go_wp2_with fail
    go_at_call 29; refine (HMA.out w).mono ?_; rintro e w1 ⟨rfl, hb1⟩; rw [VA.out]; have HB1 := Lib.hid hb1; clear hb1
    go_wp2_with fail
    go_at_call 29; refine (HMB.out w1).mono ?_; rintro e w2 ⟨rfl, hb2⟩; rw [VB.out]; have HB2 := Lib.hid hb2; clear hb2
    go_wp2_with fail
    go_at_call 29; refine (HMA.out w2).mono ?_; rintro e w3 ⟨rfl, hb3⟩; rw [VA.out]; have HB3 := Lib.hid hb3; clear hb3
    go_wp2_with fail
    go_ret
    exact ⟨ret_bool F.out.symm, bstep (bstep HB1.out HB2.out) HB3.out⟩

theorem less_any (a b : ByteArray) (w : World) (ha : a.size ≤ maxLen) (hb : b.size ≤ maxLen) :
    Calls Try.prog 30 #[.string a, .string b] w fun e w' => e = .returned (.bool (decide (cmpV a.data.toList b.data.toList < 0))) ∧ Below w.heap.size w w' := by
  cases va : mayV a.data.toList with
  | false => exact less_no a b w ha hb (.inl va)
  | true =>
    cases vb : mayV b.data.toList with
    | false => exact less_no a b w ha hb (.inr vb)
    | true => exact less_yes a b w ha hb va vb

end Go.Proofs.Ytccmgaibikiedaa.Ver
