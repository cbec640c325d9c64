/- Clauses: the program's own form, whole. -/
import Derived.Test.YtlgakejjakeomaaDoorCnfE
import Derived.Laws.ResultCell
namespace Go.Proofs.YtlgakejjakeomaaDoor.Cnf
set_option linter.unusedVariables false
set_option linter.unusedSimpArgs false
open Go.RowKit Go.Lib
open Go.Proofs.YtlgakejjakeomaaDoor.Order (IRow ERow add_at)

theorem own_drewN {w : World} {base n : Nat} {v : Value} {xs : List Value} (h : w.ownsRow base 3 1 v n xs) (q : Nat) : (w.drewN q).ownsRow base 3 1 v n xs :=
  h.kept (row := none) ⟨rfl, rfl, rfl, Nat.le_refl _, fun _ _ _ => rfl⟩ (by cases v.ownBlock <;> simp)
theorem own_below {w w' : World} {base n B : Nat} {v : Value} {xs : List Value} (h : w.ownsRow base 3 1 v n xs) (hb : Below B w w') (hB : w.heap.size ≤ B) : w'.ownsRow base 3 1 v n xs := by
  have hlt := h.lt
  refine h.kept (row := none) ⟨hb.os, hb.tape, hb.output, hb.size, fun k hk _ => hb.block k (by omega)⟩ (by cases v.ownBlock <;> simp)

/-- what a form is in memory. -/
def FormOut (w : World) (base : Nat) (v : Value) (b : Bool) (l : List Int) : Prop :=
  (formOf l = none ∧ v = .slice none 0 0 ∧ b = false) ∨ ∃ f, formOf l = some f ∧ b = true ∧ w.ownsRow base 3 1 v f.length (rowV f)

theorem ret2 {v v' : Value} {b b' : Bool} (h : v = v') (h2 : b = b') : Ending.returned (.tuple #[v, .bool b]) = .returned (.tuple #[v', .bool b']) := by rw [h, h2]

set_option maxHeartbeats 4000000 in
set_option maxRecDepth 100000 in
theorem formC_any (A : Option Addr) (l : List Int) (n c : Nat) (w : World) (h : IRow w w.heap.size A l) (hn : n = l.length) (hm : n * 8 ≤ 140737488355328) (hr : RgL l) :
    Calls Tryd.prog 50 #[.slice A n c] w fun e w' => ∃ v b, e = .returned (.tuple #[v, .bool b]) ∧ FormOut w' w.heap.size v b l ∧ Below w.heap.size w w' := by
  have HH := Lib.hid (hasNone_any A l n c w h hn (by unfold maxLen; omega))
  have CL := Lib.hid (cloneI_any A l n c w h hn hm)
  have HR := Lib.hid hr
  have NB : n < 4611686018427387904 := by omega
  clear h hn hm hr
  cases hq : hasNone l with
  | true =>
    have F : Hid (formOf l = none) := Lib.hid (by
      obtain ⟨x, hx, hnx⟩ := (hasNone_iff l).1 hq
      exact none_none hx hnx)
    rw [hq] at HH
    clear hq CL HR
    go_enter Tryd.func50, Tryd.ntmps50
    go_wp2_with fail
    refine HH.out.mono ?_
    rintro e w' ⟨rfl, rfl⟩
    go_wp2_with fail
    go_ret2
    exact ⟨_, _, rfl, .inl ⟨F.out, rfl, rfl⟩, Below.refl _ _⟩
  | false =>
    have NO : Hid (∀ x ∈ l, noneI x = false) := Lib.hid (fun x hx => by
      cases e : noneI x with
      | false => rfl
      | true => have := (hasNone_iff l).2 ⟨x, hx, e⟩; rw [hq] at this; cases this)
    rw [hq] at HH
    clear hq
    go_enter Tryd.func50, Tryd.ntmps50
    go_wp2_with fail
    refine HH.out.mono ?_
    rintro e w' ⟨rfl, rfl⟩
    go_wp2_with fail
    refine CL.out.mono ?_
    rintro e w1 ⟨v1, rfl, o1, b1⟩
    have S1 := Lib.hid (sortI_any o1 NB)
    have B1 := Lib.hid b1
    clear o1 b1 CL HH
    go_wp2_with fail
    refine S1.out.mono ?_
    rintro e w2 ⟨rfl, C, hp, hs, o2, b2⟩
    have S2 := Lib.hid (compactI_any o2)
    have B2 := Lib.hid (B1.out.trans b2)
    have SRT := Lib.hid hs
    have PRM := Lib.hid hp
    clear o2 b2 S1 B1 hs hp
    go_wp2_with fail
    refine S2.out.mono ?_
    rintro e w3 ⟨v3, rfl, o3, b3⟩
    have B3 := Lib.hid (B2.out.trans b3)
    have EC : Hid (compactUpTo C.toArray C.toArray.size = Lib.compact C) := Lib.hid (by simp [Lib.compact])
    have SO : Hid (∀ i j, i < j → j < C.toArray.size → keyLt C.toArray[j]! C.toArray[i]! = false) := Lib.hid (fun i j hij hj => by
      have hj' : j < C.length := by simpa using hj
      have h1 := List.pairwise_iff_getElem.1 SRT.out i j (by omega) hj' hij
      have r1 := HR.out _ (PRM.out.mem_iff.1 (List.getElem_mem (show i < C.length by omega)))
      have r2 := HR.out _ (PRM.out.mem_iff.1 (List.getElem_mem hj'))
      rw [keyV_rg r2 r1] at h1
      simpa [hj', show i < C.length by omega] using h1)
    obtain ⟨f, hf⟩ : ∃ f, f = Lib.compact C := ⟨_, rfl⟩
    have PRA : Hid (C.toArray.toList.Perm l) := Lib.hid PRM.out
    have MEM : Hid (∀ x ∈ f, x ∈ l) := Lib.hid (fun x hx => by
      rw [hf, ← EC.out] at hx
      obtain ⟨j, hj, e⟩ := (compact_mem _ _ _).1 hx
      rw [← PRM.out.mem_iff, ← e]
      have hj' : j < C.length := by simpa using hj
      simp [hj'])
    have YES : Hid ((∀ i, i + 1 < f.length → f.getD (i + 1) 0 ≠ -f.getD i 0) → formOf l = some f) := Lib.hid (fun ha => by
      have := code_some (d := C.toArray) NO.out PRA.out SO.out
      rw [EC.out, ← hf] at this
      exact this ha)
    have NOT : Hid (∀ i, i + 1 < f.length → f.getD (i + 1) 0 = -f.getD i 0 → formOf l = none) := Lib.hid (fun i hi ha => by
      have := code_none (d := C.toArray) PRA.out (i := i)
      rw [EC.out, ← hf] at this
      exact this hi ha)
    rw [← hf] at o3
    have O3 := Lib.hid o3
    obtain ⟨A3, c3, rfl, hn3, hc3, hm3, hi3, _⟩ := own_irow o3
    have HI := Lib.hid hi3
    have LN : (f.length : Int) ≤ 9223372036854775807 := by unfold maxLen at hm3; omega
    obtain ⟨k, hk⟩ : ∃ k, k = f.length := ⟨_, rfl⟩
    have HK := Lib.hid hk
    rw [← hk] at LN O3 ⊢
    clear hf hk hi3 o3 b3 S2 B2 SRT PRM EC SO PRA hn3 hc3 hm3 NB
    go_wp2_with fail
    go_loopw [5] (fun v wr => ∃ i : Nat, v = .int .i64 i ∧ 1 ≤ i ∧ (i ≤ k ∨ i = 1) ∧ (∃ q, wr = w3.drewN q) ∧ ∀ j, j + 1 < i → f.getD (j + 1) 0 ≠ -f.getD j 0) (fun v _ => k - (intOf v).toNat)
    case atStart => exact ⟨1, rfl, Nat.le_refl _, .inr rfl, ⟨0, rfl⟩, fun j hj => absurd hj (by omega)⟩
    case round =>
      obtain ⟨i, rfl, hi1, hik, ⟨q, rfl⟩, hall⟩ := hrel
      have ALL := Lib.hid hall
      clear hall
      by_cases hlt : i < k
      · have hlt' : (i : Int) < (k : Int) := by omega
        have IA : Hid (i < f.length) := Lib.hid (by have := HK.out; omega)
        rcases HI.out with h' | ⟨b, o, rfl, hb, hcell⟩
        · exfalso; have := IA.out; rw [h'] at this; simp at this
        have hx0 := hcell i IA.out
        have hy0 := hcell (i - 1) (by have := IA.out; omega)
        have tn : ((i : Int) - 1).toNat = i - 1 := by omega
        have j0 : 0 ≤ (i : Int) - 1 := by omega
        have j1 : (i : Int) - 1 < (k : Int) := by omega
        have ymem : f.getD (i - 1) 0 ∈ f := by
          rw [List.getD_eq_getElem?_getD, List.getElem?_eq_getElem (by have := IA.out; omega)]; exact List.getElem_mem _
        have YR := Lib.hid (HR.out _ (MEM.out _ ymem))
        have YN := Lib.hid (NO.out _ (MEM.out _ ymem))
        have NX : Hid (f.getD i 0 ≠ -f.getD (i - 1) 0 → ∀ j, j + 1 < i + 1 → f.getD (j + 1) 0 ≠ -f.getD j 0) := Lib.hid (fun hne j hj => by
          rcases Nat.lt_or_ge (j + 1) i with h1 | h1
          · exact ALL.out j h1
          · have : j = i - 1 := by omega
            subst this
            rw [show i - 1 + 1 = i by omega]; exact hne)
        have FN : Hid (f.getD i 0 = -f.getD (i - 1) 0 → formOf l = none) := Lib.hid (fun he => NOT.out (i - 1) (by have := IA.out; omega) (by rw [show i - 1 + 1 = i by omega]; exact he))
        obtain ⟨x, hx⟩ : ∃ x, x = f.getD i 0 := ⟨_, rfl⟩
        obtain ⟨y, hy⟩ : ∃ x, x = f.getD (i - 1) 0 := ⟨_, rfl⟩
        rw [← hx] at hx0 NX FN
        rw [← hy] at hy0 NX FN YR YN
        have r1 : -9223372036854775807 ≤ y := by
          have := YR.out.1
          have h2 : ¬ y = -9223372036854775808 := by have := YN.out; simp [noneI] at this; exact this.2
          omega
        have r2 : y ≤ 9223372036854775807 := YR.out.2
        replace hx0 : (w3.drewN q).cell? ⟨b, o + i, none⟩ = some (.int .i64 x) := hx0
        replace hy0 : (w3.drewN q).cell? ⟨b, o + (i - 1), none⟩ = some (.int .i64 y) := hy0
        have hy1 := hy0
        rw [← tn] at hy1
        obtain ⟨wq, hwq⟩ : ∃ wq, wq = w3.drewN q := ⟨_, rfl⟩
        have DQ : Hid (∀ m, ∃ q', wq.drewN m = w3.drewN q') := Lib.hid (fun m => ⟨q + m, by rw [hwq]; exact World.drewN_drewN w3 q m⟩)
        rw [← hwq] at hx0 hy0 hy1 ⊢
        clear hx hy hwq hcell ymem
        by_cases hxy : x = -y
        · have F := Lib.hid (FN.out hxy)
          subst hxy
          go_wp2_with fail
          go_quiet (fail)
          go_wp2_with fail
          go_ret2
          exact ⟨_, _, rfl, .inl ⟨F.out, rfl, rfl⟩, by
            obtain ⟨q', hq'⟩ := DQ.out _
            rw [hq']; exact drewN_below B3.out _⟩
        · have F := Lib.hid (NX.out hxy)
          have hbq : (x == -y) = false := beq_eq_false_iff_ne.2 hxy
          go_wp2_with fail
          go_quiet (fail)
          go_wp2_with fail
          go_roundw
          case rel => exact ⟨i + 1, by go_num, by omega, .inl (by omega), DQ.out _, F.out⟩
          case measure => simp [intOf]; omega
      · have F : Hid (formOf l = some f) := Lib.hid (YES.out (fun j hj => ALL.out j (by have := HK.out; omega)))
        have hge : (k : Int) ≤ (i : Int) := by omega
        have OQ := Lib.hid (own_drewN O3.out q)
        have BQ := Lib.hid (drewN_below B3.out q)
        go_wp2_with fail
        go_ret2
        exact ⟨_, _, rfl, .inr ⟨f, F.out, rfl, by rw [← HK.out]; exact OQ.out⟩, BQ.out⟩

end Go.Proofs.YtlgakejjakeomaaDoor.Cnf
