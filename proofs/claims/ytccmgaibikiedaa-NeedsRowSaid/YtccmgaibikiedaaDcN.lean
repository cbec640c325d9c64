/- Recipes: which package has a name: the law walked. -/
import Derived.Test.YtccmgaibikiedaaDcM
namespace Go.Proofs.Ytccmgaibikiedaa.Dc
open Go.RowKit
set_option linter.unusedVariables false
set_option linter.unusedSimpArgs false
theorem keep2 {w w' : World} {e : TypeId} {base k n : Nat} {v : Value} {xs : List Value} (h : w.ownsRow base e k v n xs) (hb : Below w.heap.size w w') : w'.ownsRow base e k v n xs := by
  have hlt := h.lt
  refine h.kept (row := none) ⟨hb.os, hb.tape, hb.output, hb.size, fun k hk _ => hb.block k (by omega)⟩ (by cases v.ownBlock <;> simp)
theorem own_at {w : World} {base m c i : Nat} {A : Option Addr} {l : List Int} (h : w.ownsRow base 3 1 (.slice A m c) m (intsV l)) (hm : m = l.length) (hi : i < m) : ∃ g z, A = some ⟨g, 0, none⟩ ∧ w.cell? ⟨g, i, none⟩ = some (.int .i64 z) ∧ z = l.getD i 0 := by
  obtain ⟨g, cap, hv, -, -, -⟩ := owned_shape h (by omega)
  injection hv with hv _ hcc
  subst hv hcc
  refine ⟨g, l.getD i 0, rfl, ?_, rfl⟩
  rw [h.cellAt i (by omega), List.getElem?_map, List.getD_eq_getElem?_getD, List.getElem?_eq_getElem (by omega)]
  rfl
theorem own_max {w : World} {B n c k : Nat} {e : TypeId} {A : Option Addr} {xs : List Value} (h : w.ownsRow B e k (.slice A n c) n xs) : n ≤ maxLen := by
  rcases h.2 with ⟨h, _⟩ | ⟨g, cap, cur, h, _, _, hc, hm, _⟩
  · simp only [Value.slice.injEq] at h
    omega
  · simp only [Value.slice.injEq] at h
    omega
theorem gRc_len {x : Rc} (h : gRc x = false) : x.packs.length ≤ 30 := by
  unfold gRc at h
  simp only [Bool.or_eq_false_iff, decide_eq_false_iff_not] at h
  omega
set_option maxHeartbeats 8000000 in
set_option maxRecDepth 100000 in
theorem names_go {w : World} {x : Rc} {cs : List Value} (h : rcD w w.heap.size cs x) (nm : ByteArray) (hm : nm.size ≤ maxLen) : Calls Try.prog 4 #[.agg cs.toArray, .string nm] w fun e w' => e = .returned (.bool true) ∧ Below w.heap.size w w' := by
  obtain ⟨A1, n1, c1, A2, n2, c2, hcs, s1, s2⟩ := rc_cells h
  have bb : Below w.heap.size w (w.alloc (.cells #[.slice A1 n1 c1, .slice A2 n2 c2] 25)) := (Below.refl _ w).alloc (Nat.le_refl _) _
  have B0 := Lib.hid bb
  have m0 : (w.alloc (.cells #[.slice A1 n1 c1, .slice A2 n2 c2] 25)).heap[w.heap.size]? = some (.cells #[.slice A1 n1 c1, .slice A2 n2 c2] 25) := heap_alloc_new w _
  have k0 : (w.alloc (.cells #[.slice A1 n1 c1, .slice A2 n2 c2] 25)).cell? ⟨w.heap.size, 0, none⟩ = some (.slice A1 n1 c1) := blk_cell m0 rfl
  have k1 : (w.alloc (.cells #[.slice A1 n1 c1, .slice A2 n2 c2] 25)).cell? ⟨w.heap.size, 1, none⟩ = some (.slice A2 n2 c2) := blk_cell m0 rfl
  have K := Lib.hid (And.intro k0 k1)
  have LT : Hid (w.heap.size < (w.alloc (.cells #[.slice A1 n1 c1, .slice A2 n2 c2] 25)).heap.size) := Lib.hid (by simp)
  have DD : Hid (∀ w2, Below (w.alloc (.cells #[.slice A1 n1 c1, .slice A2 n2 c2] 25)).heap.size (w.alloc (.cells #[.slice A1 n1 c1, .slice A2 n2 c2] 25)) w2 → rcD w2 w.heap.size [.slice A1 n1 c1, .slice A2 n2 c2] x ∧ w.heap.size ≤ w2.heap.size) := Lib.hid (fun w2 hb => by
    have h3 := rc_stays _ _ _ _ _ _ h (Nat.le_refl _) (bb.trans (hb.mono bb.size))
    rw [hcs] at h3
    exact ⟨h3, Nat.le_trans bb.size hb.size⟩)
  obtain ⟨g, hg⟩ : ∃ g, g = gRc x := ⟨_, rfl⟩
  have HG := Lib.hid hg
  have C0 : Hid (∀ w2, Below (w.alloc (.cells #[.slice A1 n1 c1, .slice A2 n2 c2] 25)).heap.size (w.alloc (.cells #[.slice A1 n1 c1, .slice A2 n2 c2] 25)) w2 → Calls Try.prog 8 #[.agg #[.slice A1 n1 c1, .slice A2 n2 c2]] w2 fun e w' => e = .returned (.bool g) ∧ Below w2.heap.size w2 w') := Lib.hid (fun w2 hb => by
    rw [hg]; exact great_any (DD.out w2 hb).1 (DD.out w2 hb).2)
  have FX : Hid (∀ w2, Below (w.alloc (.cells #[.slice A1 n1 c1, .slice A2 n2 c2] 25)).heap.size (w.alloc (.cells #[.slice A1 n1 c1, .slice A2 n2 c2] 25)) w2 → Calls Try.prog 9 #[] w2 fun e w' => e = .returned (.bool true) ∧ Below w2.heap.size w2 w') := Lib.hid (fun w2 _ => fixed_any w2)
  have R := Lib.hid (Below.refl (w.alloc (.cells #[.slice A1 n1 c1, .slice A2 n2 c2] 25)).heap.size (w.alloc (.cells #[.slice A1 n1 c1, .slice A2 n2 c2] 25)))
  rw [hcs]
  unfold maxLen at hm
  clear h s1 s2 bb m0 hcs hg
  show Calls Try.prog _ #[.agg #[.slice A1 n1 c1, .slice A2 n2 c2], .string nm] w _
  cases g
  case true =>
    go_enter Try.func4, Try.ntmps4
    go_wp2_with (first
      | (go_at_call 8; (with_reducible refine (C0.out _ R.out).mono ?_); rintro e v1 ⟨rfl, hb⟩; have R := Lib.hid (bstep R.out hb R.out.size); clear hb; have f0 := (R.out.cell (p := ⟨w.heap.size, 0, none⟩) LT.out).trans K.out.1; have f1 := (R.out.cell (p := ⟨w.heap.size, 1, none⟩) LT.out).trans K.out.2)
      | (go_at_call 9; (with_reducible refine (FX.out _ R.out).mono ?_); rintro e v1 ⟨rfl, hb⟩; have R := Lib.hid (bstep R.out hb R.out.size); clear hb; have f0 := (R.out.cell (p := ⟨w.heap.size, 0, none⟩) LT.out).trans K.out.1; have f1 := (R.out.cell (p := ⟨w.heap.size, 1, none⟩) LT.out).trans K.out.2))
    go_ret
    exact ⟨rfl, B0.out.trans (R.out.mono (Nat.le_of_lt LT.out))⟩
  have HL : Hid (x.packs.length ≤ 1000) := Lib.hid (by have := gRc_len HG.out.symm; omega)
  by_cases h1000 : 1000 < (nm.size : Int)
  · go_enter Try.func4, Try.ntmps4
    go_wp2_with (first
      | (go_at_call 8; (with_reducible refine (C0.out _ R.out).mono ?_); rintro e v1 ⟨rfl, hb⟩; have R := Lib.hid (bstep R.out hb R.out.size); clear hb; have f0 := (R.out.cell (p := ⟨w.heap.size, 0, none⟩) LT.out).trans K.out.1; have f1 := (R.out.cell (p := ⟨w.heap.size, 1, none⟩) LT.out).trans K.out.2)
      | (go_at_call 9; (with_reducible refine (FX.out _ R.out).mono ?_); rintro e v1 ⟨rfl, hb⟩; have R := Lib.hid (bstep R.out hb R.out.size); clear hb; have f0 := (R.out.cell (p := ⟨w.heap.size, 0, none⟩) LT.out).trans K.out.1; have f1 := (R.out.cell (p := ⟨w.heap.size, 1, none⟩) LT.out).trans K.out.2))
    go_ret
    exact ⟨rfl, B0.out.trans (R.out.mono (Nat.le_of_lt LT.out))⟩
  have CP : Hid (∀ w2, Below (w.alloc (.cells #[.slice A1 n1 c1, .slice A2 n2 c2] 25)).heap.size (w.alloc (.cells #[.slice A1 n1 c1, .slice A2 n2 c2] 25)) w2 → Calls Try.prog 12 #[.agg #[.slice A1 n1 c1, .slice A2 n2 c2], .string nm] w2 (NumsEnd x nm w2)) := Lib.hid (fun w2 hb => providers_any (DD.out w2 hb).1 (DD.out w2 hb).2 HL.out nm)
  have CQ : Hid (∀ w2, Below (w.alloc (.cells #[.slice A1 n1 c1, .slice A2 n2 c2] 25)).heap.size (w.alloc (.cells #[.slice A1 n1 c1, .slice A2 n2 c2] 25)) w2 → Calls Try.prog 13 #[.agg #[.slice A1 n1 c1, .slice A2 n2 c2], .string nm] w2 (NumsEnd x nm w2)) := Lib.hid (fun w2 hb => rproviders_any (DD.out w2 hb).1 (DD.out w2 hb).2 HL.out nm)
  obtain ⟨z, hz⟩ : ∃ z, z = findF x.packs nm := ⟨_, rfl⟩
  obtain ⟨vb, hvb⟩ : ∃ v, v = virtB x nm := ⟨_, rfl⟩
  have C1 : Hid (∀ w2, Below (w.alloc (.cells #[.slice A1 n1 c1, .slice A2 n2 c2] 25)).heap.size (w.alloc (.cells #[.slice A1 n1 c1, .slice A2 n2 c2] 25)) w2 → Calls Try.prog 14 #[.agg #[.slice A1 n1 c1, .slice A2 n2 c2], .string nm] w2 fun e w' => e = .returned (.int .i64 z) ∧ Below w2.heap.size w2 w') := Lib.hid (fun w2 hb => by rw [hz]; exact find_any (DD.out w2 hb).1 (DD.out w2 hb).2 nm)
  have C2 : Hid (∀ w2, Below (w.alloc (.cells #[.slice A1 n1 c1, .slice A2 n2 c2] 25)).heap.size (w.alloc (.cells #[.slice A1 n1 c1, .slice A2 n2 c2] 25)) w2 → Calls Try.prog 15 #[.agg #[.slice A1 n1 c1, .slice A2 n2 c2], .string nm] w2 fun e w' => e = .returned (.int .i64 z) ∧ Below w2.heap.size w2 w') := Lib.hid (fun w2 hb => by rw [hz]; exact rfind_any (DD.out w2 hb).1 (DD.out w2 hb).2 nm)
  have C3 : Hid (∀ w2, Below (w.alloc (.cells #[.slice A1 n1 c1, .slice A2 n2 c2] 25)).heap.size (w.alloc (.cells #[.slice A1 n1 c1, .slice A2 n2 c2] 25)) w2 → Calls Try.prog 16 #[.agg #[.slice A1 n1 c1, .slice A2 n2 c2], .string nm] w2 fun e w' => e = .returned (.bool vb) ∧ Below w2.heap.size w2 w') := Lib.hid (fun w2 hb => by rw [hvb]; exact virtual_any (DD.out w2 hb).1 (DD.out w2 hb).2 HL.out nm)
  have C4 : Hid (∀ w2, Below (w.alloc (.cells #[.slice A1 n1 c1, .slice A2 n2 c2] 25)).heap.size (w.alloc (.cells #[.slice A1 n1 c1, .slice A2 n2 c2] 25)) w2 → Calls Try.prog 17 #[.agg #[.slice A1 n1 c1, .slice A2 n2 c2], .string nm] w2 fun e w' => e = .returned (.bool vb) ∧ Below w2.heap.size w2 w') := Lib.hid (fun w2 hb => by rw [hvb]; exact rvirtual_any (DD.out w2 hb).1 (DD.out w2 hb).2 HL.out nm)
  clear hz hvb
  go_enter Try.func4, Try.ntmps4
  go_wp2_with (go_at_call 8; (with_reducible refine (C0.out _ R.out).mono ?_); rintro e v1 ⟨rfl, hb⟩; have R := Lib.hid (bstep R.out hb R.out.size); clear hb; have f0 := (R.out.cell (p := ⟨w.heap.size, 0, none⟩) LT.out).trans K.out.1; have f1 := (R.out.cell (p := ⟨w.heap.size, 1, none⟩) LT.out).trans K.out.2)
  have R := Lib.hid R.out.drew
  go_region_held3 (fun W' => W'.cell? ⟨w.heap.size, 0, none⟩ = some (.slice A1 n1 c1) ∧ W'.cell? ⟨w.heap.size, 1, none⟩ = some (.slice A2 n2 c2))
    (first | exact ⟨f0, f1⟩ | go_keep)
    (first
      | (go_at_call 12; (with_reducible refine (CP.out _ R.out).mono ?_); rintro e v1 ⟨P1, m1, d1, rfl, hn1, hl1, ho1, hb⟩; have R := Lib.hid (bstep R.out hb R.out.size); have O1 := Lib.hid ho1; have N1 := Lib.hid hn1; have L1 := Lib.hid hl1; clear hb ho1 hn1 hl1; have f0 := (R.out.cell (p := ⟨w.heap.size, 0, none⟩) LT.out).trans K.out.1; have f1 := (R.out.cell (p := ⟨w.heap.size, 1, none⟩) LT.out).trans K.out.2)
      | (go_at_call 13; (with_reducible refine (CQ.out _ R.out).mono ?_); rintro e v2 ⟨P2, m2, d2, rfl, hn2, -, ho2, hb⟩; have R := Lib.hid (bstep R.out hb R.out.size); have O1 := Lib.hid (keep2 O1.out hb); have O2 := Lib.hid ho2; have N2 := Lib.hid hn2; clear hb ho2 hn2; have f0 := (R.out.cell (p := ⟨w.heap.size, 0, none⟩) LT.out).trans K.out.1; have f1 := (R.out.cell (p := ⟨w.heap.size, 1, none⟩) LT.out).trans K.out.2))
  obtain rfl : m2 = m1 := N2.out.trans N1.out.symm
  have n63 : (m2 : Int) ≤ 9223372036854775807 := by have := own_max O1.out; unfold maxLen at this; omega
  clear f0 f1 C0 CP CQ
  go_wp2_with fail
  go_loopw [7, 29] (fun _ v wq => ∃ i : Nat, v = .int .i64 i ∧ i ≤ m2 ∧ Below v2.heap.size v2 wq) (fun _ v _ => m2 - (intOf v).toNat)
  case atStart => exact ⟨0, rfl, Nat.zero_le _, Below.refl _ _⟩
  case round =>
    obtain ⟨i, rfl, hi, hbw⟩ := hrel
    have R := Lib.hid (bstep R.out hbw R.out.size)
    have BV := Lib.hid hbw
    have O3 := Lib.hid (keep2 O1.out hbw)
    have O4 := Lib.hid (keep2 O2.out hbw)
    clear hbw
    by_cases hlt : i < m2
    · have hlt' : (i : Int) < (m2 : Int) := by omega
      obtain ⟨g1, y, rfl, x0, hy⟩ := own_at O3.out N1.out hlt
      obtain ⟨g2, y', rfl, x1, hy'⟩ := own_at O4.out N1.out hlt
      obtain rfl : y' = y := hy'.trans hy.symm
      have BD := Lib.hid BV.out.drew
      clear hy hy'
      go_wp2_with fail
      go_region_held3 (fun W' => W'.cell? ⟨g1, i, none⟩ = some (.int .i64 y') ∧ W'.cell? ⟨g2, i, none⟩ = some (.int .i64 y')) (go_keep) (fail)
      go_wp2_with fail
      go_roundw
      case rel => exact ⟨i + 1, by go_num, by omega, BD.out⟩
      case measure => simp [intOf]; omega
    · have f0 := (R.out.cell (p := ⟨w.heap.size, 0, none⟩) LT.out).trans K.out.1
      have f1 := (R.out.cell (p := ⟨w.heap.size, 1, none⟩) LT.out).trans K.out.2
      go_wp2_with fail
      have R := Lib.hid R.out.drew
      go_region_held3 (fun W' => W'.cell? ⟨w.heap.size, 0, none⟩ = some (.slice A1 n1 c1) ∧ W'.cell? ⟨w.heap.size, 1, none⟩ = some (.slice A2 n2 c2))
        (first | exact ⟨f0, f1⟩ | go_keep)
        (first
          | (go_at_call 9; (with_reducible refine (FX.out _ R.out).mono ?_); rintro e v1 ⟨rfl, hb⟩; have R := Lib.hid (bstep R.out hb R.out.size); clear hb; have f0 := (R.out.cell (p := ⟨w.heap.size, 0, none⟩) LT.out).trans K.out.1; have f1 := (R.out.cell (p := ⟨w.heap.size, 1, none⟩) LT.out).trans K.out.2)
          | (go_at_call 14; (with_reducible refine (C1.out _ R.out).mono ?_); rintro e v1 ⟨rfl, hb⟩; have R := Lib.hid (bstep R.out hb R.out.size); clear hb; have f0 := (R.out.cell (p := ⟨w.heap.size, 0, none⟩) LT.out).trans K.out.1; have f1 := (R.out.cell (p := ⟨w.heap.size, 1, none⟩) LT.out).trans K.out.2)
          | (go_at_call 15; (with_reducible refine (C2.out _ R.out).mono ?_); rintro e v1 ⟨rfl, hb⟩; have R := Lib.hid (bstep R.out hb R.out.size); clear hb; have f0 := (R.out.cell (p := ⟨w.heap.size, 0, none⟩) LT.out).trans K.out.1; have f1 := (R.out.cell (p := ⟨w.heap.size, 1, none⟩) LT.out).trans K.out.2)
          | (go_at_call 16; (with_reducible refine (C3.out _ R.out).mono ?_); rintro e v1 ⟨rfl, hb⟩; have R := Lib.hid (bstep R.out hb R.out.size); clear hb; have f0 := (R.out.cell (p := ⟨w.heap.size, 0, none⟩) LT.out).trans K.out.1; have f1 := (R.out.cell (p := ⟨w.heap.size, 1, none⟩) LT.out).trans K.out.2)
          | (go_at_call 17; (with_reducible refine (C4.out _ R.out).mono ?_); rintro e v1 ⟨rfl, hb⟩; have R := Lib.hid (bstep R.out hb R.out.size); clear hb; have f0 := (R.out.cell (p := ⟨w.heap.size, 0, none⟩) LT.out).trans K.out.1; have f1 := (R.out.cell (p := ⟨w.heap.size, 1, none⟩) LT.out).trans K.out.2))
      go_wp2_with fail
      go_ret
      exact ⟨rfl, B0.out.trans (R.out.mono (Nat.le_of_lt LT.out))⟩

end Go.Proofs.Ytccmgaibikiedaa.Dc
