/- The law of any clause's form, walked. -/
import Derived.Test.YtcjcnhnpjcgcmaaCnfL
namespace Go.Proofs.Ytcjcnhnpjcgcmaa.Cnf
set_option linter.unusedVariables false
set_option linter.unusedSimpArgs false
open Go.RowKit Go.Lib
open Go.Proofs.Ytcjcnhnpjcgcmaa.Order (IRow ERow add_at)

set_option maxHeartbeats 1000000 in
theorem form_great (A D : Option Addr) (n c k d : Nat) (w : World) (h : 300 < n ∨ 300 < k) :
    Calls Try.prog 3 #[.slice A n c, .slice D k d] w fun e w' => e = .returned (.bool true) ∧ Below w.heap.size w w' := by
  have FX := Lib.hid (fixed_any w)
  by_cases h1 : 300 < n
  · have z : (300 : Int) < (n : Int) := by omega
    clear h
    go_enter Try.func3, Try.ntmps3
    go_wp2_with fail
    refine FX.out.mono ?_
    rintro e w' ⟨rfl, hb⟩
    have B := Lib.hid hb
    clear hb
    go_wp2_with fail
    go_ret
    exact ⟨rfl, B.out⟩
  · have z1 : ¬ (300 : Int) < (n : Int) := by omega
    have z : (300 : Int) < (k : Int) := by omega
    clear h
    go_enter Try.func3, Try.ntmps3
    go_wp2_with fail
    refine FX.out.mono ?_
    rintro e w' ⟨rfl, hb⟩
    have B := Lib.hid hb
    clear hb
    go_wp2_with fail
    go_ret
    exact ⟨rfl, B.out⟩

theorem any_form {l f : List Int} (h : formOf l = some f) (m : List Bool) : holdsB m [f] = holdsB m [l] := by
  unfold holdsB
  simp only [List.all_cons, List.all_nil, Bool.and_true]
  exact any_congr _ (form_some.1 h).2.2
theorem rg_form {l f : List Int} (h : formOf l = some f) (hr : RgL l) : RgL f := fun x hx => hr x (((form_some.1 h).2.2 x).1 hx)

set_option maxHeartbeats 4000000 in
set_option maxRecDepth 100000 in
theorem form_none_law (A D : Option Addr) (l : List Int) (m : List Bool) (n c k d : Nat) (w : World) (hl : IRow w w.heap.size A l) (hn : n = l.length) (hc : n ≤ c) (hcm : c ≤ maxLen) (hr : RgL l)
    (hm : BRow w w.heap.size D m) (hk : k = m.length) (hkm : k ≤ maxLen) (h1 : n ≤ 300) (h2 : k ≤ 300) (hf : formOf l = none) :
    Calls Try.prog 3 #[.slice A n c, .slice D k d] w fun e w' => e = .returned (.bool true) ∧ Below w.heap.size w w' := by
  have z1 : (n : Int) ≤ 300 := by omega
  have z2 : (k : Int) ≤ 300 := by omega
  obtain ⟨i0, hi0, hz0, hz1, hz2⟩ := int_info
  have LR : Hid (∀ W, Below w.heap.size w W → IRow W W.heap.size A l) := Lib.hid (fun W hb => hl.below hb.size hb)
  have MR : Hid (∀ W, Below w.heap.size w W → BRow W W.heap.size D m) := Lib.hid (fun W hb => hm.below hb.size hb)
  have HN := Lib.hid hn
  have HK := Lib.hid hk
  have HR := Lib.hid hr
  have HC := Lib.hid hc
  have HCM := Lib.hid hcm
  have HF := Lib.hid hf
  have N3 := Lib.hid h1
  have HKM : Hid (k ≤ maxLen) := Lib.hid hkm
  obtain ⟨W0, hW0⟩ : ∃ W0, W0 = w.alloc (.cells #[] 3) := ⟨_, rfl⟩
  have b0 : Below w.heap.size w W0 := by rw [hW0]; exact (Below.refl _ _).alloc (Nat.le_refl _) _
  have B0 := Lib.hid b0
  have OWN : Hid ((w.alloc (.cells #[] 3)).ownsRow w.heap.size 3 1 (.slice (some ⟨w.heap.size, 0, none⟩) 0 0) 0 []) := Lib.hid own_made
  have NEWS : Hid (rowV l = [] ∨ ∃ ad, A = some ad ∧ ∀ j u, (rowV l)[j]? = some u → (w.alloc (.cells #[] 3)).cell? (ad.add j) = some u) := Lib.hid (by rw [← hW0]; exact irow_news (LR.out W0 b0))
  have HL : Hid ((rowV l).length = n) := Lib.hid (by rw [List.length_map]; exact hn.symm)
  have H63 : Hid (n ≤ maxLen) := Lib.hid (by unfold maxLen; omega)
  have HBY : Hid (n * 8 ≤ 140737488355328) := Lib.hid (by omega)
  have SZ : Hid (w.heap.size ≤ (w.alloc (.cells #[] 3)).heap.size) := Lib.hid (by simp)
  have BW : Hid (Below w.heap.size w (w.alloc (.cells #[] 3))) := Lib.hid (by rw [← hW0]; exact b0)
  clear hl hm hn hk hr hc hcm hf h1 h2 hkm b0 hW0 B0
  go_enter Try.func3, Try.ntmps3
  go_wp2_with (at_builtin; refine wpList_append_src _ (by rfl) (.tmp 19) (.tmp 20) 22 (by rfl) w.heap.size 3 i0 _ 8 Try.underlying22 hi0 hz0 hz1 hz2 (by rfl) w.heap.size 0 (by rfl) OWN.out A n c (rowV l) (by rfl) HL.out NEWS.out (rowV_one l) H63.out HBY.out SZ.out ?_; intro v1 w1 hown hgrow; have O1 := Lib.hid hown; have B1 := Lib.hid (BW.out.grown hgrow SZ.out (fun k hk => (OWN.out.lt k hk).1)); clear hown hgrow; obtain ⟨A1, c1, rfl, -⟩ := own_irow O1.out)
  have FC : Hid (Calls Try.prog 9 #[.slice A1 n c1] w1 fun e w' => ∃ v b, e = .returned (.tuple #[v, .bool b]) ∧ FormOut w' w1.heap.size v b l ∧ Below w1.heap.size w1 w') := Lib.hid (by
    obtain ⟨A', c', e, _, _, _, hi, _⟩ := own_irow O1.out
    injection e with e1 e2 e3
    subst e1
    exact formC_any A1 l n c1 w1 hi HN.out HBY.out HR.out)
  refine FC.out.mono ?_
  rintro e w2 ⟨v2, b2, rfl, hfo, hb2⟩
  have B2 := Lib.hid (B1.out.trans (hb2.mono B1.out.size))
  have O2 := Lib.hid (own_below O1.out hb2 (Nat.le_refl _))
  have V2 : v2 = .slice none 0 0 ∧ b2 = false := by
    rcases hfo with ⟨_, h1, h2⟩ | ⟨f', h1, _⟩
    · exact ⟨h1, h2⟩
    · rw [HF.out] at h1; cases h1
  obtain ⟨rfl, rfl⟩ := V2
  clear hfo hb2 FC
  go_wp2_with fail
  have FR := Lib.hid (formR_any A l n c w2 (LR.out w2 B2.out) HN.out (by have := N3.out; omega) HR.out)
  refine FR.out.mono ?_
  rintro e w3 ⟨v3, b3, rfl, hfr, hb3⟩
  have B3 := Lib.hid (B2.out.trans (hb3.mono B2.out.size))
  have O3 := Lib.hid (own_below O2.out hb3 (Nat.le_refl _))
  have V3 : b3 = false ∧ w3.ownsRow w2.heap.size 3 1 v3 0 [] := by
    rcases hfr with ⟨_, h1, h2⟩ | ⟨f', h1, _⟩
    · exact ⟨h1, h2⟩
    · rw [HF.out] at h1; cases h1
  obtain ⟨rfl, ho3⟩ := V3
  obtain ⟨A3, c3, rfl, -⟩ := own_irow (l := []) ho3
  clear hfr hb3 FR
  have S1 : Hid (Calls Try.prog 11 #[.slice none 0 0, .slice A3 0 c3] w3 fun e w' => e = .returned (.bool true) ∧ ∃ q, w' = w3.drewN q) := Lib.hid (by
    have := same_any none A3 [] [] 0 0 0 c3 w3 (.inl rfl) (.inl rfl) rfl rfl (by unfold maxLen; omega)
    simpa using this)
  go_wp2_with fail
  refine S1.out.mono ?_
  rintro e w4 ⟨rfl, q, hq4⟩
  have B4 : Hid (Below w.heap.size w w4) := Lib.hid (by rw [hq4]; exact drewN_below B3.out q)
  have S2 : Hid (Calls Try.prog 11 #[.slice A1 n c1, .slice A n c] w4 fun e w' => e = .returned (.bool true) ∧ ∃ q, w' = w4.drewN q) := Lib.hid (by
    have o4 : w4.ownsRow w.heap.size 3 1 (.slice A1 n c1) n (rowV l) := by rw [hq4]; exact own_drewN O3.out q
    obtain ⟨A', c', e, _, _, _, hi, _⟩ := own_irow o4
    injection e with e1 e2 e3
    subst e1
    have := same_any A1 A l l n n c1 c w4 hi (LR.out w4 B4.out) HN.out HN.out H63.out
    simpa using this)
  clear hq4 S1
  go_wp2_with fail
  refine S2.out.mono ?_
  rintro e w5 ⟨rfl, q, hq5⟩
  have B5 : Hid (Below w.heap.size w w5) := Lib.hid (by rw [hq5]; exact drewN_below B4.out q)
  have FX := Lib.hid (fixed_any w5)
  clear hq5 S2
  go_wp2_with fail
  refine FX.out.mono ?_
  rintro e w6 ⟨rfl, hb6⟩
  have B6 := Lib.hid (B5.out.trans (hb6.mono B5.out.size))
  have E6 := Lib.hid (erow1 w6 (LR.out w6 B6.out) HN.out HC.out HCM.out)
  have B6a := Lib.hid (below_alloc B6.out B6.out.size (.cells #[.slice A n c] 22))
  have HC6 : Hid (Calls Try.prog 12 #[.slice (some ⟨w6.heap.size, 0, none⟩) 1 1, .slice D k d] (w6.alloc (.cells #[.slice A n c] 22)) fun e w' => e = .returned (.bool (holdsB m [l])) ∧ Below (w6.alloc (.cells #[.slice A n c] 22)).heap.size (w6.alloc (.cells #[.slice A n c] 22)) w') := Lib.hid
    (holdsC_any (some ⟨w6.heap.size, 0, none⟩) [l] 1 1 D m k d _ E6.out rfl (by unfold maxLen; omega) (rgE1 HR.out) (MR.out _ B6a.out) HK.out HKM.out)
  clear hb6 FX E6
  go_wp2_with fail
  refine HC6.out.mono ?_
  rintro e w7 ⟨rfl, hb7⟩
  have B7 := Lib.hid (B6a.out.trans (hb7.mono B6a.out.size))
  have E7 := Lib.hid (erow1 w7 (LR.out w7 B7.out) HN.out HC.out HCM.out)
  have B7a := Lib.hid (below_alloc B7.out B7.out.size (.cells #[.slice A n c] 22))
  have HR7 : Hid (Calls Try.prog 13 #[.slice (some ⟨w7.heap.size, 0, none⟩) 1 1, .slice D k d] (w7.alloc (.cells #[.slice A n c] 22)) fun e w' => e = .returned (.bool (holdsB m [l])) ∧ (w7.alloc (.cells #[.slice A n c] 22)) = w') := Lib.hid
    (holdsR_any (some ⟨w7.heap.size, 0, none⟩) [l] 1 1 D m k d _ E7.out rfl (by unfold maxLen; omega) (rgE1 HR.out) (MR.out _ B7a.out) HK.out HKM.out)
  obtain ⟨hb, hhb⟩ : ∃ hb, hb = holdsB m [l] := ⟨_, rfl⟩
  rw [← hhb] at HR7 ⊢
  clear hhb
  clear hb7 HC6 E7
  go_wp2_with fail
  refine HR7.out.mono ?_
  rintro e w8 ⟨rfl, h8⟩
  have B8 : Hid (Below w.heap.size w w8) := Lib.hid (by rw [← h8]; exact B7a.out)
  clear h8 HR7
  have EQ : (hb == hb) = true := by cases hb <;> rfl
  go_wp2_with fail
  go_ret
  exact ⟨rfl, B8.out⟩

set_option maxHeartbeats 4000000 in
set_option maxRecDepth 100000 in
theorem form_some_law (A D : Option Addr) (l : List Int) (m : List Bool) (n c k d : Nat) (w : World) (hl : IRow w w.heap.size A l) (hn : n = l.length) (hc : n ≤ c) (hcm : c ≤ maxLen) (hr : RgL l)
    (hm : BRow w w.heap.size D m) (hk : k = m.length) (hkm : k ≤ maxLen) (h1 : n ≤ 300) (h2 : k ≤ 300) {f : List Int} (hf : formOf l = some f) :
    Calls Try.prog 3 #[.slice A n c, .slice D k d] w fun e w' => e = .returned (.bool true) ∧ Below w.heap.size w w' := by
  have z1 : (n : Int) ≤ 300 := by omega
  have z2 : (k : Int) ≤ 300 := by omega
  obtain ⟨i0, hi0, hz0, hz1, hz2⟩ := int_info
  have LR : Hid (∀ W, Below w.heap.size w W → IRow W W.heap.size A l) := Lib.hid (fun W hb => hl.below hb.size hb)
  have MR : Hid (∀ W, Below w.heap.size w W → BRow W W.heap.size D m) := Lib.hid (fun W hb => hm.below hb.size hb)
  have HN := Lib.hid hn
  have HK := Lib.hid hk
  have HR := Lib.hid hr
  have HC := Lib.hid hc
  have HCM := Lib.hid hcm
  have HF := Lib.hid hf
  have N3 := Lib.hid h1
  have HKM : Hid (k ≤ maxLen) := Lib.hid hkm
  obtain ⟨W0, hW0⟩ : ∃ W0, W0 = w.alloc (.cells #[] 3) := ⟨_, rfl⟩
  have b0 : Below w.heap.size w W0 := by rw [hW0]; exact (Below.refl _ _).alloc (Nat.le_refl _) _
  have B0 := Lib.hid b0
  have OWN : Hid ((w.alloc (.cells #[] 3)).ownsRow w.heap.size 3 1 (.slice (some ⟨w.heap.size, 0, none⟩) 0 0) 0 []) := Lib.hid own_made
  have NEWS : Hid (rowV l = [] ∨ ∃ ad, A = some ad ∧ ∀ j u, (rowV l)[j]? = some u → (w.alloc (.cells #[] 3)).cell? (ad.add j) = some u) := Lib.hid (by rw [← hW0]; exact irow_news (LR.out W0 b0))
  have HL : Hid ((rowV l).length = n) := Lib.hid (by rw [List.length_map]; exact hn.symm)
  have H63 : Hid (n ≤ maxLen) := Lib.hid (by unfold maxLen; omega)
  have HBY : Hid (n * 8 ≤ 140737488355328) := Lib.hid (by omega)
  have SZ : Hid (w.heap.size ≤ (w.alloc (.cells #[] 3)).heap.size) := Lib.hid (by simp)
  have BW : Hid (Below w.heap.size w (w.alloc (.cells #[] 3))) := Lib.hid (by rw [← hW0]; exact b0)
  clear hl hm hn hk hr hc hcm hf h1 h2 hkm b0 hW0 B0
  go_enter Try.func3, Try.ntmps3
  go_wp2_with (at_builtin; refine wpList_append_src _ (by rfl) (.tmp 19) (.tmp 20) 22 (by rfl) w.heap.size 3 i0 _ 8 Try.underlying22 hi0 hz0 hz1 hz2 (by rfl) w.heap.size 0 (by rfl) OWN.out A n c (rowV l) (by rfl) HL.out NEWS.out (rowV_one l) H63.out HBY.out SZ.out ?_; intro v1 w1 hown hgrow; have O1 := Lib.hid hown; have B1 := Lib.hid (BW.out.grown hgrow SZ.out (fun k hk => (OWN.out.lt k hk).1)); clear hown hgrow; obtain ⟨A1, c1, rfl, -⟩ := own_irow O1.out)
  have FC : Hid (Calls Try.prog 9 #[.slice A1 n c1] w1 fun e w' => ∃ v b, e = .returned (.tuple #[v, .bool b]) ∧ FormOut w' w1.heap.size v b l ∧ Below w1.heap.size w1 w') := Lib.hid (by
    obtain ⟨A', c', e, _, _, _, hi, _⟩ := own_irow O1.out
    injection e with e1 e2 e3
    subst e1
    exact formC_any A1 l n c1 w1 hi HN.out HBY.out HR.out)
  refine FC.out.mono ?_
  rintro e w2 ⟨v2, b2, rfl, hfo, hb2⟩
  have B2 := Lib.hid (B1.out.trans (hb2.mono B1.out.size))
  have O2 := Lib.hid (own_below O1.out hb2 (Nat.le_refl _))
  have V2 : b2 = true ∧ w2.ownsRow w1.heap.size 3 1 v2 f.length (rowV f) := by
    rcases hfo with ⟨h1, _⟩ | ⟨f', h1, h2, h3⟩
    · rw [HF.out] at h1; cases h1
    · rw [HF.out] at h1; cases h1; exact ⟨h2, h3⟩
  obtain ⟨rfl, ho2⟩ := V2
  have F2 := Lib.hid ho2
  obtain ⟨A2, c2, rfl, -⟩ := own_irow ho2
  obtain ⟨fl, hfl⟩ : ∃ fl, fl = f.length := ⟨_, rfl⟩
  have FL := Lib.hid hfl
  rw [← hfl] at F2 ⊢
  clear hfl ho2
  clear hfo hb2 FC
  go_wp2_with fail
  have FR := Lib.hid (formR_any A l n c w2 (LR.out w2 B2.out) HN.out (by have := N3.out; omega) HR.out)
  refine FR.out.mono ?_
  rintro e w3 ⟨v3, b3, rfl, hfr, hb3⟩
  have B3 := Lib.hid (B2.out.trans (hb3.mono B2.out.size))
  have O3 := Lib.hid (own_below O2.out hb3 (Nat.le_refl _))
  have V3 : b3 = true ∧ w3.ownsRow w2.heap.size 3 1 v3 f.length (rowV f) := by
    rcases hfr with ⟨h1, _⟩ | ⟨f', h1, h2, h3⟩
    · rw [HF.out] at h1; cases h1
    · rw [HF.out] at h1; cases h1; exact ⟨h2, h3⟩
  obtain ⟨rfl, ho3⟩ := V3
  have F2 := Lib.hid (own_below F2.out hb3 (Nat.le_refl _))
  rw [← FL.out] at ho3
  have F3 := Lib.hid ho3
  obtain ⟨A3, c3, rfl, -⟩ := own_irow ho3
  clear ho3
  clear hfr hb3 FR
  have S1 : Hid (Calls Try.prog 11 #[.slice A2 fl c2, .slice A3 fl c3] w3 fun e w' => e = .returned (.bool true) ∧ ∃ q, w' = w3.drewN q) := Lib.hid (by
    obtain ⟨A', c', e, _, _, hcm, hi, _⟩ := own_irow F2.out
    injection e with e1 e2 e3
    subst e1
    obtain ⟨A'', c'', e, _, h5, h6, hi2, _⟩ := own_irow F3.out
    injection e with e1 e2 e3
    subst e1
    have := same_any A2 A3 f f fl fl c2 c3 w3 hi hi2 FL.out FL.out (by omega)
    simpa using this)
  go_wp2_with fail
  refine S1.out.mono ?_
  rintro e w4 ⟨rfl, q, hq4⟩
  have B4 : Hid (Below w.heap.size w w4) := Lib.hid (by rw [hq4]; exact drewN_below B3.out q)
  have S2 : Hid (Calls Try.prog 11 #[.slice A1 n c1, .slice A n c] w4 fun e w' => e = .returned (.bool true) ∧ ∃ q, w' = w4.drewN q) := Lib.hid (by
    have o4 : w4.ownsRow w.heap.size 3 1 (.slice A1 n c1) n (rowV l) := by rw [hq4]; exact own_drewN O3.out q
    obtain ⟨A', c', e, _, _, _, hi, _⟩ := own_irow o4
    injection e with e1 e2 e3
    subst e1
    have := same_any A1 A l l n n c1 c w4 hi (LR.out w4 B4.out) HN.out HN.out H63.out
    simpa using this)
  have F2 : Hid (w4.ownsRow w1.heap.size 3 1 (.slice A2 fl c2) fl (rowV f)) := Lib.hid (by rw [hq4]; exact own_drewN F2.out q)
  clear hq4 S1
  go_wp2_with fail
  refine S2.out.mono ?_
  rintro e w5 ⟨rfl, q, hq5⟩
  have B5 : Hid (Below w.heap.size w w5) := Lib.hid (by rw [hq5]; exact drewN_below B4.out q)
  have F2 : Hid (w5.ownsRow w1.heap.size 3 1 (.slice A2 fl c2) fl (rowV f)) := Lib.hid (by rw [hq5]; exact own_drewN F2.out q)
  have FX := Lib.hid (fixed_any w5)
  clear hq5 S2
  go_wp2_with fail
  refine FX.out.mono ?_
  rintro e w6 ⟨rfl, hb6⟩
  have B6 := Lib.hid (B5.out.trans (hb6.mono B5.out.size))
  have F2 := Lib.hid (own_below F2.out hb6 (Nat.le_refl _))
  have E6 := Lib.hid (erow1 w6 (LR.out w6 B6.out) HN.out HC.out HCM.out)
  have B6a := Lib.hid (below_alloc B6.out B6.out.size (.cells #[.slice A n c] 22))
  have HC6 : Hid (Calls Try.prog 12 #[.slice (some ⟨w6.heap.size, 0, none⟩) 1 1, .slice D k d] (w6.alloc (.cells #[.slice A n c] 22)) fun e w' => e = .returned (.bool (holdsB m [l])) ∧ Below (w6.alloc (.cells #[.slice A n c] 22)).heap.size (w6.alloc (.cells #[.slice A n c] 22)) w') := Lib.hid
    (holdsC_any (some ⟨w6.heap.size, 0, none⟩) [l] 1 1 D m k d _ E6.out rfl (by unfold maxLen; omega) (rgE1 HR.out) (MR.out _ B6a.out) HK.out HKM.out)
  clear hb6 FX E6
  go_wp2_with fail
  refine HC6.out.mono ?_
  rintro e w7 ⟨rfl, hb7⟩
  have B7 := Lib.hid (B6a.out.trans (hb7.mono B6a.out.size))
  have F2 := Lib.hid (own_below (F2.out.alloc (.cells #[.slice A n c] 22)) hb7 (Nat.le_refl _))
  have E7 := Lib.hid (erow1 w7 (LR.out w7 B7.out) HN.out HC.out HCM.out)
  have B7a := Lib.hid (below_alloc B7.out B7.out.size (.cells #[.slice A n c] 22))
  have HR7 : Hid (Calls Try.prog 13 #[.slice (some ⟨w7.heap.size, 0, none⟩) 1 1, .slice D k d] (w7.alloc (.cells #[.slice A n c] 22)) fun e w' => e = .returned (.bool (holdsB m [l])) ∧ (w7.alloc (.cells #[.slice A n c] 22)) = w') := Lib.hid
    (holdsR_any (some ⟨w7.heap.size, 0, none⟩) [l] 1 1 D m k d _ E7.out rfl (by unfold maxLen; omega) (rgE1 HR.out) (MR.out _ B7a.out) HK.out HKM.out)
  have AF := Lib.hid (any_form HF.out m)
  obtain ⟨hb, hhb⟩ : ∃ hb, hb = holdsB m [l] := ⟨_, rfl⟩
  have HHB := Lib.hid hhb
  rw [← hhb] at HR7 AF ⊢
  clear hhb
  clear hb7 HC6 E7
  go_wp2_with fail
  refine HR7.out.mono ?_
  rintro e w8 ⟨rfl, h8⟩
  have B8 : Hid (Below w.heap.size w w8) := Lib.hid (by rw [← h8]; exact B7a.out)
  have F2 : Hid (w8.ownsRow w1.heap.size 3 1 (.slice A2 fl c2) fl (rowV f)) := Lib.hid (by rw [← h8]; exact F2.out.alloc _)
  clear h8 HR7
  have EQ : (hb == hb) = true := by cases hb <;> rfl
  have I8 : Hid (IRow w8 w8.heap.size A2 f ∧ fl ≤ c2 ∧ c2 ≤ maxLen) := Lib.hid (by
    obtain ⟨A', c', e, _, h5, h6, hi, _⟩ := own_irow F2.out
    injection e with e1 e2 e3
    subst e1
    subst e3
    exact ⟨hi, h5, h6⟩)
  have E8 := Lib.hid (erow1 w8 I8.out.1 FL.out I8.out.2.1 I8.out.2.2)
  have B8a := Lib.hid (below_alloc B8.out B8.out.size (.cells #[.slice A2 fl c2] 22))
  have HC8 : Hid (Calls Try.prog 12 #[.slice (some ⟨w8.heap.size, 0, none⟩) 1 1, .slice D k d] (w8.alloc (.cells #[.slice A2 fl c2] 22)) fun e w' => e = .returned (.bool hb) ∧ Below (w8.alloc (.cells #[.slice A2 fl c2] 22)).heap.size (w8.alloc (.cells #[.slice A2 fl c2] 22)) w') := Lib.hid (by
    have h := holdsC_any (some ⟨w8.heap.size, 0, none⟩) [f] 1 1 D m k d _ E8.out rfl (by unfold maxLen; omega) (rgE1 (rg_form HF.out HR.out)) (MR.out _ B8a.out) HK.out HKM.out
    rwa [AF.out] at h)
  go_wp2_with fail
  refine HC8.out.mono ?_
  rintro e w9 ⟨rfl, hb9⟩
  have B9 := Lib.hid (B8a.out.trans (hb9.mono B8a.out.size))
  have E9 := Lib.hid (erow1 w9 (LR.out w9 B9.out) HN.out HC.out HCM.out)
  have B9a := Lib.hid (below_alloc B9.out B9.out.size (.cells #[.slice A n c] 22))
  have HR9 : Hid (Calls Try.prog 13 #[.slice (some ⟨w9.heap.size, 0, none⟩) 1 1, .slice D k d] (w9.alloc (.cells #[.slice A n c] 22)) fun e w' => e = .returned (.bool hb) ∧ (w9.alloc (.cells #[.slice A n c] 22)) = w') := Lib.hid (by
    have h := holdsR_any (some ⟨w9.heap.size, 0, none⟩) [l] 1 1 D m k d _ E9.out rfl (by unfold maxLen; omega) (rgE1 HR.out) (MR.out _ B9a.out) HK.out HKM.out
    rwa [← HHB.out] at h)
  clear hb9 HC8 E9
  go_wp2_with fail
  refine HR9.out.mono ?_
  rintro e w10 ⟨rfl, h10⟩
  have B10 : Hid (Below w.heap.size w w10) := Lib.hid (by rw [← h10]; exact B9a.out)
  clear h10 HR9
  go_wp2_with fail
  go_ret
  exact ⟨rfl, B10.out⟩

theorem law_formI (A : Option Addr) (l : List Int) (n c : Nat) (D : Option Addr) (m : List Bool) (k d : Nat) (w : World) (hl : IRow w w.heap.size A l) (hn : n = l.length) (hc : n ≤ c) (hcm : c ≤ maxLen) (hr : ∀ t ∈ l, (Lit.int .i64 t).wf = true)
    (hm : BRow w w.heap.size D m) (hk : k = m.length) (hkc : k ≤ d) (hdm : d ≤ maxLen) (_ : True) :
    Calls Try.prog 3 #[.slice A n c, .slice D k d] w fun e w' => e = .returned (.bool true) ∧ Below w.heap.size w w' := by
  by_cases h1 : 300 < n
  · exact form_great A D n c k d w (.inl h1)
  by_cases h2 : 300 < k
  · exact form_great A D n c k d w (.inr h2)
  have hr' : RgL l := fun x hx => rg_of (hr x hx)
  cases hf : formOf l with
  | none => exact form_none_law A D l m n c k d w hl hn hc hcm hr' hm hk (by omega) (by omega) (by omega) hf
  | some f => exact form_some_law A D l m n c k d w hl hn hc hcm hr' hm hk (by omega) (by omega) (by omega) hf

end Go.Proofs.Ytcjcnhnpjcgcmaa.Cnf
