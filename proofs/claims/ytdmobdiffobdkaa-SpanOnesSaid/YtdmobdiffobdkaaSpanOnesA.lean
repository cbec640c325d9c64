/- The law SpanOnes: the ways where a span of one version has just what is like it. -/
import Derived.Test.YtdmobdiffobdkaaSpanOnesH
namespace Go.Proofs.Ytdmobdiffobdkaa.Ver
set_option linter.unusedVariables false
set_option linter.unusedSimpArgs false
open Go.RowKit Go.Shelf

set_option maxRecDepth 100000 in
set_option maxHeartbeats 8000000 in
theorem ones_T (v u a a' b b' : ByteArray) (w : World) (zv : v.size ≤ 3000) (zu : u.size ≤ 3000) (ho hz wab hau hbu sa : Bool) (k : wab = true → hau = true → hbu = true)
    (GA : Says 27 #[spv a a'] (.bool false)) (GB : Says 27 #[spv b b'] (.bool false))
    (HO : Says 31 #[spv v v, .string u] (.bool ho)) (RO : Says 32 #[spv v v, .string u] (.bool ho))
    (HZ : Says 31 #[spv ⟨#[]⟩ ⟨#[]⟩, .string u] (.bool hz)) (RZ : Says 32 #[spv ⟨#[]⟩ ⟨#[]⟩, .string u] (.bool hz))
    (WAB : Says 41 #[spv a a', spv b b'] (.bool wab)) (HA : Says 31 #[spv a a', .string u] (.bool hau)) (HB : Says 31 #[spv b b', .string u] (.bool hbu))
    (MA : Says 30 #[spv a a'] (.bool sa)) (WZ : Says 41 #[spv a a', spv ⟨#[]⟩ ⟨#[]⟩] (.bool sa)) (WA : Says 41 #[spv a a', spv a a'] (.bool sa))
    (ev : v.toList.isEmpty = false) (MO : Says 30 #[spv v v] (.bool true)) (eq : (v.toList == u.toList) = true) (hho : ho = true) :
    Calls Try.prog 13 #[.string v, .string u, spv a a', spv b b'] w fun e w' => e = .returned (.bool true) ∧ Below w.heap.size w w' := by
  subst hho
  have zv' : (v.size : Int) ≤ 3000 := by omega
  have zu' : (u.size : Int) ≤ 3000 := by omega
  have J := Lib.hid (TB.start w a a' b b')
  obtain ⟨a0, a1, b0, b1⟩ := J.out.cells
  have GA := Lib.hid GA; have GB := Lib.hid GB; have HO := Lib.hid HO; have RO := Lib.hid RO; have HZ := Lib.hid HZ; have RZ := Lib.hid RZ; have WAB := Lib.hid WAB; have HA := Lib.hid HA; have HB := Lib.hid HB; have MA := Lib.hid MA; have WZ := Lib.hid WZ; have WA := Lib.hid WA; have MO := Lib.hid MO; have FX := Lib.hid sfixed_any; have K := Lib.hid k; clear k zv zu
  go_enter Try.func13, Try.ntmps13
  go_wp2_with fail
  go_at_call 27; refine (GA.out _).mono ?_; rintro e wn ⟨rfl, hb⟩; clear a0 a1 b0 b1; have J := Lib.hid (J.out.step hb); clear hb; obtain ⟨a0, a1, b0, b1⟩ := J.out.cells
  go_wp2_with fail
  go_at_call 27; refine (GB.out _).mono ?_; rintro e wo ⟨rfl, hb⟩; clear a0 a1 b0 b1; have J := Lib.hid (J.out.step hb); clear hb; obtain ⟨a0, a1, b0, b1⟩ := J.out.cells
  go_upto_region 4 with (fail)
  go_cut [62] (fun c wx => c = .bool false ∧ TB w a a' b b' wx)
  case first =>
    have O := Lib.hid (Bx.new wo v v).drew
    have J := Lib.hid (TB.drew (TB.step J.out (Below.alloc (Below.refl _ wo) (Nat.le_refl _) (.cells #[.string v, .string v] 37))))
    obtain ⟨o0, o1⟩ := O.out.cells
    clear a0 a1 b0 b1
    first | (go_region_held3 (fun W' => W'.cell? ⟨wo.heap.size, 0, none⟩ = some (.string v) ∧ W'.cell? ⟨wo.heap.size, 1, none⟩ = some (.string v))
      (first | exact ⟨o0, o1⟩ | go_keep)
      (first
        | (go_at_call 30; (with_reducible refine (MO.out _).mono ?_); rintro e wn ⟨rfl, hb⟩; clear o0 o1; have O := Lib.hid (O.out.step hb); have J := Lib.hid (J.out.step hb); clear hb; obtain ⟨o0, o1⟩ := O.out.cells)
        | (go_at_call 31; (with_reducible refine (HO.out _).mono ?_); rintro e wn ⟨rfl, hb⟩; clear o0 o1; have O := Lib.hid (O.out.step hb); have J := Lib.hid (J.out.step hb); clear hb; obtain ⟨o0, o1⟩ := O.out.cells)
        | (go_at_call 32; (with_reducible refine (RO.out _).mono ?_); rintro e wn ⟨rfl, hb⟩; clear o0 o1; have O := Lib.hid (O.out.step hb); have J := Lib.hid (J.out.step hb); clear hb; obtain ⟨o0, o1⟩ := O.out.cells)
        | (go_at_call 31; (with_reducible refine (HZ.out _).mono ?_); rintro e wn ⟨rfl, hb⟩; clear o0 o1; have O := Lib.hid (O.out.step hb); have J := Lib.hid (J.out.step hb); clear hb; obtain ⟨o0, o1⟩ := O.out.cells)
        | (go_at_call 32; (with_reducible refine (RZ.out _).mono ?_); rintro e wn ⟨rfl, hb⟩; clear o0 o1; have O := Lib.hid (O.out.step hb); have J := Lib.hid (J.out.step hb); clear hb; obtain ⟨o0, o1⟩ := O.out.cells))) | fail
    all_goals (go_wp2_with fail; go_meet; exact ⟨rfl, J.out⟩)
  case rest =>
    obtain ⟨rfl, hJ⟩ := hcut
    have J := Lib.hid hJ
    clear hJ
    obtain ⟨a0, a1, b0, b1⟩ := J.out.cells
    cases wab <;> cases hau <;> cases sa
    all_goals (try obtain rfl := K.out rfl rfl)
    all_goals go_wp2_with (first
      | (go_at_call 28; (with_reducible refine (FX.out _).mono ?_); rintro e wn ⟨rfl, hb⟩; clear a0 a1 b0 b1; have J := Lib.hid (J.out.step hb); clear hb; obtain ⟨a0, a1, b0, b1⟩ := J.out.cells)
      | (go_at_call 41; (with_reducible refine (WAB.out _).mono ?_); rintro e wn ⟨rfl, hb⟩; clear a0 a1 b0 b1; have J := Lib.hid (J.out.step hb); clear hb; obtain ⟨a0, a1, b0, b1⟩ := J.out.cells)
      | (go_at_call 41; (with_reducible refine (WZ.out _).mono ?_); rintro e wn ⟨rfl, hb⟩; clear a0 a1 b0 b1; have J := Lib.hid (J.out.step hb); clear hb; obtain ⟨a0, a1, b0, b1⟩ := J.out.cells)
      | (go_at_call 41; (with_reducible refine (WA.out _).mono ?_); rintro e wn ⟨rfl, hb⟩; clear a0 a1 b0 b1; have J := Lib.hid (J.out.step hb); clear hb; obtain ⟨a0, a1, b0, b1⟩ := J.out.cells)
      | (go_at_call 31; (with_reducible refine (HA.out _).mono ?_); rintro e wn ⟨rfl, hb⟩; clear a0 a1 b0 b1; have J := Lib.hid (J.out.step hb); clear hb; obtain ⟨a0, a1, b0, b1⟩ := J.out.cells)
      | (go_at_call 31; (with_reducible refine (HB.out _).mono ?_); rintro e wn ⟨rfl, hb⟩; clear a0 a1 b0 b1; have J := Lib.hid (J.out.step hb); clear hb; obtain ⟨a0, a1, b0, b1⟩ := J.out.cells)
      | (go_at_call 30; (with_reducible refine (MA.out _).mono ?_); rintro e wn ⟨rfl, hb⟩; clear a0 a1 b0 b1; have J := Lib.hid (J.out.step hb); clear hb; obtain ⟨a0, a1, b0, b1⟩ := J.out.cells))
    all_goals (go_ret; exact ⟨rfl, J.out.below⟩)

set_option maxRecDepth 100000 in
set_option maxHeartbeats 8000000 in
theorem ones_F (v u a a' b b' : ByteArray) (w : World) (zv : v.size ≤ 3000) (zu : u.size ≤ 3000) (ho hz wab hau hbu sa : Bool) (k : wab = true → hau = true → hbu = true)
    (GA : Says 27 #[spv a a'] (.bool false)) (GB : Says 27 #[spv b b'] (.bool false))
    (HO : Says 31 #[spv v v, .string u] (.bool ho)) (RO : Says 32 #[spv v v, .string u] (.bool ho))
    (HZ : Says 31 #[spv ⟨#[]⟩ ⟨#[]⟩, .string u] (.bool hz)) (RZ : Says 32 #[spv ⟨#[]⟩ ⟨#[]⟩, .string u] (.bool hz))
    (WAB : Says 41 #[spv a a', spv b b'] (.bool wab)) (HA : Says 31 #[spv a a', .string u] (.bool hau)) (HB : Says 31 #[spv b b', .string u] (.bool hbu))
    (MA : Says 30 #[spv a a'] (.bool sa)) (WZ : Says 41 #[spv a a', spv ⟨#[]⟩ ⟨#[]⟩] (.bool sa)) (WA : Says 41 #[spv a a', spv a a'] (.bool sa))
    (ev : v.toList.isEmpty = false) (MO : Says 30 #[spv v v] (.bool true)) (eq : (v.toList == u.toList) = false) (hho : ho = false) :
    Calls Try.prog 13 #[.string v, .string u, spv a a', spv b b'] w fun e w' => e = .returned (.bool true) ∧ Below w.heap.size w w' := by
  subst hho
  have zv' : (v.size : Int) ≤ 3000 := by omega
  have zu' : (u.size : Int) ≤ 3000 := by omega
  have J := Lib.hid (TB.start w a a' b b')
  obtain ⟨a0, a1, b0, b1⟩ := J.out.cells
  have GA := Lib.hid GA; have GB := Lib.hid GB; have HO := Lib.hid HO; have RO := Lib.hid RO; have HZ := Lib.hid HZ; have RZ := Lib.hid RZ; have WAB := Lib.hid WAB; have HA := Lib.hid HA; have HB := Lib.hid HB; have MA := Lib.hid MA; have WZ := Lib.hid WZ; have WA := Lib.hid WA; have MO := Lib.hid MO; have FX := Lib.hid sfixed_any; have K := Lib.hid k; clear k zv zu
  go_enter Try.func13, Try.ntmps13
  go_wp2_with fail
  go_at_call 27; refine (GA.out _).mono ?_; rintro e wn ⟨rfl, hb⟩; clear a0 a1 b0 b1; have J := Lib.hid (J.out.step hb); clear hb; obtain ⟨a0, a1, b0, b1⟩ := J.out.cells
  go_wp2_with fail
  go_at_call 27; refine (GB.out _).mono ?_; rintro e wo ⟨rfl, hb⟩; clear a0 a1 b0 b1; have J := Lib.hid (J.out.step hb); clear hb; obtain ⟨a0, a1, b0, b1⟩ := J.out.cells
  go_upto_region 4 with (fail)
  go_cut [62] (fun c wx => c = .bool false ∧ TB w a a' b b' wx)
  case first =>
    have O := Lib.hid (Bx.new wo v v).drew
    have J := Lib.hid (TB.drew (TB.step J.out (Below.alloc (Below.refl _ wo) (Nat.le_refl _) (.cells #[.string v, .string v] 37))))
    obtain ⟨o0, o1⟩ := O.out.cells
    clear a0 a1 b0 b1
    first | (go_region_held3 (fun W' => W'.cell? ⟨wo.heap.size, 0, none⟩ = some (.string v) ∧ W'.cell? ⟨wo.heap.size, 1, none⟩ = some (.string v))
      (first | exact ⟨o0, o1⟩ | go_keep)
      (first
        | (go_at_call 30; (with_reducible refine (MO.out _).mono ?_); rintro e wn ⟨rfl, hb⟩; clear o0 o1; have O := Lib.hid (O.out.step hb); have J := Lib.hid (J.out.step hb); clear hb; obtain ⟨o0, o1⟩ := O.out.cells)
        | (go_at_call 31; (with_reducible refine (HO.out _).mono ?_); rintro e wn ⟨rfl, hb⟩; clear o0 o1; have O := Lib.hid (O.out.step hb); have J := Lib.hid (J.out.step hb); clear hb; obtain ⟨o0, o1⟩ := O.out.cells)
        | (go_at_call 32; (with_reducible refine (RO.out _).mono ?_); rintro e wn ⟨rfl, hb⟩; clear o0 o1; have O := Lib.hid (O.out.step hb); have J := Lib.hid (J.out.step hb); clear hb; obtain ⟨o0, o1⟩ := O.out.cells)
        | (go_at_call 31; (with_reducible refine (HZ.out _).mono ?_); rintro e wn ⟨rfl, hb⟩; clear o0 o1; have O := Lib.hid (O.out.step hb); have J := Lib.hid (J.out.step hb); clear hb; obtain ⟨o0, o1⟩ := O.out.cells)
        | (go_at_call 32; (with_reducible refine (RZ.out _).mono ?_); rintro e wn ⟨rfl, hb⟩; clear o0 o1; have O := Lib.hid (O.out.step hb); have J := Lib.hid (J.out.step hb); clear hb; obtain ⟨o0, o1⟩ := O.out.cells))) | fail
    all_goals (go_wp2_with fail; go_meet; exact ⟨rfl, J.out⟩)
  case rest =>
    obtain ⟨rfl, hJ⟩ := hcut
    have J := Lib.hid hJ
    clear hJ
    obtain ⟨a0, a1, b0, b1⟩ := J.out.cells
    cases wab <;> cases hau <;> cases sa
    all_goals (try obtain rfl := K.out rfl rfl)
    all_goals go_wp2_with (first
      | (go_at_call 28; (with_reducible refine (FX.out _).mono ?_); rintro e wn ⟨rfl, hb⟩; clear a0 a1 b0 b1; have J := Lib.hid (J.out.step hb); clear hb; obtain ⟨a0, a1, b0, b1⟩ := J.out.cells)
      | (go_at_call 41; (with_reducible refine (WAB.out _).mono ?_); rintro e wn ⟨rfl, hb⟩; clear a0 a1 b0 b1; have J := Lib.hid (J.out.step hb); clear hb; obtain ⟨a0, a1, b0, b1⟩ := J.out.cells)
      | (go_at_call 41; (with_reducible refine (WZ.out _).mono ?_); rintro e wn ⟨rfl, hb⟩; clear a0 a1 b0 b1; have J := Lib.hid (J.out.step hb); clear hb; obtain ⟨a0, a1, b0, b1⟩ := J.out.cells)
      | (go_at_call 41; (with_reducible refine (WA.out _).mono ?_); rintro e wn ⟨rfl, hb⟩; clear a0 a1 b0 b1; have J := Lib.hid (J.out.step hb); clear hb; obtain ⟨a0, a1, b0, b1⟩ := J.out.cells)
      | (go_at_call 31; (with_reducible refine (HA.out _).mono ?_); rintro e wn ⟨rfl, hb⟩; clear a0 a1 b0 b1; have J := Lib.hid (J.out.step hb); clear hb; obtain ⟨a0, a1, b0, b1⟩ := J.out.cells)
      | (go_at_call 31; (with_reducible refine (HB.out _).mono ?_); rintro e wn ⟨rfl, hb⟩; clear a0 a1 b0 b1; have J := Lib.hid (J.out.step hb); clear hb; obtain ⟨a0, a1, b0, b1⟩ := J.out.cells)
      | (go_at_call 30; (with_reducible refine (MA.out _).mono ?_); rintro e wn ⟨rfl, hb⟩; clear a0 a1 b0 b1; have J := Lib.hid (J.out.step hb); clear hb; obtain ⟨a0, a1, b0, b1⟩ := J.out.cells))
    all_goals (go_ret; exact ⟨rfl, J.out.below⟩)

set_option maxHeartbeats 4000000 in
theorem ones_great (v u a a' b b' : ByteArray) (w : World) (zv : v.size ≤ maxLen) (zu : u.size ≤ maxLen) (za : a.size ≤ maxLen) (za' : a'.size ≤ maxLen) (zb : b.size ≤ maxLen) (zb' : b'.size ≤ maxLen)
    (h : 3000 < v.size ∨ 3000 < u.size ∨ (decide (3000 < a.size) || decide (3000 < a'.size)) = true ∨ (decide (3000 < b.size) || decide (3000 < b'.size)) = true) :
    Calls Try.prog 13 #[.string v, .string u, spv a a', spv b b'] w fun e w' => e = .returned (.bool true) ∧ Below w.heap.size w w' := by
  have GA := Lib.hid (sgreat_any a a' za za')
  have GB := Lib.hid (sgreat_any b b' zb zb')
  have FX := Lib.hid sfixed_any
  have J := Lib.hid (TB.start w a a' b b')
  obtain ⟨a0, a1, b0, b1⟩ := J.out.cells
  have zv' : (v.size : Int) ≤ 9223372036854775807 := by unfold maxLen at zv; omega
  have zu' : (u.size : Int) ≤ 9223372036854775807 := by unfold maxLen at zu; omega
  clear za za' zb zb' zv zu
  generalize (decide (3000 < a.size) || decide (3000 < a'.size)) = ga at GA h
  generalize (decide (3000 < b.size) || decide (3000 < b'.size)) = gb at GB h
  by_cases hv : 3000 < v.size
  · have hv' : 3000 < (v.size : Int) := by omega
    clear h
    go_enter Try.func13, Try.ntmps13
    go_wp2_with fail
    go_at_call 28; refine (FX.out _).mono ?_; rintro e wn ⟨rfl, hb⟩; clear a0 a1 b0 b1; have J := Lib.hid (J.out.step hb); clear hb; obtain ⟨a0, a1, b0, b1⟩ := J.out.cells
    go_wp2_with fail
    go_ret
    exact ⟨rfl, J.out.below⟩
  · have hv' : (v.size : Int) ≤ 3000 := by omega
    by_cases hu : 3000 < u.size
    · have hu' : 3000 < (u.size : Int) := by omega
      clear h
      go_enter Try.func13, Try.ntmps13
      go_wp2_with fail
      go_at_call 28; refine (FX.out _).mono ?_; rintro e wn ⟨rfl, hb⟩; clear a0 a1 b0 b1; have J := Lib.hid (J.out.step hb); clear hb; obtain ⟨a0, a1, b0, b1⟩ := J.out.cells
      go_wp2_with fail
      go_ret
      exact ⟨rfl, J.out.below⟩
    · have hu' : (u.size : Int) ≤ 3000 := by omega
      cases ga with
      | true =>
        clear h
        go_enter Try.func13, Try.ntmps13
        go_wp2_with fail
        go_at_call 27; refine (GA.out _).mono ?_; rintro e wn ⟨rfl, hb⟩; clear a0 a1 b0 b1; have J := Lib.hid (J.out.step hb); clear hb; obtain ⟨a0, a1, b0, b1⟩ := J.out.cells
        go_wp2_with fail
        go_at_call 28; refine (FX.out _).mono ?_; rintro e wn ⟨rfl, hb⟩; clear a0 a1 b0 b1; have J := Lib.hid (J.out.step hb); clear hb; obtain ⟨a0, a1, b0, b1⟩ := J.out.cells
        go_wp2_with fail
        go_ret
        exact ⟨rfl, J.out.below⟩
      | false =>
        obtain rfl : gb = true := by simp [hv, hu] at h; exact h
        clear h
        go_enter Try.func13, Try.ntmps13
        go_wp2_with fail
        go_at_call 27; refine (GA.out _).mono ?_; rintro e wn ⟨rfl, hb⟩; clear a0 a1 b0 b1; have J := Lib.hid (J.out.step hb); clear hb; obtain ⟨a0, a1, b0, b1⟩ := J.out.cells
        go_wp2_with fail
        go_at_call 27; refine (GB.out _).mono ?_; rintro e wn ⟨rfl, hb⟩; clear a0 a1 b0 b1; have J := Lib.hid (J.out.step hb); clear hb; obtain ⟨a0, a1, b0, b1⟩ := J.out.cells
        go_wp2_with fail
        go_at_call 28; refine (FX.out _).mono ?_; rintro e wn ⟨rfl, hb⟩; clear a0 a1 b0 b1; have J := Lib.hid (J.out.step hb); clear hb; obtain ⟨a0, a1, b0, b1⟩ := J.out.cells
        go_wp2_with fail
        go_ret
        exact ⟨rfl, J.out.below⟩

end Go.Proofs.Ytdmobdiffobdkaa.Ver
