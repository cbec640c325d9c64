/- Clauses: what is so, and what holds. -/
import Derived.Test.YtcjcnhnpjcgcmaaCnfA
namespace Go.Proofs.Ytcjcnhnpjcgcmaa.Cnf
set_option linter.unusedVariables false
set_option linter.unusedSimpArgs false
open Go.RowKit
open Go.Proofs.Ytcjcnhnpjcgcmaa.Order (IRow ERow add_at)

theorem so_none {m : List Bool} {n : Int} (h : noneI n = true) : soB m n = false := by unfold soB; rw [h]; rfl
theorem so_in {m : List Bool} {n : Int} {p : Nat} (h : noneI n = false) (hp : atomW n = (p : Int)) (hl : p ≤ m.length) : soB m n = (m.getD (p - 1) false == decide (0 < n)) := by
  rw [atomW_abs h] at hp
  have e : n.natAbs = p := by omega
  unfold soB
  rw [h, e, decide_eq_true hl]
  rfl
theorem so_out {m : List Bool} {n : Int} {p : Nat} (h : noneI n = false) (hp : atomW n = (p : Int)) (hl : m.length < p) : soB m n = (false == decide (0 < n)) := by
  rw [atomW_abs h] at hp
  have e : n.natAbs = p := by omega
  unfold soB
  rw [h, e, decide_eq_false (by omega : ¬ p ≤ m.length)]
  rfl
theorem atom_pos {n : Int} (h : noneI n = false) : ∃ p : Nat, atomW n = (p : Int) ∧ 1 ≤ p ∧ ∀ _ : Rg n, (p : Int) ≤ 9223372036854775807 := by
  rw [atomW_abs h]
  have h0 : ¬ n = 0 := by intro e; subst e; simp [noneI] at h
  have h1 : ¬ n = -9223372036854775808 := by intro e; subst e; simp [noneI] at h
  exact ⟨n.natAbs, by omega, by omega, fun r => by have := r.1; have := r.2; omega⟩

set_option maxHeartbeats 2000000 in
set_option maxRecDepth 100000 in
theorem soR_any (n : Int) (A : Option Addr) (m : List Bool) (k c : Nat) (w : World) (hn : Rg n) (h : BRow w w.heap.size A m) (hk : k = m.length) (hm : k ≤ maxLen) :
    Calls Try.prog 36 #[.int .i64 n, .slice A k c] w fun e w' => e = .returned (.bool (soB m n)) ∧ w = w' := by
  have h63 : (k : Int) ≤ 9223372036854775807 := by unfold maxLen at hm; omega
  have N1 := Lib.hid (noneR_any n hn w)
  have A1 := Lib.hid (atomR_any n hn w)
  have r1 := hn.1
  have r2 := hn.2
  have H := Lib.hid h
  have HK := Lib.hid hk
  clear hm h hk
  cases hq : noneI n with
  | true =>
    have F := Lib.hid (so_none (m := m) hq)
    rw [hq] at N1
    clear hq hn
    go_enter Try.func36, Try.ntmps36
    go_wp2_with fail
    refine N1.out.mono ?_
    rintro e w' ⟨rfl, rfl⟩
    go_wp2_with fail
    go_ret
    exact ⟨ret_bool F.out.symm, rfl⟩
  | false =>
    obtain ⟨p, hp, hp1, hp63⟩ := atom_pos hq
    have h64 := hp63 hn
    have nz : n ≠ 0 := by rintro rfl; simp [noneI] at hq
    have SI := Lib.hid (fun hl => so_in (m := m) hq hp hl)
    have SO := Lib.hid (fun hl => so_out (m := m) hq hp hl)
    rw [hp] at A1
    rw [hq] at N1
    clear hq hn hp hp63
    by_cases hpk : p ≤ k
    · have F := Lib.hid (SI.out (by have := HK.out; omega))
      rcases H.out with h' | ⟨b, o, rfl, hb, hcell⟩
      · exfalso; have := HK.out; rw [h'] at this; simp at this; omega
      have ft := hcell (p - 1) (by have := HK.out; omega)
      obtain ⟨q, hqq⟩ : ∃ q, q = m.getD (p - 1) false := ⟨_, rfl⟩
      rw [← hqq] at ft F
      have tn : ((p : Int) - 1).toNat = p - 1 := by omega
      have j0 : 0 ≤ (p : Int) - 1 := by omega
      have j1 : (p : Int) - 1 < (k : Int) := by omega
      have ft' := ft
      rw [← tn] at ft'
      clear hcell hqq SI SO
      by_cases hneg : n < 0
      · have d : decide (0 < n) = false := decide_eq_false (by omega)
        have D := Lib.hid d
        clear d nz
        go_enter Try.func36, Try.ntmps36
        go_wp2_with fail
        refine N1.out.mono ?_
        rintro e w' ⟨rfl, rfl⟩
        go_wp2_with fail
        refine A1.out.mono ?_
        rintro e w' ⟨rfl, rfl⟩
        go_wp2_with fail
        refine A1.out.mono ?_
        rintro e w' ⟨rfl, rfl⟩
        go_wp2_with fail
        go_ret
        exact ⟨ret_bool (by first | (rw [F.out]; done) | (rw [F.out, D.out]; done) | (rw [F.out, D.out]; cases q <;> rfl)), rfl⟩
      · have hpos : 0 < n := by omega
        have d : decide (0 < n) = true := decide_eq_true (by
          omega)
        have D := Lib.hid d
        clear d nz hneg
        go_enter Try.func36, Try.ntmps36
        go_wp2_with fail
        refine N1.out.mono ?_
        rintro e w' ⟨rfl, rfl⟩
        go_wp2_with fail
        refine A1.out.mono ?_
        rintro e w' ⟨rfl, rfl⟩
        go_wp2_with fail
        refine A1.out.mono ?_
        rintro e w' ⟨rfl, rfl⟩
        go_wp2_with fail
        go_ret
        exact ⟨ret_bool (by first | (rw [F.out]; done) | (rw [F.out, D.out]; done) | (rw [F.out, D.out]; cases q <;> rfl)), rfl⟩
    · have F := Lib.hid (SO.out (by have := HK.out; omega))
      have hkp : k < p := by omega
      clear SI SO
      by_cases hneg : n < 0
      · have d : decide (0 < n) = false := decide_eq_false (by omega)
        have D := Lib.hid d
        clear d nz
        go_enter Try.func36, Try.ntmps36
        go_wp2_with fail
        refine N1.out.mono ?_
        rintro e w' ⟨rfl, rfl⟩
        go_wp2_with fail
        refine A1.out.mono ?_
        rintro e w' ⟨rfl, rfl⟩
        go_wp2_with fail
        go_ret
        exact ⟨ret_bool (by first | (rw [F.out]; done) | (rw [F.out, D.out]; done) | (rw [F.out, D.out]; rfl) | (rw [F.out]; rfl)), rfl⟩
      · have hpos : 0 < n := by omega
        have d : decide (0 < n) = true := decide_eq_true (by
          omega)
        have D := Lib.hid d
        clear d nz hneg
        go_enter Try.func36, Try.ntmps36
        go_wp2_with fail
        refine N1.out.mono ?_
        rintro e w' ⟨rfl, rfl⟩
        go_wp2_with fail
        refine A1.out.mono ?_
        rintro e w' ⟨rfl, rfl⟩
        go_wp2_with fail
        go_ret
        exact ⟨ret_bool (by first | (rw [F.out]; done) | (rw [F.out, D.out]; done) | (rw [F.out, D.out]; rfl) | (rw [F.out]; rfl)), rfl⟩

set_option maxHeartbeats 2000000 in
set_option maxRecDepth 100000 in
theorem soC_any (n : Int) (A : Option Addr) (m : List Bool) (k c : Nat) (w : World) (hn : Rg n) (h : BRow w w.heap.size A m) (hk : k = m.length) (hm : k ≤ maxLen) :
    Calls Try.prog 34 #[.int .i64 n, .slice A k c] w fun e w' => e = .returned (.bool (soB m n)) ∧ w = w' := by
  have h63 : (k : Int) ≤ 9223372036854775807 := by unfold maxLen at hm; omega
  have A1 := Lib.hid (atomC_any n hn w)
  have r1 := hn.1
  have r2 := hn.2
  have H := Lib.hid h
  have HK := Lib.hid hk
  clear hm h hk
  cases hq : noneI n with
  | true =>
    have F := Lib.hid (so_none (m := m) hq)
    have e : n = 0 ∨ n = -9223372036854775808 := by simpa [noneI] using hq
    clear hq hn A1
    rcases e with rfl | rfl
    · go_enter Try.func34, Try.ntmps34
      go_wp2_with fail
      go_ret
      exact ⟨ret_bool F.out.symm, rfl⟩
    · go_enter Try.func34, Try.ntmps34
      go_wp2_with fail
      go_ret
      exact ⟨ret_bool F.out.symm, rfl⟩
  | false =>
    obtain ⟨p, hp, hp1, hp63⟩ := atom_pos hq
    have h64 := hp63 hn
    have nz : n ≠ 0 := by rintro rfl; simp [noneI] at hq
    have e0 : (n == 0) = false := by rw [beq_eq_false_iff_ne]; exact nz
    have e1 : (n == -9223372036854775808) = false := by rw [beq_eq_false_iff_ne]; rintro rfl; simp [noneI] at hq
    have SI := Lib.hid (fun hl => so_in (m := m) hq hp hl)
    have SO := Lib.hid (fun hl => so_out (m := m) hq hp hl)
    rw [hp] at A1
    clear hq hn hp hp63
    by_cases hpk : p ≤ k
    · have F := Lib.hid (SI.out (by have := HK.out; omega))
      rcases H.out with h' | ⟨b, o, rfl, hb, hcell⟩
      · exfalso; have := HK.out; rw [h'] at this; simp at this; omega
      have ft := hcell (p - 1) (by have := HK.out; omega)
      obtain ⟨q, hqq⟩ : ∃ q, q = m.getD (p - 1) false := ⟨_, rfl⟩
      rw [← hqq] at ft F
      have tn : ((p : Int) - 1).toNat = p - 1 := by omega
      have j0 : 0 ≤ (p : Int) - 1 := by omega
      have j1 : (p : Int) - 1 < (k : Int) := by omega
      have ft' := ft
      rw [← tn] at ft'
      clear hcell hqq SI SO
      by_cases hneg : n < 0
      · have d : decide (0 < n) = false := decide_eq_false (by omega)
        have D := Lib.hid d
        clear d nz
        go_enter Try.func34, Try.ntmps34
        go_wp2_with fail
        refine A1.out.mono ?_
        rintro e w' ⟨rfl, rfl⟩
        go_wp2_with fail
        go_ret
        exact ⟨ret_bool (by first | (rw [F.out]; done) | (rw [F.out, D.out]; done) | (rw [F.out, D.out]; cases q <;> rfl)), rfl⟩
      · have hpos : 0 < n := by omega
        have d : decide (0 < n) = true := decide_eq_true (by
          omega)
        have D := Lib.hid d
        clear d nz hneg
        go_enter Try.func34, Try.ntmps34
        go_wp2_with fail
        refine A1.out.mono ?_
        rintro e w' ⟨rfl, rfl⟩
        go_wp2_with fail
        go_ret
        exact ⟨ret_bool (by first | (rw [F.out]; done) | (rw [F.out, D.out]; done) | (rw [F.out, D.out]; cases q <;> rfl)), rfl⟩
    · have F := Lib.hid (SO.out (by have := HK.out; omega))
      have hkp : k < p := by omega
      clear SI SO
      by_cases hneg : n < 0
      · have d : decide (0 < n) = false := decide_eq_false (by omega)
        have D := Lib.hid d
        clear d nz
        go_enter Try.func34, Try.ntmps34
        go_wp2_with fail
        refine A1.out.mono ?_
        rintro e w' ⟨rfl, rfl⟩
        go_wp2_with fail
        go_ret
        exact ⟨ret_bool (by first | (rw [F.out]; done) | (rw [F.out, D.out]; done) | (rw [F.out, D.out]; rfl) | (rw [F.out]; rfl)), rfl⟩
      · have hpos : 0 < n := by omega
        have d : decide (0 < n) = true := decide_eq_true (by
          omega)
        have D := Lib.hid d
        clear d nz hneg
        go_enter Try.func34, Try.ntmps34
        go_wp2_with fail
        refine A1.out.mono ?_
        rintro e w' ⟨rfl, rfl⟩
        go_wp2_with fail
        go_ret
        exact ⟨ret_bool (by first | (rw [F.out]; done) | (rw [F.out, D.out]; done) | (rw [F.out, D.out]; rfl) | (rw [F.out]; rfl)), rfl⟩


end Go.Proofs.Ytcjcnhnpjcgcmaa.Cnf
