/- Stable sorting: blocks exchanged. -/
import Derived.Test.YtdilmiaaahpfcaaStabMem
namespace Go.Proofs.Ytdilmiaaahpfcaa.Stab
set_option linter.unusedVariables false
set_option linter.unusedSimpArgs false
open Go.RowKit
open Go.Proofs.Ytdilmiaaahpfcaa.Ver (cmpV ord_v Ord Bs)

set_option maxHeartbeats 4000000 in
set_option maxRecDepth 100000 in
theorem swapRange_any {B g n cap a b k : Nat} {f : Fn'} {w W : World} (h : St B g n f w W) (hg : B ≤ g) (hab : a + k ≤ b) (hb : b + k ≤ n) (hn : n ≤ 1000) :
    Calls Try.prog 51 #[.slice (some ⟨g, 0, none⟩) n cap, .int .i64 (a : Nat), .int .i64 (b : Nat), .int .i64 (k : Nat), cv] W fun e w' => e = .returned (.tuple #[]) ∧ St B g n (swpK f a b k) w w' := by
  have z1 : (b : Int) + (k : Int) ≤ (n : Int) := by omega
  have z2 : (a : Int) + (k : Int) ≤ (b : Int) := by omega
  have z3 : (n : Int) ≤ 1000 := by omega
  have S0 : Hid (St B g n (swpK f a b 0) w W) := Lib.hid (by rw [swpK_zero]; exact h)
  have HB := Lib.hid hb
  have HA := Lib.hid hab
  have HG := Lib.hid hg
  clear h hg hab hb hn
  go_enter Try.func51, Try.ntmps51
  go_wp2_with fail
  go_loopw [10] (fun v wr => ∃ i : Nat, v = .int .i64 i ∧ i ≤ k ∧ St B g n (swpK f a b i) w wr) (fun v _ => k - (intOf v).toNat)
  case atStart => exact ⟨0, rfl, Nat.zero_le _, S0.out⟩
  case round =>
    obtain ⟨i, rfl, hi, hst⟩ := hrel
    have SI := Lib.hid hst
    clear hst S0
    by_cases hlt : i < k
    · have hlt' : (i : Int) < (k : Int) := by omega
      obtain ⟨p, hp⟩ : ∃ p, p = a + i := ⟨_, rfl⟩
      obtain ⟨q, hq⟩ : ∃ q, q = b + i := ⟨_, rfl⟩
      have ep : (a : Int) + (i : Int) = (p : Int) := by omega
      have eq' : (b : Int) + (i : Int) = (q : Int) := by omega
      have pq : p < q := by have := HA.out; omega
      have qn : q < n := by have := HB.out; omega
      have pn : p < n := by omega
      have pn' : (p : Int) < (n : Int) := by omega
      have qn' : (q : Int) < (n : Int) := by omega
      have ne1 : ¬ p = q := by omega
      have ne2 : ¬ q = p := by omega
      have NX : Hid (swp (swpK f a b i) p q = swpK f a b (i + 1)) := Lib.hid (by rw [hp, hq]; exact swpK_step f (by have := HA.out; omega))
      have cp := SI.out.row.cell pn
      have cq := SI.out.row.cell qn
      have fp := SI.out.row.free p
      have fq := SI.out.row.free q
      obtain ⟨h, hh⟩ : ∃ h, h = swpK f a b i := ⟨_, rfl⟩
      rw [← hh] at SI NX cp cq
      have R : Hid (St B g n (swpK f a b (i + 1)) w ((wr.setCell ⟨g, p, none⟩ (.string (h q))).setCell ⟨g, q, none⟩ (.string (h p))).drew) := Lib.hid (by rw [← NX.out]; exact (SI.out.set2 HG.out (SI.out.row.swap1 pn qn ne1)).drew1)
      obtain ⟨x, hx⟩ : ∃ x, x = h p := ⟨_, rfl⟩
      obtain ⟨y, hy⟩ : ∃ x, x = h q := ⟨_, rfl⟩
      rw [← hx] at cp R
      rw [← hy] at cq R
      clear hp hq hh hx hy
      go_wp2_with fail
      go_region
      go_wp2_with fail
      go_roundw
      case rel => exact ⟨i + 1, by go_num, by omega, R.out⟩
      case measure => simp [intOf]; omega
    · have e : i = k := by omega
      subst e
      go_wp2_with fail
      go_end0
      exact ⟨rfl, SI.out⟩

set_option maxHeartbeats 4000000 in
set_option maxRecDepth 100000 in
theorem rotate_any {B g n cap a m b : Nat} {f : Fn'} {w W : World} (h : St B g n f w W) (hg : B ≤ g) (ham : a < m) (hmb : m < b) (hb : b ≤ n) (hn : n ≤ 1000) :
    Calls Try.prog 45 #[.slice (some ⟨g, 0, none⟩) n cap, .int .i64 (a : Nat), .int .i64 (m : Nat), .int .i64 (b : Nat), cv] W fun e w' => e = .returned (.tuple #[]) ∧ St B g n (rotF f a m b) w w' := by
  obtain ⟨i0, hi0⟩ : ∃ i, i = m - a := ⟨_, rfl⟩
  obtain ⟨j0, hj0⟩ : ∃ j, j = b - m := ⟨_, rfl⟩
  have e1 : (m : Int) - (a : Int) = (i0 : Int) := by omega
  have e2 : (b : Int) - (m : Int) = (j0 : Int) := by omega
  have z1 : (m : Int) ≤ 1000 := by omega
  have z2 : (j0 : Int) ≤ 1000 := by omega
  have z3 : (i0 : Int) ≤ 1000 := by omega
  have S0 : Hid (St B g n f w W ∧ rotF f (m - i0) m (m + j0) = rotF f a m b) := Lib.hid ⟨h, by rw [hi0, hj0]; congr 1 <;> omega⟩
  have H0 : Hid (0 < i0 ∧ i0 ≤ m ∧ 0 < j0 ∧ m + j0 ≤ n) := Lib.hid (by omega)
  have HG := Lib.hid hg
  have HN := Lib.hid hn
  clear h hg ham hmb hb hn hi0 hj0
  go_enter Try.func45, Try.ntmps45
  go_wp2_with fail
  go_loopw [10, 11] (fun v u wr => ∃ (i j : Nat) (h : Fn'), v = .int .i64 i ∧ u = .int .i64 j ∧ 0 < i ∧ i ≤ m ∧ 0 < j ∧ m + j ≤ n ∧ i ≤ 1000 ∧ j ≤ 1000 ∧ St B g n h w wr ∧ rotF h (m - i) m (m + j) = rotF f a m b) (fun v u _ => (intOf v).toNat + (intOf u).toNat)
  case atStart => exact ⟨i0, j0, f, rfl, rfl, H0.out.1, H0.out.2.1, H0.out.2.2.1, H0.out.2.2.2, by omega, by omega, S0.out.1, S0.out.2⟩
  case round =>
    obtain ⟨i, j, h, rfl, rfl, h1, h2, h3, h4, h5, h6, hst, hrot⟩ := hrel
    have SI := Lib.hid hst
    have RI := Lib.hid hrot
    clear hst hrot S0 H0
    obtain ⟨p, hp⟩ : ∃ p, p = m - i := ⟨_, rfl⟩
    have ep : (m : Int) - (i : Int) = (p : Int) := by omega
    have HP := Lib.hid hp
    have BD : Hid (0 < i ∧ i ≤ m ∧ 0 < j ∧ m + j ≤ n ∧ i ≤ 1000 ∧ j ≤ 1000) := Lib.hid ⟨h1, h2, h3, h4, h5, h6⟩
    have i1 : (i : Int) ≤ 1000 := by omega
    have j1 : (j : Int) ≤ 1000 := by omega
    clear hp h1 h2 h3 h4 h5 h6
    by_cases hij : i = j
    · have F : Hid (swpK h p m i = rotF f a m b) := Lib.hid (by rw [← RI.out, HP.out, rot_same h (by have := BD.out; omega), hij])
      have CL := Lib.hid (swapRange_any (cap := cap) (a := p) (b := m) (k := i) SI.out HG.out (by have := BD.out; have := HP.out; omega) (by have := BD.out; omega) HN.out)
      rw [F.out] at CL
      subst hij
      go_wp2_with fail
      refine CL.out.mono ?_
      rintro e w2 ⟨rfl, hs⟩
      have S2 := Lib.hid hs
      clear hs CL
      go_wp2_with fail
      go_end0
      exact ⟨rfl, S2.out⟩
    · have hne : ¬ (i : Int) = (j : Int) := by omega
      by_cases hlt : j < i
      · have hlt' : (j : Int) < (i : Int) := by omega
        have CL := Lib.hid (swapRange_any (cap := cap) (a := p) (b := m) (k := j) SI.out HG.out (by have := BD.out; have := HP.out; omega) (by have := BD.out; omega) HN.out)
        have F : Hid (rotF (swpK h p m j) (m - (i - j)) m (m + j) = rotF f a m b) := Lib.hid (by rw [HP.out, rot_left h (by have := BD.out; omega) hlt, RI.out])
        have ei : (i : Int) - (j : Int) = ((i - j : Nat) : Int) := by omega
        go_wp2_with fail
        refine CL.out.mono ?_
        rintro e w2 ⟨rfl, hs⟩
        have S2 := Lib.hid hs
        clear hs CL
        go_wp2_with fail
        go_roundw
        case rel => exact ⟨i - j, j, _, by first | rfl | (rw [ei]), rfl, by omega, by have := BD.out; omega, by have := BD.out; omega, by have := BD.out; omega, by omega, by omega, S2.out, F.out⟩
        case measure => have := BD.out; simp [intOf]; omega
      · have hlt' : (i : Int) < (j : Int) := by omega
        have hle' : ¬ (j : Int) < (i : Int) := by omega
        obtain ⟨q, hq⟩ : ∃ q, q = m + j - i := ⟨_, rfl⟩
        have eq' : (m : Int) + (j : Int) - (i : Int) = (q : Int) := by omega
        have CL := Lib.hid (swapRange_any (cap := cap) (a := p) (b := q) (k := i) SI.out HG.out (by have := BD.out; have := HP.out; omega) (by have := BD.out; omega) HN.out)
        have F : Hid (rotF (swpK h p q i) (m - i) m (m + (j - i)) = rotF f a m b) := Lib.hid (by rw [HP.out, hq, rot_right h (by have := BD.out; omega) (by omega), RI.out])
        have ej : (j : Int) - (i : Int) = ((j - i : Nat) : Int) := by omega
        clear hq
        go_wp2_with fail
        refine CL.out.mono ?_
        rintro e w2 ⟨rfl, hs⟩
        have S2 := Lib.hid hs
        clear hs CL
        go_wp2_with fail
        go_roundw
        case rel => exact ⟨i, j - i, _, rfl, by first | rfl | (rw [ej]), by have := BD.out; omega, by have := BD.out; omega, by have := BD.out; omega, by have := BD.out; omega, by omega, by omega, S2.out, F.out⟩
        case measure => have := BD.out; simp [intOf]; omega

end Go.Proofs.Ytdilmiaaahpfcaa.Stab
