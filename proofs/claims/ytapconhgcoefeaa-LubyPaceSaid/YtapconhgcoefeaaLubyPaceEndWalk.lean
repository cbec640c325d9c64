/- The law of the pace, walked. -/
import Derived.Test.YtapconhgcoefeaaLubyPaceLawWalk
namespace Go.Proofs.Ytapconhgcoefeaa.Luby
set_option linter.unusedVariables false
open Go.RowKit

/-- the loop's head. -/
def PHead (W : World) (u : Nat) (rv : Value) (len : Nat) (k t m i : Value) (wr : World) : Prop :=
  ∃ (kk : Int) (j r met : Nat), k = .int .i64 kk ∧ t = .int .i64 ((r : Int) + 1) ∧ m = .int .i64 met ∧ i = .int .i64 j ∧ j ≤ len ∧ PRel W u rv kk j r met wr

theorem sat_more (k : Int) (h : 1 ≤ k) (h2 : k ≤ 4611686018427387904) : sat (k + (k / 2 + 1)) = k + (k / 2 + 1) := sat_id _ (by omega)
theorem sat_most (k : Int) (h : 4611686018427387904 < k) (h2 : k ≤ 9223372036854775807) : sat (k + (k / 2 + 1)) = k + min (k / 2 + 1) (9223372036854775807 - k) := by
  unfold sat
  split <;> omega

theorem isrow_cells {k : IntKind} {w : World} {a : Option Addr} {len cap : Nat} {zs : List Int} (h : IsRow k w a len cap zs) :
    ∃ bx ox, ∀ j, j < len → ∃ n, a = some ⟨bx, ox, none⟩ ∧ w.cell? ⟨bx, ox + j, none⟩ = some (.int k n) ∧ bx < w.heap.size := by
  rcases h with ⟨rfl, rfl, _⟩ | ⟨x, rfl, hl, _, hz, hc, _⟩
  · exact ⟨0, 0, fun j hj => by omega⟩
  · refine ⟨x.block, x.off, fun j hj => ?_⟩
    have h0 := hc 0 (by omega)
    have hs : x.spot = none := by simpa [Addr.add] using World.cell?_spot h0
    obtain ⟨b, o, s⟩ := x
    simp at hs
    subst hs
    have h := hc j (by omega)
    have e : (⟨b, o, none⟩ : Addr).add j = ⟨b, o + j, none⟩ := by
      unfold Addr.add
      split
      · rename_i e; subst e; rfl
      · rfl
    rw [e] at h
    exact ⟨_, rfl, h, (World.block_lt_of_cell? w ⟨b, o + j, none⟩ h : b < w.heap.size)⟩

theorem start_pace {w w1 : World} {u g cap : Nat} {k : Int} (hu1 : 1 ≤ u) (hu2 : u ≤ 9223372036854775807) (hk : 1 ≤ k ∧ k ≤ 9223372036854775807)
    (hown : w1.ownsRow (w.alloc (blk u k 0 u)).heap.size 3 1 (.slice (some ⟨g, 0, none⟩) (1100 + 1) cap) (1100 + 1) (lst 1100)) (hbel : Below (w.alloc (blk u k 0 u)).heap.size (w.alloc (blk u k 0 u)) w1) :
    PRel w u (.slice (some ⟨g, 0, none⟩) 1101 cap) k 0 0 0 w1 := by
  have hd := due_great u hu2
  have e : (w.alloc (blk u k 0 u)).heap.size = w.heap.size + 1 := by simp
  rw [e] at hown hbel
  refine ⟨?_, by omega, by omega, by omega, hk.1, hk.2, fun _ => rfl, hown, ((Below.refl _ _).alloc (Nat.le_refl _) _).trans (hbel.mono (by omega)), ?_⟩
  · rw [hbel.block w.heap.size (by omega), heap_alloc_new, hd]
    simp
  · have := hbel.size
    simp at this
    exact this

set_option maxHeartbeats 400000 in
theorem restarts_any {b : Nat} {u k r l : Int} (w : World) (h : w.heap[b]? = some (blk u k r l)) :
    Calls Try.prog 17 #[.pointer (some ⟨b, 0, none⟩)] w fun e w' => e = .returned (.int .i64 r) ∧ w' = w := by
  obtain ⟨c0, c1, c2, c3, _⟩ := blk_open h
  clear h
  go_enter Try.func17, Try.ntmps17
  go_wp2
  go_ret
  exact ⟨rfl, rfl⟩

theorem pace_over (u r met : Nat) (x : Bool) (hr : r ≤ 1000) (h1 : u ≤ 3000 → x = ((met : Int) + 1 == ((u * lub (r + 1) : Nat) : Int))) (h2 : 3000 < u → x = false) :
    (∃ mm : Nat, u ≤ 3000 ∧ wrap64 ((u : Int) * (lub (r + 1) : Int)) = (mm : Int) ∧ ((met : Int) + 1 == (mm : Int)) = x ∧ mm ≤ 4000000) ∨ (3000 < u ∧ x = false) := by
  by_cases h : u ≤ 3000
  · have hd := (due_small u r h hr).2
    refine .inl ⟨u * lub (r + 1), h, ?_, (h1 h).symm, by omega⟩
    have e : (u : Int) * (lub (r + 1) : Int) = ((u * lub (r + 1) : Nat) : Int) := by simp
    rw [e]
    exact IntWalk.wrap64_in _ (by omega)
  · exact .inr ⟨by omega, h2 (by omega)⟩

set_option maxHeartbeats 4000000 in
set_option maxRecDepth 100000 in
theorem loop_pace (a0 a1 : Int) (a2 : Option Addr) (len2 cap2 : Nat) (z2 : List Int) (w : World) (w0 : (Lit.int .i64 a0).wf = true) (w1 : (Lit.int .i64 a1).wf = true) (w2 : IsRow .i64 w a2 len2 cap2 z2) (hlen : len2 ≤ 1000) :
    Calls Try.prog 6 #[.int .i64 a0, .int .i64 a1, .slice a2 len2 cap2] w fun e w' => e = .returned (.bool true) ∧ Below w.heap.size w w' := by
  have b0 := bounds_i64 w0
  have b1 := bounds_i64 w1
  obtain ⟨u, hu⟩ := Int.eq_ofNat_of_zero_le (show 0 ≤ max a0 1 by omega)
  have hu1 : 1 ≤ u := by omega
  have hu2 : u ≤ 9223372036854775807 := by omega
  have hu3 : max 1 a0 = (u : Int) := by omega
  have hk : max a1 1 = max 1 a1 := by omega
  obtain ⟨k, hk0⟩ : ∃ k : Int, k = max 1 a1 := ⟨_, rfl⟩
  have hk1 : 1 ≤ k ∧ k ≤ 9223372036854775807 := by omega
  have hcell : ∃ bx ox, ∀ j, j < len2 → ∃ n, a2 = some ⟨bx, ox, none⟩ ∧ w.cell? ⟨bx, ox + j, none⟩ = some (.int .i64 n) ∧ bx < w.heap.size := isrow_cells w2
  have hdec : ¬ (1000 < (len2 : Int)) := by omega
  obtain ⟨bx, ox, hcell⟩ := hcell
  have HC := Lib.hid hcell
  clear hcell w2
  go_enter Try.func6, Try.ntmps6
  go_wp2_with fail
  refine (new_any _ _ _).mono ?_
  rintro e w' ⟨rfl, rfl⟩
  rw [hu, hk, ← hk0]
  have HK := Lib.hid hk0
  clear hk0 hk
  go_wp2_with fail
  refine (ref_any 1100 (by omega) _).mono ?_
  rintro e w1 ⟨v, rfl, g, cap, rfl, hown, hbel, hB, hg⟩
  go_wp2_with fail
  have hP := start_pace hu1 hu2 hk1 hown hbel
  clear hown hbel
  rw [← HK.out]
  go_loopw [10, 11, 12, 33] (fun kk t m i wr => PHead w u (.slice (some ⟨g, 0, none⟩) 1101 cap) len2 kk t m i wr) (fun _ _ _ i _ => len2 - (intOf i).toNat)
  case atStart => exact ⟨k, 0, 0, 0, rfl, rfl, rfl, rfl, by omega, hP⟩
  case round =>
    obtain ⟨kk, j, r, met, rfl, rfl, rfl, rfl, hj, hR⟩ := hrel
    clear hP
    have hr := hR.ri
    have hm := hR.mi
    have q1 := hR.k1
    have q2 := hR.k2
    by_cases hlt : j < len2
    · obtain ⟨n, rfl, hc0, hbx⟩ := HC.out j hlt
      have hc : wr.cell? ⟨bx, ox + j, none⟩ = some (.int .i64 n) := (hR.bel.cell (p := ⟨bx, ox + j, none⟩) hbx).trans hc0
      obtain ⟨x, y, k2, r2, met2, hcon, hy, hx1, hx2, hx3, hx4, hk1, hk2⟩ := pace_round hR n (by omega) hu1 hu2
      have HCON := Lib.hid hcon; clear hcon
      have HR := Lib.hid hR; clear hR
      go_wp2_with fail
      refine HCON.out.mono ?_
      rintro e w2 ⟨rfl, hR2⟩
      have hri := hR2.ri
      have hcr : w2.cell? ⟨g, r + 1, none⟩ = some (.int .i64 (lub (r + 1))) := by rw [hR2.own.cellAt _ (by omega), lst_at _ _ (by omega)]
      have HB := Lib.hid hR2.blk
      have over : (∃ mm : Nat, u ≤ 3000 ∧ wrap64 ((u : Int) * (lub (r + 1) : Int)) = (mm : Int) ∧ ((met : Int) + 1 == (mm : Int)) = x ∧ mm ≤ 4000000) ∨ (3000 < u ∧ x = false) := pace_over u r met x (by omega) hx1 hx2
      have H3 := Lib.hid hx3
      have H4 := Lib.hid hx4
      have K1 := Lib.hid hk1
      have K2 := Lib.hid hk2
      have HR2 := Lib.hid hR2
      clear hx1 hx2 hx3 hx4 hk1 hk2 hR2
      rcases over with ⟨mm, o1, o2, o3, o4⟩ | ⟨o1, rfl⟩
      · cases x
        · obtain ⟨e1, e2⟩ := H4.out rfl
          subst e1 e2
          by_cases hkn : kk < n
          · obtain rfl : y = true := by rw [hy]; simp [hkn]
            have hk3 := K1.out hkn
            by_cases h62 : kk ≤ 4611686018427387904
            · rw [sat_more _ q1 h62] at hk3
              have HK3 := Lib.hid hk3; clear hk3 hy
              go_wp2_with (go_at_call 17; refine (restarts_any _ HB.out).mono ?_; rintro e w' ⟨rfl, rfl⟩)
              go_roundw
              case rel => exact ⟨k2, j + 1, r2, met + 1, by rw [HK3.out], by go_num, by go_num, by go_num, by omega, HR2.out⟩
              case measure => simp [intOf]; omega
            · rw [sat_most _ (by omega) q2] at hk3
              have HK3 := Lib.hid hk3; clear hk3 hy
              go_wp2_with (go_at_call 17; refine (restarts_any _ HB.out).mono ?_; rintro e w' ⟨rfl, rfl⟩)
              go_roundw
              case rel => exact ⟨k2, j + 1, r2, met + 1, by rw [HK3.out], by go_num, by go_num, by go_num, by omega, HR2.out⟩
              case measure => simp [intOf]; omega
          · obtain rfl : y = false := by rw [hy]; simp; omega
            have HK3 := Lib.hid (K2.out (by omega)); clear hy
            go_wp2_with (go_at_call 17; refine (restarts_any _ HB.out).mono ?_; rintro e w' ⟨rfl, rfl⟩)
            go_roundw
            case rel => exact ⟨k2, j + 1, r2, met + 1, by rw [HK3.out], by go_num, by go_num, by go_num, by omega, HR2.out⟩
            case measure => simp [intOf]; omega
        · obtain ⟨e1, e2⟩ := H3.out rfl
          subst e1 e2
          by_cases hkn : kk < n
          · obtain rfl : y = true := by rw [hy]; simp [hkn]
            have hk3 := K1.out hkn
            by_cases h62 : kk ≤ 4611686018427387904
            · rw [sat_more _ q1 h62] at hk3
              have HK3 := Lib.hid hk3; clear hk3 hy
              go_wp2_with (go_at_call 17; refine (restarts_any _ HB.out).mono ?_; rintro e w' ⟨rfl, rfl⟩)
              go_roundw
              case rel => exact ⟨k2, j + 1, r + 1, 0, by rw [HK3.out], by go_num, by go_num, by go_num, by omega, HR2.out⟩
              case measure => simp [intOf]; omega
            · rw [sat_most _ (by omega) q2] at hk3
              have HK3 := Lib.hid hk3; clear hk3 hy
              go_wp2_with (go_at_call 17; refine (restarts_any _ HB.out).mono ?_; rintro e w' ⟨rfl, rfl⟩)
              go_roundw
              case rel => exact ⟨k2, j + 1, r + 1, 0, by rw [HK3.out], by go_num, by go_num, by go_num, by omega, HR2.out⟩
              case measure => simp [intOf]; omega
          · obtain rfl : y = false := by rw [hy]; simp; omega
            have HK3 := Lib.hid (K2.out (by omega)); clear hy
            go_wp2_with (go_at_call 17; refine (restarts_any _ HB.out).mono ?_; rintro e w' ⟨rfl, rfl⟩)
            go_roundw
            case rel => exact ⟨k2, j + 1, r + 1, 0, by rw [HK3.out], by go_num, by go_num, by go_num, by omega, HR2.out⟩
            case measure => simp [intOf]; omega
      · obtain ⟨e1, e2⟩ := H4.out rfl
        subst e1 e2
        by_cases hkn : kk < n
        · obtain rfl : y = true := by rw [hy]; simp [hkn]
          have hk3 := K1.out hkn
          by_cases h62 : kk ≤ 4611686018427387904
          · rw [sat_more _ q1 h62] at hk3
            have HK3 := Lib.hid hk3; clear hk3 hy
            go_wp2_with (go_at_call 17; refine (restarts_any _ HB.out).mono ?_; rintro e w' ⟨rfl, rfl⟩)
            go_roundw
            case rel => exact ⟨k2, j + 1, r2, met + 1, by rw [HK3.out], by go_num, by go_num, by go_num, by omega, HR2.out⟩
            case measure => simp [intOf]; omega
          · rw [sat_most _ (by omega) q2] at hk3
            have HK3 := Lib.hid hk3; clear hk3 hy
            go_wp2_with (go_at_call 17; refine (restarts_any _ HB.out).mono ?_; rintro e w' ⟨rfl, rfl⟩)
            go_roundw
            case rel => exact ⟨k2, j + 1, r2, met + 1, by rw [HK3.out], by go_num, by go_num, by go_num, by omega, HR2.out⟩
            case measure => simp [intOf]; omega
        · obtain rfl : y = false := by rw [hy]; simp; omega
          have HK3 := Lib.hid (K2.out (by omega)); clear hy
          go_wp2_with (go_at_call 17; refine (restarts_any _ HB.out).mono ?_; rintro e w' ⟨rfl, rfl⟩)
          go_roundw
          case rel => exact ⟨k2, j + 1, r2, met + 1, by rw [HK3.out], by go_num, by go_num, by go_num, by omega, HR2.out⟩
          case measure => simp [intOf]; omega
    · obtain rfl : j = len2 := by omega
      have HR := Lib.hid hR
      clear hR
      go_wp2_with (go_at_call 16; refine (fixed_any _).mono ?_; rintro e w' ⟨rfl, c, t, rfl⟩)
      go_ret
      exact ⟨rfl, HR.out.bel.alloc (by have := HR.out.sz; omega) _⟩

set_option maxHeartbeats 1000000 in
theorem law_pace (a0 a1 : Int) (a2 : Option Addr) (len2 cap2 : Nat) (z2 : List Int) (w : World) (w0 : (Lit.int .i64 a0).wf = true) (w1 : (Lit.int .i64 a1).wf = true) (w2 : IsRow .i64 w a2 len2 cap2 z2) :
    Calls Try.prog 6 #[.int .i64 a0, .int .i64 a1, .slice a2 len2 cap2] w fun e w' => e = .returned (.bool true) ∧ Below w.heap.size w w' := by
  by_cases hlen : len2 ≤ 1000
  · exact loop_pace a0 a1 a2 len2 cap2 z2 w w0 w1 w2 hlen
  · have h : (1000 : Int) < (len2 : Int) := by omega
    clear w2 w0 w1 hlen
    go_enter Try.func6, Try.ntmps6
    go_wp2_with (go_at_call 16; refine (fixed_any _).mono ?_; rintro e w' ⟨rfl, c, t, rfl⟩)
    go_ret
    exact ⟨rfl, (Below.refl _ _).alloc (Nat.le_refl _) _⟩

end Go.Proofs.Ytapconhgcoefeaa.Luby
