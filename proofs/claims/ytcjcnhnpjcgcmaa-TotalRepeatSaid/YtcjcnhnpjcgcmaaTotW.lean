/- The law that each literal stands as often as its weight says, walked. -/
import Derived.Test.YtcjcnhnpjcgcmaaTotE
import Derived.Test.YtcjcnhnpjcgcmaaTotC
namespace Go.Proofs.Ytcjcnhnpjcgcmaa.Tot
set_option linter.unusedVariables false
set_option linter.unusedSimpArgs false
open Go.RowKit
open Go.Proofs.Ytcjcnhnpjcgcmaa.Order (IRow ERow add_at)
open Go.Proofs.Ytcjcnhnpjcgcmaa.Cnf (rowV own_irow own_below irow_news int_info rowV_one keep_of below_alloc)

theorem repL_split : ∀ (r ws : List Int) (k : Nat), repL r ws = repL (r.take k) (ws.take k) ++ repL (r.drop k) (ws.drop k)
  | [], ws, k => by simp [repL]
  | x :: r, [], k => by simp [repL_nil]
  | x :: r, w :: ws, 0 => by simp [repL]
  | x :: r, w :: ws, k + 1 => by
    simp only [List.take_succ_cons, List.drop_succ_cons, repL, List.append_assoc]
    rw [← repL_split r ws k]
/-- how many stand ahead of place k. -/
def P (r ws : List Int) (k : Nat) : Nat := (repL (r.take k) (ws.take k)).length
theorem P_zero (r ws : List Int) : P r ws 0 = 0 := by simp [P, repL]
theorem P_step {r ws : List Int} {k : Nat} (h1 : k < r.length) (h2 : k < ws.length) : P r ws (k + 1) = P r ws k + times (ws.getD k 0) := by
  unfold P; rw [repL_step r ws k h1 h2]; simp
theorem P_stay {r ws : List Int} {k : Nat} (h2 : ws.length ≤ k) : P r ws (k + 1) = P r ws k := by
  unfold P; rw [repL_take r ws (k + 1) (by omega), repL_take r ws k (by omega)]
theorem P_le (r ws : List Int) (k : Nat) : P r ws k ≤ (repL r ws).length := by
  have := congrArg List.length (repL_split r ws k)
  rw [List.length_append] at this
  unfold P; omega
theorem P_all {r ws : List Int} {k : Nat} (h : r.length ≤ k) : P r ws k = (repL r ws).length := by
  unfold P; rw [repL_take r ws k (by omega)]
theorem P_at {r ws : List Int} {k j : Nat} (h1 : k < r.length) (h2 : k < ws.length) (hj : j < times (ws.getD k 0)) : (repL r ws).getD (P r ws k + j) 0 = r.getD k 0 := by
  have e := repL_split r ws (k + 1)
  rw [repL_step r ws k h1 h2] at e
  have hl : (repL (r.take k) (ws.take k)).length = P r ws k := rfl
  rw [List.getD_eq_getElem?_getD, e, List.append_assoc, List.getElem?_append_right (by omega), hl, Nat.add_sub_cancel_left, List.getElem?_append_left (by simpa using hj), List.getElem?_replicate, if_pos hj]
  rfl

set_option maxHeartbeats 1000000 in
theorem rep_great (A B : Option Addr) (n c m d : Nat) (w : World) (h : 100 < n ∨ 100 < m) :
    Calls Try.prog 6 #[.slice A n c, .slice B m d] w fun e w' => e = .returned (.bool true) ∧ Below w.heap.size w w' := by
  have FX := Lib.hid (fixed_any w)
  by_cases h1 : 100 < n
  · have z : (100 : Int) < (n : Int) := by omega
    clear h
    go_enter Try.func6, Try.ntmps6
    go_wp2_with fail
    refine FX.out.mono ?_
    rintro e w' ⟨rfl, hb⟩
    have B := Lib.hid hb
    clear hb
    go_wp2_with fail
    go_ret
    exact ⟨rfl, B.out⟩
  · have z1 : ¬ (100 : Int) < (n : Int) := by omega
    have z : (100 : Int) < (m : Int) := by omega
    clear h
    go_enter Try.func6, Try.ntmps6
    go_wp2_with fail
    refine FX.out.mono ?_
    rintro e w' ⟨rfl, hb⟩
    have B := Lib.hid hb
    clear hb
    go_wp2_with fail
    go_ret
    exact ⟨rfl, B.out⟩

set_option maxHeartbeats 4000000 in
set_option maxRecDepth 100000 in
theorem rep_main (A B : Option Addr) (r ws : List Int) (n c m d : Nat) (w : World) (hr : IRow w w.heap.size A r) (hn : n = r.length) (hc : n ≤ c) (hs : IRow w w.heap.size B ws) (hm : m = ws.length) (hn1 : n ≤ 100) (hm1 : m ≤ 100) :
    Calls Try.prog 6 #[.slice A n c, .slice B m d] w fun e w' => e = .returned (.bool true) ∧ Below w.heap.size w w' := by
  have z1 : (n : Int) ≤ 100 := by omega
  have z2 : (m : Int) ≤ 100 := by omega
  have RP := Lib.hid (Repeat_any A B r ws n c m d w hr hn hc hs hm hn1 hm1)
  have TL : Hid ((repL r ws).length ≤ 100000) := Lib.hid (by have := repL_len r ws; omega)
  have HN := Lib.hid hn
  have HM := Lib.hid hm
  have HR := Lib.hid hr
  have HS := Lib.hid hs
  have KB : Hid (∀ T : Nat, T ≤ 100000 → (T : Int) ≤ (100000 : Int)) := Lib.hid (fun T h => by omega)
  clear hr hn hc hs hm hn1 hm1
  go_enter Try.func6, Try.ntmps6
  generalize (100000 : Int) = K at KB ⊢
  go_wp2_with fail
  refine RP.out.mono ?_
  rintro e w1 ⟨v, rfl, hown, hb1⟩
  have B1 := Lib.hid hb1
  have O1 := Lib.hid hown
  obtain ⟨AL, cl, rfl, hTl, hcl, hclm, hil, -⟩ := own_irow hown
  obtain ⟨T, hT⟩ : ∃ T, T = (repL r ws).length := ⟨_, rfl⟩
  have TT := Lib.hid hT
  have IL := Lib.hid hil
  rw [← hT] at TL ⊢
  have t1 : (T : Int) ≤ K := KB.out T TL.out
  have t9 : (T : Int) ≤ 100000 := by have := TL.out; omega
  have emT : min (T : Int) K = (T : Int) := by omega
  clear hT hil hown hb1 hTl hcl hclm RP
  go_wp2_with fail
  go_loopw [6, 7, 8, 9, 24, 46] (fun a _ _ _ v _ wr => ∃ k : Nat, v = .int .i64 k ∧ a = .int .i64 (P r ws k : Nat) ∧ k ≤ n ∧ wr = w1) (fun _ _ _ _ v _ _ => n - (intOf v).toNat)
  case atStart => exact ⟨0, rfl, by rw [P_zero]; rfl, Nat.zero_le _, rfl⟩
  case round =>
    obtain ⟨k, rfl, rfl, hk, h'⟩ := hrel
    obtain rfl := h'.symm
    by_cases hlt : k < n
    · have hlt' : (k : Int) < (n : Int) := by omega
      have K1 : Hid (k < r.length) := Lib.hid (by have := HN.out; omega)
      rcases HR.out with h' | ⟨b1, o1, rfl, hb1, hc1⟩
      · exfalso; have := K1.out; rw [h'] at this; simp at this
      have f1 := (B1.out.cell (p := ⟨b1, o1 + k, none⟩) hb1).trans (hc1 k K1.out)
      obtain ⟨x, hx⟩ : ∃ x, x = r.getD k 0 := ⟨_, rfl⟩
      have HX := Lib.hid hx
      rw [← hx] at f1
      obtain ⟨p, hp⟩ : ∃ p, p = P r ws k := ⟨_, rfl⟩
      have HP := Lib.hid hp
      rw [← hp]
      have p0 : (0 : Int) ≤ (p : Int) := by omega
      have PT : Hid (p ≤ T) := Lib.hid (by have := P_le r ws k; have := TT.out; omega)
      clear hx hp hc1
      by_cases hkm : k < m
      · have hkm' : (k : Int) < (m : Int) := by omega
        have K2 : Hid (k < ws.length) := Lib.hid (by have := HM.out; omega)
        rcases HS.out with h' | ⟨b2, o2, rfl, hb2, hc2⟩
        · exfalso; have := K2.out; rw [h'] at this; simp at this
        have f2 := (B1.out.cell (p := ⟨b2, o2 + k, none⟩) hb2).trans (hc2 k K2.out)
        have PS := Lib.hid (P_step K1.out K2.out)
        have PA := Lib.hid (fun j hj => P_at (j := j) K1.out K2.out hj)
        obtain ⟨u, hu⟩ : ∃ x, x = ws.getD k 0 := ⟨_, rfl⟩
        rw [← hu] at f2 PS PA
        clear hu hc2
        by_cases hu0 : 0 < u
        · obtain ⟨t, ht⟩ : ∃ t, t = times u := ⟨_, rfl⟩
          have emn : min u 1000 = (t : Int) := by rw [ht]; unfold times; omega
          have t2 : (t : Int) ≤ 1000 := by omega
          have t0 : (0 : Int) ≤ (t : Int) := by omega
          rw [← ht] at PS PA
          have PE : Hid (p + t ≤ T) := Lib.hid (by have := P_le r ws (k + 1); have := PS.out; have := HP.out; have := TT.out; omega)
          clear ht
          go_wp2_with fail
          go_loopw [6, 46] (fun a v wq => ∃ j : Nat, v = .int .i64 j ∧ a = .int .i64 (p + j : Nat) ∧ j ≤ t ∧ wq = w1) (fun _ v _ => t - (intOf v).toNat)
          case atStart => exact ⟨0, rfl, rfl, Nat.zero_le _, rfl⟩
          case round =>
            obtain ⟨j, rfl, rfl, hj, h'⟩ := hrel
            obtain rfl := h'.symm
            by_cases hjt : j < t
            · have hjt' : (j : Int) < (t : Int) := by omega
              obtain ⟨a, ha⟩ : ∃ a, a = p + j := ⟨_, rfl⟩
              rw [← ha]
              have aT : a < T := by have := PE.out; omega
              have aT' : (a : Int) < (T : Int) := by omega
              have aM : (a : Int) < K := by omega
              have a0 : (0 : Int) ≤ (a : Int) := by omega
              have fl : ∃ bl ol, AL = some ⟨bl, ol, none⟩ ∧ w1.cell? ⟨bl, ol + a, none⟩ = some (.int .i64 x) := by
                rcases IL.out with h' | ⟨bl, ol, e, hbl, hcl⟩
                · exfalso; have := TT.out; rw [h'] at this; simp at this; omega
                · refine ⟨bl, ol, e, ?_⟩
                  rw [hcl a (by have := TT.out; omega), ha, HP.out, PA.out j hjt, HX.out]
              obtain ⟨bl, ol, rfl, fl⟩ := fl
              have bx : (x != x) = false := by simp
              have aP : Hid (((p + (j + 1) : Nat) : Int) = (a : Int) + 1) := Lib.hid (by omega)
              clear ha
              go_wp2_with fail
              go_roundw
              case rel => exact ⟨j + 1, by go_num, by rw [aP.out], by omega, trivial⟩
              case measure => simp [intOf]; omega
            · have e : j = t := by omega
              subst e
              go_wp2_with fail
              go_roundw
              case rel => exact ⟨k + 1, by go_num, by rw [PS.out, HP.out], by omega, trivial⟩
              case measure => simp [intOf]; omega
        · have PS : Hid (P r ws (k + 1) = P r ws k) := Lib.hid (by
            have h := PS.out
            rw [show times u = 0 by unfold times; omega] at h
            exact h)
          have hu1 : u ≤ 0 := by omega
          go_wp2_with fail
          go_loopw [6, 46] (fun a v wq => v = .int .i64 0 ∧ a = .int .i64 (p : Nat) ∧ wq = w1) (fun _ v _ => 0)
          case atStart => exact ⟨rfl, rfl, rfl⟩
          case round =>
            obtain ⟨rfl, rfl, h'⟩ := hrel
            obtain rfl := h'.symm
            go_wp2_with fail
            go_roundw
            case rel => exact ⟨k + 1, by go_num, by rw [PS.out, HP.out], by omega, trivial⟩
            case measure => simp [intOf]; omega
      · have PS : Hid (P r ws (k + 1) = P r ws k) := Lib.hid (P_stay (by have := HM.out; omega))
        have hkm' : (m : Int) ≤ (k : Int) := by omega
        go_wp2_with fail
        go_loopw [6, 46] (fun a v wq => v = .int .i64 0 ∧ a = .int .i64 (p : Nat) ∧ wq = w1) (fun _ v _ => 0)
        case atStart => exact ⟨rfl, rfl, rfl⟩
        case round =>
          obtain ⟨rfl, rfl, h'⟩ := hrel
          obtain rfl := h'.symm
          go_wp2_with fail
          go_roundw
          case rel => exact ⟨k + 1, by go_num, by rw [PS.out, HP.out], by omega, trivial⟩
          case measure => simp [intOf]; omega
    · obtain rfl : k = n := by omega
      have PE : Hid (P r ws k = T) := Lib.hid (by rw [TT.out]; exact P_all (by have := HN.out; omega))
      rw [PE.out]
      have FX := Lib.hid (fixed_any w1)
      go_wp2_with fail
      refine FX.out.mono ?_
      rintro e w2 ⟨rfl, hb2⟩
      have B2 := Lib.hid (B1.out.trans (hb2.mono B1.out.size))
      clear hb2 FX
      go_wp2_with fail
      go_ret
      exact ⟨rfl, B2.out⟩

theorem law_repeatI (A : Option Addr) (r : List Int) (n c : Nat) (B : Option Addr) (ws : List Int) (m d : Nat) (w : World) (hr : IRow w w.heap.size A r) (hn : n = r.length) (hc : n ≤ c) (_ : c ≤ maxLen) (_ : ∀ t ∈ r, (Lit.int .i64 t).wf = true)
    (hs : IRow w w.heap.size B ws) (hm : m = ws.length) (_ : m ≤ d) (_ : d ≤ maxLen) (_ : ∀ t ∈ ws, (Lit.int .i64 t).wf = true) :
    Calls Try.prog 6 #[.slice A n c, .slice B m d] w fun e w' => e = .returned (.bool true) ∧ Below w.heap.size w w' := by
  by_cases h : 100 < n ∨ 100 < m
  · exact rep_great A B n c m d w h
  · exact rep_main A B r ws n c m d w hr hn hc hs hm (by omega) (by omega)

end Go.Proofs.Ytcjcnhnpjcgcmaa.Tot
