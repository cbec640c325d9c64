/- Counts: each literal as often as its weight says. -/
import Derived.Test.YtcjcnhnpjcgcmaaTotD
import Derived.Test.YtcjcnhnpjcgcmaaCnfL
namespace Go.Proofs.Ytcjcnhnpjcgcmaa.Tot
set_option linter.unusedVariables false
set_option linter.unusedSimpArgs false
open Go.RowKit
open Go.Proofs.Ytcjcnhnpjcgcmaa.Order (IRow ERow add_at GI repeat_any make_ints)
open Go.Proofs.Ytcjcnhnpjcgcmaa.Cnf (rowV own_irow own_below irow_news int_info rowV_one keep_of below_alloc)

set_option maxHeartbeats 2000000 in
set_option maxRecDepth 100000 in
theorem repeat_zero (g0 : Nat) (w : World) : Calls Try.prog 39 #[.slice (some ⟨g0, 0, none⟩) 1 1, .int .i64 0] w fun e w' => e = .returned (.slice (some ⟨w.heap.size, 0, none⟩) 0 0) ∧ GI w' w.heap.size [] ∧ Below w.heap.size w w' := by
  have MU : Hid (Calls Try.prog 50 #[.int .u64 1, .int .u64 0] w fun e w' => e = .returned (.tuple #[.int .u64 0, .int .u64 0]) ∧ w = w') := Lib.hid (by
    have t := Try.bits_Mul 1 0 (by omega) (by omega) w
    exact t.mono fun e w' h => ⟨h.1, h.2.symm⟩)
  have hmk : ∀ w : World, (Instr.makeSlice 22 (.int .i64 0) (.int .i64 0)).run Try.prog w = .ok (.slice (some ⟨w.heap.size, 0, none⟩) 0 0) (w.alloc (.cells #[] 3)) := fun w => by
    have h := make_ints 0 (by omega) w
    have e : madeCells #[Value.int .i64 0] 0 = #[] := by
      apply Array.ext'; rw [toList_madeCells_one]; rfl
    rw [e] at h
    exact h
  have B0 : Hid (Below w.heap.size w (w.alloc (.cells #[] 3))) := Lib.hid ((Below.refl _ _).alloc (Nat.le_refl _) _)
  have G0 : Hid ((w.alloc (.cells #[] 3)).heap[w.heap.size]? = some (.cells ([] : List Value).toArray 3 (0, 0))) := Lib.hid (heap_alloc_new w _)
  have SI := Lib.hid Order.size_int
  have HN1 : Hid (([] : List Value).length = Nat.min 1 0) := Lib.hid rfl
  have HP1 : Hid (∀ (j : Nat) (v : Value), ([] : List Value)[j]? = some v → (w.alloc (.cells #[] 3)).cell? ((⟨g0, 0, none⟩ : Addr).add j) = some v) := Lib.hid (fun j v hj => by simp at hj)
  have HF1 : Hid (0 + ([] : List Value).length ≤ ([] : List Value).length) := Lib.hid (Nat.le_refl _)
  have HO1 : Hid (∀ v ∈ ([] : List Value), v.oneCell' = true) := Lib.hid (fun v hv => by cases hv)
  go_enter Try.func39, Try.ntmps39
  go_wp2_with (first
    | (go_at_call 50; refine MU.out.mono ?_; rintro e w' ⟨rfl, rfl⟩)
    | ((with_reducible show wpList _ _ _ _ _ _); refine wpList_copy_splice (o := ⟨some 33, _, _, _, _, _⟩) (by rfl) (.tmp 31) (.tmp 32) 22 22 (by rfl) 3 Try.underlying22 SI.out (some ⟨w.heap.size, 0, none⟩) (some ⟨g0, 0, none⟩) 0 0 1 1 (by rfl) (by rfl) w.heap.size 0 [] 3 G0.out [] HN1.out (fun _ => ⟨rfl, _, rfl, HP1.out⟩) HF1.out HO1.out w.heap.size w B0.out (Nat.le_refl _) ?_; intro w1 hg1 hb1; have G1 : Hid (GI w1 w.heap.size []) := Lib.hid (by have h := hg1.out; unfold GI; simpa [splice] using h); have B1 := Lib.hid hb1; clear hg1 hb1))
  clear hmk
  go_loopw [8] (fun v wr => v = .int .i64 0 ∧ wr = w1) (fun _ _ => 0)
  case atStart => exact ⟨rfl, rfl⟩
  case round =>
    obtain ⟨rfl, h'⟩ := hrel
    obtain rfl := h'.symm
    go_wp2_with fail
    go_ret
    exact ⟨rfl, G1.out, B1.out⟩

theorem repeat_all (x : Int) (g0 n : Nat) (w : World) (hg : w.cell? ⟨g0, 0, none⟩ = some (.int .i64 x)) (hn : n ≤ 1000) (hlt : g0 < w.heap.size) :
    Calls Try.prog 39 #[.slice (some ⟨g0, 0, none⟩) 1 1, .int .i64 (n : Nat)] w fun e w' => e = .returned (.slice (some ⟨w.heap.size, 0, none⟩) n n) ∧ GI w' w.heap.size (List.replicate n x) ∧ Below w.heap.size w w' := by
  rcases Nat.eq_zero_or_pos n with h | h
  · subst h; exact repeat_zero g0 w
  · exact repeat_any x g0 n w hg h hn hlt

def times (w : Int) : Nat := (min (max w 0) 1000).toNat
theorem times_le (w : Int) : times w ≤ 1000 := by unfold times; omega
def repL : List Int → List Int → List Int
  | [], _ => []
  | _ :: _, [] => []
  | x :: r, w :: ws => List.replicate (times w) x ++ repL r ws
theorem repL_nil (r : List Int) : repL r [] = [] := by cases r <;> rfl
theorem repL_step : ∀ (r ws : List Int) (k : Nat), k < r.length → k < ws.length → repL (r.take (k + 1)) (ws.take (k + 1)) = repL (r.take k) (ws.take k) ++ List.replicate (times (ws.getD k 0)) (r.getD k 0)
  | x :: r, w :: ws, 0, _, _ => by simp [repL, repL_nil]
  | x :: r, w :: ws, k + 1, h1, h2 => by
    have := repL_step r ws k (by simpa using h1) (by simpa using h2)
    simp only [List.take_succ_cons, repL, this, List.append_assoc, List.getD_cons_succ]
theorem repL_take : ∀ (r ws : List Int) (k : Nat), min r.length ws.length ≤ k → repL (r.take k) (ws.take k) = repL r ws
  | [], ws, k, _ => by simp [repL]
  | x :: r, [], k, _ => by simp [repL_nil]
  | x :: r, w :: ws, 0, h => by simp at h
  | x :: r, w :: ws, k + 1, h => by
    simp only [List.take_succ_cons, repL]
    rw [repL_take r ws k (by simp at h; omega)]
theorem repL_len : ∀ (r ws : List Int), (repL r ws).length ≤ 1000 * r.length
  | [], ws => by simp [repL]
  | x :: r, [] => by simp [repL]
  | x :: r, w :: ws => by
    have := repL_len r ws
    have := times_le w
    simp [repL]
    omega

theorem gi_news {w : World} {g : Nat} {l : List Int} (h : GI w g l) : ∀ j v, (rowV l)[j]? = some v → w.cell? ((⟨g, 0, none⟩ : Addr).add j) = some v := by
  intro j v hv
  rw [add_at, Nat.zero_add]
  exact blk_cell h (by simpa using hv)
/-- the state ahead of a round. -/
structure RS1 (B : Nat) (r ws : List Int) (k L : Nat) (V : Value) (w wr : World) : Prop where
  bel : Below B w wr
  own : wr.ownsRow B 3 1 V L (rowV (repL (r.take k) (ws.take k)))
  few : L ≤ 1000 * k

set_option maxHeartbeats 4000000 in
set_option maxRecDepth 100000 in
theorem Repeat_any (A B : Option Addr) (r ws : List Int) (n c m d : Nat) (w : World) (hr : IRow w w.heap.size A r) (hn : n = r.length) (hc : n ≤ c) (hs : IRow w w.heap.size B ws) (hm : m = ws.length) (hn1 : n ≤ 100) (hm1 : m ≤ 100) :
    Calls Try.prog 17 #[.slice A n c, .slice B m d] w fun e w' => ∃ v, e = .returned v ∧ w'.ownsRow w.heap.size 3 1 v (repL r ws).length (rowV (repL r ws)) ∧ Below w.heap.size w w' := by
  obtain ⟨q, hq⟩ : ∃ q, q = min n m := ⟨_, rfl⟩
  have hmin : min (n : Int) (m : Int) = (q : Int) := by omega
  have q0 : (0 : Int) ≤ (q : Int) := by omega
  have q1 : (q : Int) ≤ (c : Int) := by omega
  have q2 : (q : Int) ≤ 100 := by omega
  have QN : Hid (q ≤ n ∧ q ≤ m) := Lib.hid (by omega)
  have QE : Hid (min r.length ws.length ≤ q) := Lib.hid (by omega)
  have HN := Lib.hid hn
  have HM := Lib.hid hm
  have HR := Lib.hid hr
  have HS := Lib.hid hs
  have m2 : (m : Int) ≤ 100 := by omega
  obtain ⟨i0, hi0, hz0, hz1, hz2⟩ := int_info
  have HI := Lib.hid (And.intro hi0 (And.intro hz0 (And.intro hz1 hz2)))
  have R0 : Hid (RS1 w.heap.size r ws 0 0 (.slice none 0 0) w w) := Lib.hid ⟨Below.refl _ _, by simp [repL]; exact World.ownsRow_nil _ _ _ _, Nat.le_refl _⟩
  clear hn hm hr hs hn1 hm1 hq hc hi0 hz0 hz1 hz2
  go_enter Try.func17, Try.ntmps17
  go_wp2_with fail
  go_loopw [5, 6, 7, 8, 17] (fun o _ _ _ v wr => ∃ (k L : Nat) (A' : Option Addr) (c' : Nat), v = .int .i64 k ∧ k ≤ q ∧ o = .slice A' L c' ∧ RS1 w.heap.size r ws k L (.slice A' L c') w wr) (fun _ _ _ _ v _ => q - (intOf v).toNat)
  case atStart => exact ⟨0, 0, none, 0, rfl, Nat.zero_le _, rfl, R0.out⟩
  case round =>
    obtain ⟨k, L, A', c', rfl, hk, rfl, hrs⟩ := hrel
    have RK := Lib.hid hrs
    clear hrs R0
    by_cases hlt : k < q
    · have hlt' : (k : Int) < (q : Int) := by omega
      have K1 : Hid (k < r.length ∧ k < ws.length) := Lib.hid (by have := QN.out; have := HN.out; have := HM.out; omega)
      have hkm : (k : Int) < (m : Int) := by have := K1.out; have := HM.out; omega
      have hkm2 : k < m := by omega
      rcases HR.out with h' | ⟨b1, o1, rfl, hb1, hc1⟩
      · exfalso; have := K1.out; rw [h'] at this; simp at this
      rcases HS.out with h' | ⟨b2, o2, rfl, hb2, hc2⟩
      · exfalso; have := K1.out; rw [h'] at this; simp at this
      have f1 := (RK.out.bel.cell (p := ⟨b1, o1 + k, none⟩) hb1).trans (hc1 k K1.out.1)
      have f2 := (RK.out.bel.cell (p := ⟨b2, o2 + k, none⟩) hb2).trans (hc2 k K1.out.2)
      have ST := Lib.hid (repL_step r ws k K1.out.1 K1.out.2)
      obtain ⟨x, hx⟩ : ∃ x, x = r.getD k 0 := ⟨_, rfl⟩
      obtain ⟨u, hu⟩ : ∃ x, x = ws.getD k 0 := ⟨_, rfl⟩
      rw [← hx] at f1 ST
      rw [← hu] at f2 ST
      have LF : Hid (L ≤ 99000) := Lib.hid (by have := RK.out.few; omega)
      have l1 : (L : Int) ≤ 99000 := by have := LF.out; omega
      clear hx hu hc1 hc2
      by_cases hmx : max u 0 ≤ 1000
      · obtain ⟨t, ht⟩ : ∃ t, t = times u := ⟨_, rfl⟩
        have T1 : Hid (t ≤ 1000) := Lib.hid (by rw [ht]; exact times_le u)
        have emx : max u 0 = (t : Int) := by rw [ht]; unfold times; omega
        have t1 : (t : Int) ≤ 1000 := by have := T1.out; omega
        have t0 : (0 : Int) ≤ (t : Int) := by omega
        have t3 : (t : Int) ≤ 100000 - (L : Int) := by omega
        rw [← ht] at ST
        clear ht hmx
        have RP : Hid (Calls Try.prog 39 #[.slice (some ⟨wr.heap.size, 0, none⟩) 1 1, .int .i64 (t : Nat)] (wr.alloc (.cells #[.int .i64 x] 3)) fun e w' => e = .returned (.slice (some ⟨wr.heap.size + 1, 0, none⟩) t t) ∧ GI w' (wr.heap.size + 1) (List.replicate t x) ∧ Below (wr.alloc (.cells #[.int .i64 x] 3)).heap.size (wr.alloc (.cells #[.int .i64 x] 3)) w') := Lib.hid (by
          have h := repeat_all x wr.heap.size t (wr.alloc (.cells #[.int .i64 x] 3)) (blk_cell (j := 0) (heap_alloc_new wr _) rfl) (T1.out) (by simp)
          simpa using h)
        have BX := Lib.hid (below_alloc RK.out.bel RK.out.bel.size (.cells #[.int .i64 x] 3))
        have OX := Lib.hid (RK.out.own.alloc (.cells #[.int .i64 x] 3))
        obtain ⟨hi0, hz0, hz1, hz2⟩ := HI.out
        go_wp2_with (first | (go_at_call 39; refine RP.out.mono ?_; rintro e w1 ⟨rfl, hg1, hb1⟩; have G1 := Lib.hid hg1; have O1 := Lib.hid (keep_of OX.out hb1); have B1 := Lib.hid (BX.out.trans (hb1.mono BX.out.size)); have NEWS : Hid (∀ j v, (rowV (List.replicate t x))[j]? = some v → w1.cell? ((⟨wr.heap.size + 1, 0, none⟩ : Addr).add j) = some v) := Lib.hid (by as_aux_lemma => exact gi_news hg1); have LX : Hid ((rowV (List.replicate t x)).length = t * 1) := Lib.hid (by simp); have ONE := Lib.hid (rowV_one (List.replicate t x)); have H63 : Hid (L + t ≤ maxLen) := Lib.hid (by have := LF.out; have := T1.out; unfold maxLen; omega); have HBY : Hid ((L + t) * 8 ≤ 140737488355328) := Lib.hid (by have := LF.out; have := T1.out; omega); have S1 : Hid (w.heap.size ≤ w1.heap.size) := Lib.hid B1.out.size; clear hg1 hb1) | (at_builtin; refine wpList_append_own _ (by rfl) (.tmp 31) (.tmp 35) 22 (by rfl) w.heap.size 3 i0 _ 1 8 Try.underlying22 hi0 hz0 hz1 hz2 (by rfl) (by decide) (.slice A' L c') L (rowV (repL (r.take k) (ws.take k))) (by rfl) O1.out ⟨wr.heap.size + 1, 0, none⟩ t t (rowV (List.replicate t x)) (by rfl) LX.out NEWS.out ONE.out H63.out HBY.out S1.out ?_; intro v2 w2 hown hgrow _; have O2 : Hid (w2.ownsRow w.heap.size 3 1 v2 (L + t) (rowV (repL (r.take (k + 1)) (ws.take (k + 1))))) := Lib.hid (by rw [ST.out]; simpa using hown); have B2 := Lib.hid (B1.out.grown hgrow S1.out (fun k hk => (O1.out.lt k hk).1)); clear hown hgrow; obtain ⟨A2, c2, rfl, -⟩ := own_irow O2.out))
        have RN : Hid (RS1 w.heap.size r ws (k + 1) (L + t) (.slice A2 (L + t) c2) w w2) := Lib.hid ⟨B2.out, O2.out, by have := RK.out.few; have := T1.out; omega⟩
        go_roundw
        case rel => exact ⟨k + 1, L + t, A2, c2, by go_num, by omega, rfl, RN.out⟩
        case measure => simp [intOf]; omega
      · have ht : times u = 1000 := by unfold times; omega
        have hm2 : 1000 < max u 0 := by omega
        rw [ht] at ST
        clear ht
        have RP : Hid (Calls Try.prog 39 #[.slice (some ⟨wr.heap.size, 0, none⟩) 1 1, .int .i64 1000] (wr.alloc (.cells #[.int .i64 x] 3)) fun e w' => e = .returned (.slice (some ⟨wr.heap.size + 1, 0, none⟩) 1000 1000) ∧ GI w' (wr.heap.size + 1) (List.replicate 1000 x) ∧ Below (wr.alloc (.cells #[.int .i64 x] 3)).heap.size (wr.alloc (.cells #[.int .i64 x] 3)) w') := Lib.hid (by
          have h := repeat_all x wr.heap.size 1000 (wr.alloc (.cells #[.int .i64 x] 3)) (blk_cell (j := 0) (heap_alloc_new wr _) rfl) (by omega) (by simp)
          simpa using h)
        have BX := Lib.hid (below_alloc RK.out.bel RK.out.bel.size (.cells #[.int .i64 x] 3))
        have OX := Lib.hid (RK.out.own.alloc (.cells #[.int .i64 x] 3))
        obtain ⟨hi0, hz0, hz1, hz2⟩ := HI.out
        go_wp2_with (first | (go_at_call 39; refine RP.out.mono ?_; rintro e w1 ⟨rfl, hg1, hb1⟩; have G1 := Lib.hid hg1; have O1 := Lib.hid (keep_of OX.out hb1); have B1 := Lib.hid (BX.out.trans (hb1.mono BX.out.size)); have NEWS : Hid (∀ j v, (rowV (List.replicate 1000 x))[j]? = some v → w1.cell? ((⟨wr.heap.size + 1, 0, none⟩ : Addr).add j) = some v) := Lib.hid (by as_aux_lemma => exact gi_news hg1); have LX : Hid ((rowV (List.replicate 1000 x)).length = 1000 * 1) := Lib.hid (by simp); have ONE := Lib.hid (rowV_one (List.replicate 1000 x)); have H63 : Hid (L + 1000 ≤ maxLen) := Lib.hid (by have := LF.out; skip; unfold maxLen; omega); have HBY : Hid ((L + 1000) * 8 ≤ 140737488355328) := Lib.hid (by have := LF.out; skip; omega); have S1 : Hid (w.heap.size ≤ w1.heap.size) := Lib.hid B1.out.size; clear hg1 hb1) | (at_builtin; refine wpList_append_own _ (by rfl) (.tmp 31) (.tmp 35) 22 (by rfl) w.heap.size 3 i0 _ 1 8 Try.underlying22 hi0 hz0 hz1 hz2 (by rfl) (by decide) (.slice A' L c') L (rowV (repL (r.take k) (ws.take k))) (by rfl) O1.out ⟨wr.heap.size + 1, 0, none⟩ 1000 1000 (rowV (List.replicate 1000 x)) (by rfl) LX.out NEWS.out ONE.out H63.out HBY.out S1.out ?_; intro v2 w2 hown hgrow _; have O2 : Hid (w2.ownsRow w.heap.size 3 1 v2 (L + 1000) (rowV (repL (r.take (k + 1)) (ws.take (k + 1))))) := Lib.hid (by rw [ST.out]; simpa using hown); have B2 := Lib.hid (B1.out.grown hgrow S1.out (fun k hk => (O1.out.lt k hk).1)); clear hown hgrow; obtain ⟨A2, c2, rfl, -⟩ := own_irow O2.out))
        have RN : Hid (RS1 w.heap.size r ws (k + 1) (L + 1000) (.slice A2 (L + 1000) c2) w w2) := Lib.hid ⟨B2.out, O2.out, by have := RK.out.few; skip; omega⟩
        go_roundw
        case rel => exact ⟨k + 1, L + 1000, A2, c2, by go_num, by omega, rfl, RN.out⟩
        case measure => simp [intOf]; omega
    · obtain rfl : k = q := by omega
      have E := Lib.hid (repL_take r ws k QE.out)
      have O : Hid (wr.ownsRow w.heap.size 3 1 (.slice A' L c') (repL r ws).length (rowV (repL r ws))) := Lib.hid (by
        have h := RK.out.own
        rw [E.out] at h
        have hl : L = (repL r ws).length := by have := h.1; simpa using this.symm
        rw [← hl]; exact h)
      clear E
      go_wp2_with fail
      go_ret
      exact ⟨_, rfl, O.out, RK.out.bel⟩

end Go.Proofs.Ytcjcnhnpjcgcmaa.Tot
