/- Stable sorting: the last one put into a row. -/
import Derived.Test.YtdilmiaaahpfcaaStabB
namespace Go.Proofs.Ytdilmiaaahpfcaa.Stab
set_option linter.unusedVariables false
set_option linter.unusedSimpArgs false
open Go.RowKit
open Go.Proofs.Ytdilmiaaahpfcaa.Ver (cmpV ord_v Ord Bs)

/-- what stood at m moved down to k. -/
def movB (f : Fn') (m k : Nat) : Fn' := fun t => if t = k then f m else if k < t ∧ t ≤ m then f (t - 1) else f t
theorem movB_start (f : Fn') (m : Nat) : movB f m m = f := by
  funext t
  unfold movB
  by_cases h : t = m
  · rw [if_pos h, h]
  · rw [if_neg h, if_neg (by omega)]
theorem movB_step (f : Fn') {m q : Nat} (h : q + 1 ≤ m) : swp (movB f m (q + 1)) (q + 1) q = movB f m q := by
  funext t
  unfold swp movB
  by_cases e1 : t = q + 1
  · subst e1
    rw [if_pos rfl, if_neg (by omega), if_neg (by omega), if_neg (by omega), if_pos (by omega)]; rfl
  · rw [if_neg e1]
    by_cases e2 : t = q
    · subst e2
      rw [if_pos rfl, if_pos rfl, if_pos rfl]
    · rw [if_neg e2, if_neg e1, if_neg e2]
      by_cases h1 : q + 1 < t ∧ t ≤ m
      · rw [if_pos h1, if_pos (by omega)]
      · rw [if_neg h1, if_neg (by omega)]
theorem movB_merged {f : Fn'} {a i m : Nat} (h1 : a ≤ i) (h2 : i ≤ m) (hs : Srt ltN (seg f a m)) (hp : ∀ t, a ≤ t → t < i → ltN (f m) (f t) = false) (hq : ∀ t, i ≤ t → t < m → ltN (f m) (f t) = true) :
    MergedIn ltN a (m + 1) f (movB f m i) := by
  refine ⟨fun t ht => ?_, ?_⟩
  · unfold movB
    rw [if_neg (by omega), if_neg (by omega)]
  · have e0 : seg f a (m + 1) = (seg f a i ++ seg f i m) ++ [f m] := by
      rw [seg_app f (by omega : a ≤ m) (by omega : m ≤ m + 1), seg_one, seg_app f h1 h2]
    have e1 : seg (movB f m i) a (m + 1) = seg f a i ++ f m :: seg f i m := by
      rw [seg_app _ h1 (by omega : i ≤ m + 1), seg_app _ (by omega : i ≤ i + 1) (by omega : i + 1 ≤ m + 1), seg_one]
      have k1 : seg (movB f m i) a i = seg f a i := seg_congr fun t t1 t2 => by
        unfold movB
        rw [if_neg (by omega), if_neg (by omega)]
      have k2 : movB f m i i = f m := by unfold movB; rw [if_pos rfl]
      have k3 : seg (movB f m i) (i + 1) (m + 1) = seg f i m := seg_shift (by omega) fun t ht => by
        unfold movB
        rw [if_neg (by omega), if_pos (by omega)]; congr 1; omega
      rw [k1, k2, k3]; rfl
    rw [e0, e1]
    refine put_last woN (by rw [← seg_app f h1 h2]; exact hs) (fun y hy => ?_) (fun y hy => ?_)
    · obtain ⟨t, t1, t2, rfl⟩ := seg_mem.1 hy; exact hp t t1 t2
    · obtain ⟨t, t1, t2, rfl⟩ := seg_mem.1 hy; exact hq t t1 t2

set_option maxHeartbeats 4000000 in
set_option maxRecDepth 100000 in
theorem sym_right (hC : CMP) {B g n cap a m : Nat} {f : Fn'} {w W : World} (h : St B g n f w W) (hg : B ≤ g) (hw : B ≤ w.heap.size) (ham : a + 1 < m) (hb : m + 1 ≤ n) (hn : n ≤ 1000) (hz : SZ f) (hs : Srt ltN (seg f a m)) :
    Calls Try.prog 41 #[.slice (some ⟨g, 0, none⟩) n cap, .int .i64 (a : Nat), .int .i64 (m : Nat), .int .i64 ((m + 1 : Nat)), cv] W fun e w' => e = .returned (.tuple #[]) ∧ ∃ f', St B g n f' w w' ∧ MergedIn ltN a (m + 1) f f' := by
  obtain ⟨b, hbm⟩ : ∃ b, b = m + 1 := ⟨_, rfl⟩
  rw [← hbm]
  have em : (b : Int) - (m : Int) = 1 := by omega
  obtain ⟨dd, hdd⟩ : ∃ d, d = m - a := ⟨_, rfl⟩
  have em2 : (m : Int) - (a : Int) = (dd : Int) := by omega
  have db : ((dd : Int) == 1) = false := by
    have : ¬ (dd : Int) = 1 := by omega
    simpa using this
  have z1 : (b : Int) ≤ 1000 := by omega
  have z2 : (m : Int) ≤ 1000 := by omega
  have z3 : (n : Int) ≤ 1000 := by omega
  have mn : m < n := by omega
  have mn' : (m : Int) < (n : Int) := by omega
  have HD : Hid (b = m + 1 ∧ a + 1 < m ∧ b ≤ n) := Lib.hid (by omega)
  have S0 := Lib.hid h
  have HG := Lib.hid hg
  have HZ := Lib.hid hz
  have HS := Lib.hid hs
  have HC := Lib.hid hC
  have HW := Lib.hid hw
  have MR : Hid (∀ i, a ≤ i → i ≤ m → (∀ t, a ≤ t → t < i → ltN (f m) (f t) = false) → (∀ t, i ≤ t → t < m → ltN (f m) (f t) = true) → MergedIn ltN a b f (movB f m i)) := Lib.hid (fun i h1 h2 h3 h4 => by rw [hbm]; exact movB_merged h1 h2 hs h3 h4)
  clear h hg ham hb hn hz hs hC hbm hw hdd
  go_enter Try.func41, Try.ntmps41
  go_wp2_with fail
  go_loopw [14, 15, 16] (fun v u _ wr => ∃ (i j : Nat), v = .int .i64 i ∧ u = .int .i64 j ∧ a ≤ i ∧ i ≤ j ∧ j ≤ m ∧ St B g n f w wr ∧ (∀ t, a ≤ t → t < i → ltN (f m) (f t) = false) ∧ (∀ t, j ≤ t → t < m → ltN (f m) (f t) = true)) (fun v u _ _ => (intOf u).toNat - (intOf v).toNat)
  case atStart => exact ⟨a, m, rfl, rfl, Nat.le_refl _, by have := HD.out; omega, Nat.le_refl _, S0.out, fun t h1 h2 => by omega, fun t h1 h2 => by omega⟩
  case round =>
    obtain ⟨i, j, rfl, rfl, h1, h2, h3, hst, hlo, hhi⟩ := hrel
    have SI := Lib.hid hst
    have LO := Lib.hid hlo
    have HI := Lib.hid hhi
    have BD : Hid (a ≤ i ∧ i ≤ j ∧ j ≤ m) := Lib.hid ⟨h1, h2, h3⟩
    have j1 : (j : Int) ≤ 1000 := by omega
    have i1 : (i : Int) ≤ 1000 := by omega
    clear hst hlo hhi h1 h2 h3 S0
    by_cases hlt : i < j
    · have hlt' : (i : Int) < (j : Int) := by omega
      obtain ⟨h, hh⟩ : ∃ h, h = (i + j) / 2 := ⟨_, rfl⟩
      have eh : ((i : Int) + (j : Int)) / 2 = (h : Int) := by omega
      have HH : Hid (i ≤ h ∧ h < j) := Lib.hid (by omega)
      have hn' : h < n := by have := BD.out; have := HD.out; omega
      have hn2 : (h : Int) < (n : Int) := by omega
      have h1' : (h : Int) ≤ 1000 := by omega
      obtain ⟨z, hz⟩ : ∃ z, z = cfN (f m) (f h) := ⟨_, rfl⟩
      have CC : Hid (∀ W, Calls Try.prog 25 #[.string (f m), .string (f h)] W fun e w' => e = .returned (.int .i64 z) ∧ Below W.heap.size W w') := Lib.hid (fun W => by rw [hz]; exact HC.out _ _ W (HZ.out m) (HZ.out h))
      clear hh
      cases hq : ltN (f m) (f h) with
      | false =>
        have znn : 0 ≤ z := by
          have := cfN_lt (f m) (f h)
          rw [← hz, hq] at this
          simp at this; omega
        have zb : (!decide (z < 0)) = true := by simp; omega
        have LN : Hid (∀ t, a ≤ t → t < h + 1 → ltN (f m) (f t) = false) := Lib.hid (fun t h1 h2 => by
          rcases Nat.lt_or_ge t h with h3 | h3
          · have := srt_seg.1 HS.out t h h1 h3 (by have := BD.out; have := HH.out; omega)
            exact woN.ntrans _ _ _ hq this
          · rw [show t = h by omega]; exact hq)
        clear hz hq
        go_wp2_with fail
        have R := Lib.hid SI.out.drew1
        have c0 := R.out.row.cell mn
        have c1 := R.out.row.cell hn'
        go_region_held3 (fun W' => W'.cell? ⟨g, m, none⟩ = some (.string (f (m))) ∧ W'.cell? ⟨g, h, none⟩ = some (.string (f (h))))
          (first | exact ⟨c0, c1⟩ | go_keep)
          (first | (go_at_call 25; (with_reducible refine (CC.out _).mono ?_); rintro e w1 ⟨rfl, hb⟩; have R := Lib.hid (R.out.below HW.out hb); clear hb; clear c0 c1; have c0 := R.out.row.cell mn; have c1 := R.out.row.cell hn'))
        go_wp2_with fail
        go_roundw
        case rel => exact ⟨h + 1, j, by go_num, rfl, by have := BD.out; have := HH.out; omega, by have := HH.out; omega, by have := BD.out; omega, R.out, LN.out, HI.out⟩
        case measure => have := HH.out; simp [intOf]; omega
      | true =>
        have zneg : z < 0 := by rw [hz]; exact (cfN_lt _ _).2 hq
        have HN2 : Hid (∀ t, h ≤ t → t < m → ltN (f m) (f t) = true) := Lib.hid (fun t h1 h2 => by
          rcases Nat.lt_or_ge h t with h3 | h3
          · have := srt_seg.1 HS.out h t (by have := BD.out; have := HH.out; omega) h3 h2
            exact woN.lt_le hq this
          · rw [show t = h by omega]; exact hq)
        clear hz hq
        go_wp2_with fail
        have R := Lib.hid SI.out.drew1
        have c0 := R.out.row.cell mn
        have c1 := R.out.row.cell hn'
        go_region_held3 (fun W' => W'.cell? ⟨g, m, none⟩ = some (.string (f (m))) ∧ W'.cell? ⟨g, h, none⟩ = some (.string (f (h))))
          (first | exact ⟨c0, c1⟩ | go_keep)
          (first | (go_at_call 25; (with_reducible refine (CC.out _).mono ?_); rintro e w1 ⟨rfl, hb⟩; have R := Lib.hid (R.out.below HW.out hb); clear hb; clear c0 c1; have c0 := R.out.row.cell mn; have c1 := R.out.row.cell hn'))
        go_wp2_with fail
        go_roundw
        case rel => exact ⟨i, h, rfl, by go_num, by have := BD.out; omega, by have := HH.out; omega, by have := BD.out; have := HH.out; omega, R.out, LO.out, HN2.out⟩
        case measure => have := HH.out; simp [intOf]; omega
    · have e : i = j := by have := BD.out; omega
      subst e
      have MG := Lib.hid (MR.out i (by have := BD.out; omega) (by have := BD.out; omega) LO.out HI.out)
      have S1 : Hid (St B g n (movB f m m) w wr) := Lib.hid (by rw [movB_start]; exact SI.out)
      go_wp2_with fail
      go_loopw [17] (fun v wq => ∃ k : Nat, v = .int .i64 k ∧ i ≤ k ∧ k ≤ m ∧ St B g n (movB f m k) w wq) (fun v _ => (intOf v).toNat)
      case atStart => exact ⟨m, rfl, by have := BD.out; omega, Nat.le_refl _, S1.out⟩
      case round =>
        obtain ⟨k, rfl, hka, hkk, hst⟩ := hrel
        have SK := Lib.hid hst
        have KA := Lib.hid hka
        have KB := Lib.hid hkk
        have km : (k : Int) ≤ 1000 := by omega
        clear hst S1 hka
        by_cases hkl : i < k
        · have hkl' : (i : Int) < (k : Int) := by omega
          obtain ⟨q, hq⟩ : ∃ q, k = q + 1 := ⟨k - 1, by omega⟩
          have eq' : (k : Int) - 1 = (q : Int) := by omega
          have pn : k < n := by omega
          have qn : q < n := by omega
          have pn' : (k : Int) < (n : Int) := by omega
          have qn' : (q : Int) < (n : Int) := by omega
          have ne1 : ¬ k = q := by omega
          have ne2 : ¬ q = k := by omega
          have cp := SK.out.row.cell pn
          have cq := SK.out.row.cell qn
          have fp := SK.out.row.free k
          have fq := SK.out.row.free q
          have NX : Hid (swp (movB f m k) k q = movB f m q) := Lib.hid (by rw [hq]; exact movB_step f (by omega))
          have R : Hid (St B g n (movB f m q) w ((wr.setCell ⟨g, k, none⟩ (.string (movB f m k q))).setCell ⟨g, q, none⟩ (.string (movB f m k k))).drew) := Lib.hid (by rw [← NX.out]; exact (SK.out.set2 HG.out (SK.out.row.swap1 pn qn ne1)).drew1)
          obtain ⟨x, hx⟩ : ∃ x, x = movB f m k k := ⟨_, rfl⟩
          obtain ⟨y, hy⟩ : ∃ x, x = movB f m k q := ⟨_, rfl⟩
          rw [← hx] at cp R
          rw [← hy] at cq R
          have HQ := Lib.hid hq
          clear hx hy hq
          go_wp2_with fail
          go_region
          go_wp2_with fail
          go_roundw
          case rel => exact ⟨q, by first | rfl | go_num, by have := HQ.out; omega, by have := HQ.out; have := KB.out; omega, R.out⟩
          case measure => have := HQ.out; simp [intOf]; omega
        · have e : k = i := by have := KA.out; omega
          subst e
          go_wp2_with fail
          first | go_end0 | (refine bodyPost_ret (results_none rfl _ _ _) rfl ?_)
          exact ⟨rfl, _, SK.out, MG.out⟩

end Go.Proofs.Ytdilmiaaahpfcaa.Stab
