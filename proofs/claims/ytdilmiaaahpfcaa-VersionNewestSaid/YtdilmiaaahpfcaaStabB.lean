/- Stable sorting: one put into a row. -/
import Derived.Test.YtdilmiaaahpfcaaStabA
namespace Go.Proofs.Ytdilmiaaahpfcaa.Stab
set_option linter.unusedVariables false
set_option linter.unusedSimpArgs false
open Go.RowKit
open Go.Proofs.Ytdilmiaaahpfcaa.Ver (cmpV ord_v Ord Bs)

def cfN (x y : ByteArray) : Int := cmpV y.data.toList x.data.toList
theorem cfN_lt (x y : ByteArray) : (cfN x y < 0) ↔ ltN x y = true := by rw [ltN_iff]; rfl
/-- what is asked of the comparison. -/
def CMP : Prop := ∀ (x y : ByteArray) (W : World), x.size ≤ maxLen → y.size ≤ maxLen → Calls Try.prog 25 #[.string x, .string y] W fun e w' => e = .returned (.int .i64 (cfN x y)) ∧ Below W.heap.size W w'

/-- what stood at a moved to k. -/
def movF (f : Fn') (a k : Nat) : Fn' := fun t => if a ≤ t ∧ t < k then f (t + 1) else if t = k then f a else f t
theorem movF_start (f : Fn') (a : Nat) : movF f a a = f := by
  funext t
  unfold movF
  rw [if_neg (by omega)]
  split
  · rename_i h; rw [h]
  · rfl
theorem movF_step (f : Fn') {a k : Nat} (h : a ≤ k) : swp (movF f a k) k (k + 1) = movF f a (k + 1) := by
  funext t
  unfold swp movF
  by_cases e1 : t = k
  · subst e1
    rw [if_pos rfl, if_neg (by omega), if_neg (by omega), if_pos (by omega)]
  · rw [if_neg e1]
    by_cases e2 : t = k + 1
    · subst e2
      rw [if_pos rfl, if_neg (by omega), if_pos rfl, if_neg (by omega), if_pos rfl]
    · rw [if_neg e2]
      by_cases h1 : a ≤ t ∧ t < k
      · rw [if_pos h1, if_pos (by omega)]
      · rw [if_neg h1, if_neg e1, if_neg (by omega), if_neg e2]
theorem movF_merged {f : Fn'} {a i b : Nat} (h1 : a + 1 ≤ i) (h2 : i ≤ b) (hs : Srt ltN (seg f (a + 1) b)) (hp : ∀ t, a + 1 ≤ t → t < i → ltN (f t) (f a) = true) (hq : ∀ t, i ≤ t → t < b → ltN (f t) (f a) = false) :
    MergedIn ltN a b f (movF f a (i - 1)) := by
  refine ⟨fun t ht => ?_, ?_⟩
  · unfold movF
    rw [if_neg (by omega), if_neg (by omega)]
  · have e0 : seg f a b = f a :: (seg f (a + 1) i ++ seg f i b) := by
      rw [seg_app f (by omega : a ≤ a + 1) (by omega : a + 1 ≤ b), seg_one, seg_app f h1 h2]; rfl
    have e1 : seg (movF f a (i - 1)) a b = seg f (a + 1) i ++ f a :: seg f i b := by
      rw [seg_app _ (by omega : a ≤ i - 1) (by omega : i - 1 ≤ b), seg_app _ (by omega : i - 1 ≤ i - 1 + 1) (by omega : i - 1 + 1 ≤ b), seg_one]
      have k1 : seg (movF f a (i - 1)) a (i - 1) = seg f (a + 1) i := seg_shift (by omega) fun t ht => by
        unfold movF
        rw [if_pos (by omega)]; congr 1; omega
      have k2 : movF f a (i - 1) (i - 1) = f a := by unfold movF; rw [if_neg (by omega), if_pos rfl]
      have k3 : seg (movF f a (i - 1)) (i - 1 + 1) b = seg f i b := seg_shift (by omega) fun t ht => by
        unfold movF
        rw [if_neg (by omega), if_neg (by omega)]; congr 1; omega
      rw [k1, k2, k3]; rfl
    rw [e0, e1]
    refine put_first woN (by rw [← seg_app f h1 h2]; exact hs) (fun y hy => ?_) (fun y hy => ?_)
    · obtain ⟨t, t1, t2, rfl⟩ := seg_mem.1 hy; exact hp t t1 t2
    · obtain ⟨t, t1, t2, rfl⟩ := seg_mem.1 hy; exact hq t t1 t2
theorem SZ.mrg {f f' : Fn'} {a b : Nat} (h : SZ f) (hm : MergedIn ltN a b f f') : SZ f' := fun t => by
  by_cases ht : t < a ∨ b ≤ t
  · rw [hm.out t ht]; exact h t
  · have : f' t ∈ seg f' a b := seg_mem.2 ⟨t, by omega, by omega, rfl⟩
    rw [← hm.mrg.alike.mem woN] at this
    obtain ⟨u, _, _, e⟩ := seg_mem.1 this
    rw [← e]; exact h u

set_option maxHeartbeats 4000000 in
set_option maxRecDepth 100000 in
theorem sym_left (hC : CMP) {B g n cap a b : Nat} {f : Fn'} {w W : World} (h : St B g n f w W) (hg : B ≤ g) (hw : B ≤ w.heap.size) (hab : a + 1 < b) (hb : b ≤ n) (hn : n ≤ 1000) (hz : SZ f) (hs : Srt ltN (seg f (a + 1) b)) :
    Calls Try.prog 41 #[.slice (some ⟨g, 0, none⟩) n cap, .int .i64 (a : Nat), .int .i64 ((a + 1 : Nat)), .int .i64 (b : Nat), cv] W fun e w' => e = .returned (.tuple #[]) ∧ ∃ f', St B g n f' w w' ∧ MergedIn ltN a b f f' := by
  obtain ⟨m, hm⟩ : ∃ m, m = a + 1 := ⟨_, rfl⟩
  rw [← hm] at hs ⊢
  have em : (m : Int) - (a : Int) = 1 := by omega
  have z1 : (b : Int) ≤ 1000 := by omega
  have z2 : (m : Int) ≤ 1000 := by omega
  have z3 : (n : Int) ≤ 1000 := by omega
  have an : a < n := by omega
  have an' : (a : Int) < (n : Int) := by omega
  have HD : Hid (m = a + 1 ∧ m < b ∧ b ≤ n) := Lib.hid (by omega)
  have S0 := Lib.hid h
  have HG := Lib.hid hg
  have HZ := Lib.hid hz
  have HS := Lib.hid hs
  have HC := Lib.hid hC
  have HW := Lib.hid hw
  have MR : Hid (∀ i, m ≤ i → i ≤ b → (∀ t, m ≤ t → t < i → ltN (f t) (f a) = true) → (∀ t, i ≤ t → t < b → ltN (f t) (f a) = false) → MergedIn ltN a b f (movF f a (i - 1))) := Lib.hid (fun i h1 h2 h3 h4 => movF_merged (by omega) h2 (by rw [← hm]; exact hs) (fun t ht => h3 t (by omega)) h4)
  clear h hg hab hb hn hz hs hC hm hw
  go_enter Try.func41, Try.ntmps41
  go_wp2_with fail
  go_loopw [10, 11, 12] (fun v u _ wr => ∃ (i j : Nat), v = .int .i64 i ∧ u = .int .i64 j ∧ m ≤ i ∧ i ≤ j ∧ j ≤ b ∧ St B g n f w wr ∧ (∀ t, m ≤ t → t < i → ltN (f t) (f a) = true) ∧ (∀ t, j ≤ t → t < b → ltN (f t) (f a) = false)) (fun v u _ _ => (intOf u).toNat - (intOf v).toNat)
  case atStart => exact ⟨m, b, rfl, rfl, Nat.le_refl _, by have := HD.out; omega, Nat.le_refl _, S0.out, fun t h1 h2 => by omega, fun t h1 h2 => by omega⟩
  case round =>
    obtain ⟨i, j, rfl, rfl, h1, h2, h3, hst, hlo, hhi⟩ := hrel
    have SI := Lib.hid hst
    have LO := Lib.hid hlo
    have HI := Lib.hid hhi
    have BD : Hid (m ≤ i ∧ i ≤ j ∧ j ≤ b) := Lib.hid ⟨h1, h2, h3⟩
    have j1 : (j : Int) ≤ 1000 := by omega
    have i1 : (i : Int) ≤ 1000 := by omega
    clear hst hlo hhi h1 h2 h3 S0
    by_cases hlt : i < j
    · have hlt' : (i : Int) < (j : Int) := by omega
      obtain ⟨h, hh⟩ : ∃ h, h = (i + j) / 2 := ⟨_, rfl⟩
      have eh : ((i : Int) + (j : Int)) / 2 = (h : Int) := by omega
      have HH : Hid (i ≤ h ∧ h < j) := Lib.hid (by omega)
      have hn' : h < n := by have := BD.out; have := HD.out; omega
      have hn2 : (h : Int) < (n : Int) := by omega
      have h1' : (h : Int) ≤ 1000 := by omega
      obtain ⟨z, hz⟩ : ∃ z, z = cfN (f h) (f a) := ⟨_, rfl⟩
      have CC : Hid (∀ W, Calls Try.prog 25 #[.string (f h), .string (f a)] W fun e w' => e = .returned (.int .i64 z) ∧ Below W.heap.size W w') := Lib.hid (fun W => by rw [hz]; exact HC.out _ _ W (HZ.out h) (HZ.out a))
      clear hh
      cases hq : ltN (f h) (f a) with
      | true =>
        have zneg : z < 0 := by rw [hz]; exact (cfN_lt _ _).2 hq
        have LN : Hid (∀ t, m ≤ t → t < h + 1 → ltN (f t) (f a) = true) := Lib.hid (fun t h1 h2 => by
          rcases Nat.lt_or_ge t h with h3 | h3
          · have := srt_seg.1 HS.out t h (by have := HD.out; omega) h3 (by have := BD.out; have := HH.out; omega)
            exact woN.le_lt this hq
          · rw [show t = h by omega]; exact hq)
        clear hz hq
        go_wp2_with fail
        have R := Lib.hid SI.out.drew1
        have c0 := R.out.row.cell hn'
        have c1 := R.out.row.cell an
        go_region_held3 (fun W' => W'.cell? ⟨g, h, none⟩ = some (.string (f (h))) ∧ W'.cell? ⟨g, a, none⟩ = some (.string (f (a))))
          (first | exact ⟨c0, c1⟩ | go_keep)
          (first | (go_at_call 25; (with_reducible refine (CC.out _).mono ?_); rintro e w1 ⟨rfl, hb⟩; have R := Lib.hid (R.out.below HW.out hb); clear hb; clear c0 c1; have c0 := R.out.row.cell hn'; have c1 := R.out.row.cell an))
        go_wp2_with fail
        go_roundw
        case rel => exact ⟨h + 1, j, by go_num, rfl, by have := BD.out; have := HH.out; omega, by have := HH.out; omega, by have := BD.out; omega, R.out, LN.out, HI.out⟩
        case measure => have := HH.out; simp [intOf]; omega
      | false =>
        have znn : 0 ≤ z := by
          have := cfN_lt (f h) (f a)
          rw [← hz, hq] at this
          simp at this; omega
        have HN2 : Hid (∀ t, h ≤ t → t < b → ltN (f t) (f a) = false) := Lib.hid (fun t h1 h2 => by
          rcases Nat.lt_or_ge h t with h3 | h3
          · have := srt_seg.1 HS.out h t (by have := HD.out; have := BD.out; have := HH.out; omega) h3 h2
            exact woN.ntrans _ _ _ this hq
          · rw [show t = h by omega]; exact hq)
        clear hz hq
        go_wp2_with fail
        have R := Lib.hid SI.out.drew1
        have c0 := R.out.row.cell hn'
        have c1 := R.out.row.cell an
        go_region_held3 (fun W' => W'.cell? ⟨g, h, none⟩ = some (.string (f (h))) ∧ W'.cell? ⟨g, a, none⟩ = some (.string (f (a))))
          (first | exact ⟨c0, c1⟩ | go_keep)
          (first | (go_at_call 25; (with_reducible refine (CC.out _).mono ?_); rintro e w1 ⟨rfl, hb⟩; have R := Lib.hid (R.out.below HW.out hb); clear hb; clear c0 c1; have c0 := R.out.row.cell hn'; have c1 := R.out.row.cell an))
        go_wp2_with fail
        go_roundw
        case rel => exact ⟨i, h, rfl, by go_num, by have := BD.out; omega, by have := HH.out; omega, by have := BD.out; have := HH.out; omega, R.out, LO.out, HN2.out⟩
        case measure => have := HH.out; simp [intOf]; omega
    · have e : i = j := by have := BD.out; omega
      subst e
      have MG := Lib.hid (MR.out i (by have := BD.out; omega) (by have := BD.out; omega) LO.out HI.out)
      obtain ⟨k0, hk0⟩ : ∃ k, k = i - 1 := ⟨_, rfl⟩
      have ek : (i : Int) - 1 = (k0 : Int) := by have := BD.out; have := HD.out; omega
      have KB : Hid (a ≤ k0 ∧ k0 + 1 ≤ b) := Lib.hid (by have := BD.out; have := HD.out; omega)
      have kb : (k0 : Int) ≤ 1000 := by omega
      rw [← hk0] at MG
      have S1 : Hid (St B g n (movF f a a) w wr) := Lib.hid (by rw [movF_start]; exact SI.out)
      clear hk0
      go_wp2_with fail
      go_loopw [13] (fun v wq => ∃ k : Nat, v = .int .i64 k ∧ a ≤ k ∧ k ≤ k0 ∧ St B g n (movF f a k) w wq) (fun v _ => k0 - (intOf v).toNat)
      case atStart => exact ⟨a, rfl, Nat.le_refl _, KB.out.1, S1.out⟩
      case round =>
        obtain ⟨k, rfl, hka, hkk, hst⟩ := hrel
        have SK := Lib.hid hst
        have KA := Lib.hid hka
        clear hst S1 hka
        by_cases hkl : k < k0
        · have hkl' : (k : Int) < (k0 : Int) := by omega
          have pn : k < n := by have := KB.out; have := HD.out; omega
          have qn : k + 1 < n := by have := KB.out; have := HD.out; omega
          have pn' : (k : Int) < (n : Int) := by omega
          have qn' : (k : Int) + 1 < (n : Int) := by omega
          have cp := SK.out.row.cell pn
          have cq := SK.out.row.cell qn
          have fp := SK.out.row.free k
          have fq := SK.out.row.free (k + 1)
          have R : Hid (St B g n (movF f a (k + 1)) w ((wr.setCell ⟨g, k, none⟩ (.string (movF f a k (k + 1)))).setCell ⟨g, k + 1, none⟩ (.string (movF f a k k))).drew) := Lib.hid (by rw [← movF_step f KA.out]; exact (SK.out.set2 HG.out (SK.out.row.swap1 pn qn (by omega))).drew1)
          obtain ⟨x, hx⟩ : ∃ x, x = movF f a k k := ⟨_, rfl⟩
          obtain ⟨y, hy⟩ : ∃ x, x = movF f a k (k + 1) := ⟨_, rfl⟩
          rw [← hx] at cp R
          rw [← hy] at cq R
          clear hx hy
          go_wp2_with fail
          go_region
          go_wp2_with fail
          go_roundw
          case rel => exact ⟨k + 1, by go_num, by have := KA.out; omega, by omega, R.out⟩
          case measure => simp [intOf]; omega
        · have e : k = k0 := by omega
          subst e
          go_wp2_with fail
          first | go_end0 | (refine bodyPost_ret (results_none rfl _ _ _) rfl ?_)
          exact ⟨rfl, _, SK.out, MG.out⟩

end Go.Proofs.Ytdilmiaaahpfcaa.Stab
