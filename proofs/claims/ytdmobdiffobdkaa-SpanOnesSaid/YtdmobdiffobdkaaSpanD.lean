/- Spans: what a text reads as, in the program and in the document. -/
import Derived.Test.YtdmobdiffobdkaaSpanC
import Derived.Deep.RegionWith
namespace Go.Proofs.Ytdmobdiffobdkaa.Ver
set_option linter.unusedVariables false
set_option linter.unusedSimpArgs false
open Go.RowKit Go.Shelf

/-- the span of a text. -/
def readOk (t : Bs) : Option (Bs × Bs) := match cutAt 58 t with
  | [p] => if mayV p = true then some (p, p) else none
  | [p, q] => if spanB p q = true ∧ textS p q = t then some (p, q) else none
  | _ => none
abbrev bs (p : Bs) : ByteArray := ⟨p.toArray⟩
theorem textS_self {p : Bs} (h : p ≠ []) : textS p p = p := if_pos ⟨rfl, h⟩
theorem read_not (t : ByteArray) (ht : t.size ≤ 3000) (h : readOk t.data.toList = none) : Says 34 #[.string t] (rd ⟨#[]⟩ ⟨#[]⟩ false) := fun w => by
  rcases split_at t.data.toList 58 with hno | ⟨p, r, hpr, hno⟩
  · have hr : readOk t.data.toList = if mayV t.data.toList = true then some (t.data.toList, t.data.toList) else none := by unfold readOk; rw [cut_none 58 _ hno]
    rw [hr] at h
    have hm : mayV t.data.toList = false := by
      cases e : mayV t.data.toList with
      | false => rfl
      | true => rw [e] at h; simp at h
    cases hs : spanB t.data.toList t.data.toList with
    | false => exact read_miss_no t w ht hno hs
    | true =>
      refine read_miss_bad t w ht hno hs ?_
      rw [one_span, boundB, hm, Bool.or_false] at hs
      rw [Lib.toList_data, Lib.toList_data, textA_list, List.isEmpty_iff.1 hs]
      rfl
  · have hh : t.data.toList = (bs p).data.toList ++ 58 :: (bs r).data.toList := hpr
    cases hs : spanB p r with
    | false => exact read_hit_no t (bs p) (bs r) w ht hh hno hs
    | true =>
      refine read_hit_bad t (bs p) (bs r) w ht hh hno hs ?_
      have hr : readOk t.data.toList = if spanB p r = true ∧ textS p r = t.data.toList then some (p, r) else none := by
        unfold readOk
        rw [hpr, cut_at 58 _ _ hno, cut_none 58 _ (bound_no (span_parts hs).2.1)]
      rw [hr] at h
      have hne : ¬ textS p r = t.data.toList := fun e => by rw [if_pos ⟨hs, e⟩] at h; cases h
      rw [Lib.toList_data, Lib.toList_data, textA_list]
      simpa using hne
theorem read_yes (t : ByteArray) (ht : t.size ≤ 3000) {p q : Bs} (h : readOk t.data.toList = some (p, q)) : Says 34 #[.string t] (rd (bs p) (bs q) true) ∧ spanB p q = true ∧ textS p q = t.data.toList := by
  rcases split_at t.data.toList 58 with hno | ⟨a, r, hpr, hno⟩
  · have hr : readOk t.data.toList = if mayV t.data.toList = true then some (t.data.toList, t.data.toList) else none := by unfold readOk; rw [cut_none 58 _ hno]
    rw [hr] at h
    cases hm : mayV t.data.toList with
    | false => rw [hm] at h; simp at h
    | true =>
      rw [hm] at h
      simp only [if_true, Option.some.injEq, Prod.mk.injEq] at h
      obtain ⟨rfl, rfl⟩ := h
      have hs : spanB t.data.toList t.data.toList = true := by rw [one_span, boundB, hm, Bool.or_true]
      have hne : t.data.toList ≠ [] := fun e => by rw [e] at hm; simp [mayV] at hm
      have hx : (textA t t).toList == t.toList := by rw [Lib.toList_data, Lib.toList_data, textA_list, textS_self hne]; exact beq_self_eq_true _
      exact ⟨fun w => read_miss_ok t w ht hno hs hx, hs, textS_self hne⟩
  · have hh : t.data.toList = (bs a).data.toList ++ 58 :: (bs r).data.toList := hpr
    have hc : cutAt 58 t.data.toList = a :: cutAt 58 r := by rw [hpr, cut_at 58 _ _ hno]
    by_cases hr58 : (58 : UInt8) ∈ r
    · exfalso
      rcases split_at r 58 with h0 | ⟨r1, r2, e2, h1⟩
      · exact h0 hr58
      · obtain ⟨x, xs, ex⟩ := cutAt_ne 58 r2
        unfold readOk at h
        rw [hc, e2, cut_at 58 _ _ h1, ex] at h
        simp at h
    · have hr : readOk t.data.toList = if spanB a r = true ∧ textS a r = t.data.toList then some (a, r) else none := by
        unfold readOk
        rw [hc, cut_none 58 _ hr58]
      rw [hr] at h
      by_cases hb : spanB a r = true ∧ textS a r = t.data.toList
      · rw [if_pos hb] at h
        simp only [Option.some.injEq, Prod.mk.injEq] at h
        obtain ⟨rfl, rfl⟩ := h
        refine ⟨fun w => read_hit_ok t (bs a) (bs r) w ht hh hno hb.1 ?_, hb⟩
        rw [Lib.toList_data, Lib.toList_data, textA_list]
        simpa using hb.2
      · rw [if_neg hb] at h; cases h

/-! ### the document's -/
theorem info_span : (Try.prog.info? 37).map (fun i => (i.zero, i.size)) = some (some (.agg #[.string ⟨#[]⟩, .string ⟨#[]⟩]), 2) := by kernel_rfl
/-- the result's cell and the law's empty span. -/
structure RRead (w : World) (W : World) : Prop where
  r : W.heap[w.heap.size]? = some (.cells #[.string ⟨#[]⟩, .string ⟨#[]⟩] 37 (0, 0))
  below : Below w.heap.size w W
theorem RRead.step {w W W' : World} (h : RRead w W) (hb : Below W.heap.size W W') : RRead w W' := ⟨(hb.block _ (lt_of_block h.r)).trans h.r, bstep h.below hb⟩
theorem RRead.cells {w W : World} (h : RRead w W) : W.cell? ⟨w.heap.size, 0, none⟩ = some (.string ⟨#[]⟩) ∧ W.cell? ⟨w.heap.size, 1, none⟩ = some (.string ⟨#[]⟩) ∧ W.frozen? ⟨w.heap.size, 0, none⟩ = false ∧ W.frozen? ⟨w.heap.size, 1, none⟩ = false :=
  ⟨blk_cell (j := 0) h.r rfl, blk_cell (j := 1) h.r rfl, blk_free 0 h.r, blk_free 1 h.r⟩
theorem RRead.start (w : World) : RRead w (w.alloc (.cells #[.string ⟨#[]⟩, .string ⟨#[]⟩] 37)) := ⟨heap_alloc_new w _, (Below.refl _ w).alloc (Nat.le_refl _) _⟩

structure RRead2 (w : World) (k : Nat) (lo hi : ByteArray) (W : World) : Prop where
  r : RRead w W
  s : W.heap[k]? = some (.cells #[.string lo, .string hi] 37 (0, 0))
theorem RRead2.step {w W W' : World} {k : Nat} {lo hi : ByteArray} (h : RRead2 w k lo hi W) (hb : Below W.heap.size W W') : RRead2 w k lo hi W' := ⟨h.r.step hb, (hb.block _ (lt_of_block h.s)).trans h.s⟩
theorem RRead2.cells {w W : World} {k : Nat} {lo hi : ByteArray} (h : RRead2 w k lo hi W) : W.cell? ⟨w.heap.size, 0, none⟩ = some (.string ⟨#[]⟩) ∧ W.cell? ⟨w.heap.size, 1, none⟩ = some (.string ⟨#[]⟩) ∧
    W.cell? ⟨k, 0, none⟩ = some (.string lo) ∧ W.cell? ⟨k, 1, none⟩ = some (.string hi) ∧ W.frozen? ⟨w.heap.size, 0, none⟩ = false ∧ W.frozen? ⟨w.heap.size, 1, none⟩ = false :=
  ⟨h.r.cells.1, h.r.cells.2.1, blk_cell (j := 0) h.s rfl, blk_cell (j := 1) h.s rfl, h.r.cells.2.2.1, h.r.cells.2.2.2⟩
theorem RRead2.drew {w W : World} {k : Nat} {lo hi : ByteArray} (h : RRead2 w k lo hi W) : RRead2 w k lo hi W.drew := ⟨⟨h.r.r, h.r.below.drew⟩, h.s⟩

set_option maxHeartbeats 2000000 in
theorem rread_two (t p q : ByteArray) (w : World) (ht : t.size ≤ 3000) (hc : cutAt 58 t.data.toList = [p.data.toList, q.data.toList]) (hs : spanB p.data.toList q.data.toList = true) :
    Calls Try.prog 36 #[.string t] w fun e w' => e = .returned (rd p q ((textA p q).toList == t.toList)) ∧ Below w.heap.size w w' := by
  have C := Lib.hid (fun w => cut_any t 58 w (by omega))
  rw [hc] at C
  have hp : p.size ≤ 3000 ∧ q.size ≤ 3000 := by
    have h1 := part_le 58 t.data.toList p.data.toList (by rw [hc]; simp)
    have h2 := part_le 58 t.data.toList q.data.toList (by rw [hc]; simp)
    rw [len_list, len_list] at h1 h2; omega
  have S := Lib.hid (fun w => by have := rspanMay_any p q (by unfold maxLen; omega) (by unfold maxLen; omega) w; rwa [hs] at this)
  have X := Lib.hid (rtext_any p q (by omega) (by omega))
  clear hc hs hp
  go_enter Try.func36, Try.ntmps36
  go_wp2_with fail
  go_at_call 19; refine (C.out _).mono ?_; intro e w1 hcp
  obtain ⟨g, cap, rfl, hown, hb⟩ := hcp
  have hr := (Row.of_own hown).1
  have R := Lib.hid ((RRead.start w).step hb)
  obtain ⟨ad, e0, hlt, hq0⟩ := hr 0 (by simp)
  cases e0
  obtain ⟨ad', e', _, hq1⟩ := hr 1 (by simp)
  cases e'
  have hA0 : w1.cell? ⟨g, 0, none⟩ = some (.string p) := by simpa [Addr.add] using hq0
  have hA1 : w1.cell? ⟨g, 1, none⟩ = some (.string q) := by simpa [Addr.add] using hq1
  have hg : g < w1.heap.size := hlt
  have R1 := Lib.hid (R.out.step (Below.alloc (Below.refl _ w1) (Nat.le_refl _) (.cells #[.string ⟨#[]⟩, .string ⟨#[]⟩] 37)))
  clear hr hown hb hq0 hq1 hlt R C
  go_wp2_with fail
  have R2 : Hid (RRead2 w (w1.heap.size + 1) p q ((w1.alloc (.cells #[.string ⟨#[]⟩, .string ⟨#[]⟩] 37)).alloc (.cells #[.string p, .string q] 37)).drew) := Lib.hid (by
    refine RRead2.drew ⟨R1.out.step (Below.alloc (Below.refl _ _) (Nat.le_refl _) _), ?_⟩
    have h := heap_alloc_new (w1.alloc (.cells #[.string ⟨#[]⟩, .string ⟨#[]⟩] 37)) (.cells #[.string p, .string q] 37)
    rw [World.size_alloc] at h
    exact h)
  clear R1
  go_region
  go_wp2_with fail
  clear hA0 hA1 hg
  generalize ((w1.alloc (.cells #[.string ⟨#[]⟩, .string ⟨#[]⟩] 37)).alloc (.cells #[.string p, .string q] 37)).drew = W2 at R2 ⊢
  generalize w1.heap.size + 1 = k at R2 ⊢
  obtain ⟨r0, r1, s0, s1, f0, f1⟩ := R2.out.cells
  have R3 := Lib.hid (R2.out.drew)
  first | (go_region_with  (first
    | (go_at_call 30; (with_reducible refine (S.out _).mono ?_); rintro e w2 ⟨rfl, hb⟩; have R3 := Lib.hid (R3.out.step hb); clear hb; obtain ⟨r0, r1, s0, s1, f0, f1⟩ := R3.out.cells)
    | (go_at_call 35; (with_reducible refine (X.out _).mono ?_); rintro e w2 ⟨rfl, hb⟩; have R3 := Lib.hid (R3.out.step hb); clear hb; obtain ⟨r0, r1, s0, s1, f0, f1⟩ := R3.out.cells))) | fail
  all_goals go_wp2_with fail
  all_goals (refine bodyPost_ret (v := rd p q ((textA p q).toList == t.toList)) (by simp [results, Act.put, Try.results36, go_sem, r0, r1, f0, f1]) rfl ⟨rfl, ?_⟩)
  all_goals exact (R3.out.r.below.setCell (p := ⟨w.heap.size, 0, none⟩) (Nat.le_refl _) _).setCell (p := ⟨w.heap.size, 1, none⟩) (Nat.le_refl _) _

set_option maxHeartbeats 2000000 in
theorem rread_two_no (t p q : ByteArray) (w : World) (ht : t.size ≤ 3000) (hc : cutAt 58 t.data.toList = [p.data.toList, q.data.toList]) (hs : spanB p.data.toList q.data.toList = false) :
    Calls Try.prog 36 #[.string t] w fun e w' => e = .returned (rd p q false) ∧ Below w.heap.size w w' := by
  have C := Lib.hid (fun w => cut_any t 58 w (by omega))
  rw [hc] at C
  have hp : p.size ≤ 3000 ∧ q.size ≤ 3000 := by
    have h1 := part_le 58 t.data.toList p.data.toList (by rw [hc]; simp)
    have h2 := part_le 58 t.data.toList q.data.toList (by rw [hc]; simp)
    rw [len_list, len_list] at h1 h2; omega
  have S := Lib.hid (fun w => by have := rspanMay_any p q (by unfold maxLen; omega) (by unfold maxLen; omega) w; rwa [hs] at this)
  have X := Lib.hid (rtext_any p q (by omega) (by omega))
  clear hc hs hp
  go_enter Try.func36, Try.ntmps36
  go_wp2_with fail
  go_at_call 19; refine (C.out _).mono ?_; intro e w1 hcp
  obtain ⟨g, cap, rfl, hown, hb⟩ := hcp
  have hr := (Row.of_own hown).1
  have R := Lib.hid ((RRead.start w).step hb)
  obtain ⟨ad, e0, hlt, hq0⟩ := hr 0 (by simp)
  cases e0
  obtain ⟨ad', e', _, hq1⟩ := hr 1 (by simp)
  cases e'
  have hA0 : w1.cell? ⟨g, 0, none⟩ = some (.string p) := by simpa [Addr.add] using hq0
  have hA1 : w1.cell? ⟨g, 1, none⟩ = some (.string q) := by simpa [Addr.add] using hq1
  have hg : g < w1.heap.size := hlt
  have R1 := Lib.hid (R.out.step (Below.alloc (Below.refl _ w1) (Nat.le_refl _) (.cells #[.string ⟨#[]⟩, .string ⟨#[]⟩] 37)))
  clear hr hown hb hq0 hq1 hlt R C
  go_wp2_with fail
  have R2 : Hid (RRead2 w (w1.heap.size + 1) p q ((w1.alloc (.cells #[.string ⟨#[]⟩, .string ⟨#[]⟩] 37)).alloc (.cells #[.string p, .string q] 37)).drew) := Lib.hid (by
    refine RRead2.drew ⟨R1.out.step (Below.alloc (Below.refl _ _) (Nat.le_refl _) _), ?_⟩
    have h := heap_alloc_new (w1.alloc (.cells #[.string ⟨#[]⟩, .string ⟨#[]⟩] 37)) (.cells #[.string p, .string q] 37)
    rw [World.size_alloc] at h
    exact h)
  clear R1
  go_region
  go_wp2_with fail
  clear hA0 hA1 hg
  generalize ((w1.alloc (.cells #[.string ⟨#[]⟩, .string ⟨#[]⟩] 37)).alloc (.cells #[.string p, .string q] 37)).drew = W2 at R2 ⊢
  generalize w1.heap.size + 1 = k at R2 ⊢
  obtain ⟨r0, r1, s0, s1, f0, f1⟩ := R2.out.cells
  have R3 := Lib.hid (R2.out.drew)
  first | (go_region_with  (first
    | (go_at_call 30; (with_reducible refine (S.out _).mono ?_); rintro e w2 ⟨rfl, hb⟩; have R3 := Lib.hid (R3.out.step hb); clear hb; obtain ⟨r0, r1, s0, s1, f0, f1⟩ := R3.out.cells)
    | (go_at_call 35; (with_reducible refine (X.out _).mono ?_); rintro e w2 ⟨rfl, hb⟩; have R3 := Lib.hid (R3.out.step hb); clear hb; obtain ⟨r0, r1, s0, s1, f0, f1⟩ := R3.out.cells))) | fail
  all_goals go_wp2_with fail
  all_goals (refine bodyPost_ret (v := rd p q false) (by simp [results, Act.put, Try.results36, go_sem, r0, r1, f0, f1]) rfl ⟨rfl, ?_⟩)
  all_goals exact (R3.out.r.below.setCell (p := ⟨w.heap.size, 0, none⟩) (Nat.le_refl _) _).setCell (p := ⟨w.heap.size, 1, none⟩) (Nat.le_refl _) _

set_option maxHeartbeats 2000000 in
theorem rread_one (t : ByteArray) (w : World) (ht : t.size ≤ 3000) (hc : cutAt 58 t.data.toList = [t.data.toList]) :
    Calls Try.prog 36 #[.string t] w fun e w' => e = .returned (rd t t (mayV t.data.toList)) ∧ Below w.heap.size w w' := by
  have C := Lib.hid (fun w => cut_any t 58 w (by omega))
  rw [hc] at C
  have M := Lib.hid (fun w => rmay_any t w (by unfold maxLen; omega))
  clear hc
  go_enter Try.func36, Try.ntmps36
  go_wp2_with fail
  go_at_call 19; refine (C.out _).mono ?_; intro e w1 hcp
  obtain ⟨g, cap, rfl, hown, hb⟩ := hcp
  have R := Lib.hid (((RRead.start w).step hb).step (Below.alloc (Below.refl _ w1) (Nat.le_refl _) (.cells #[.string ⟨#[]⟩, .string ⟨#[]⟩] 37)))
  clear hown hb C
  go_wp2_with fail
  go_at_call 17; refine (M.out _).mono ?_; rintro e w2 ⟨rfl, hb⟩
  have R := Lib.hid (R.out.step hb)
  obtain ⟨r0, r1, f0, f1⟩ := R.out.cells
  clear hb
  go_wp2_with fail
  refine bodyPost_ret (v := rd t t (mayV t.data.toList)) (by simp [results, Try.results36, go_sem, r0, r1, f0, f1]) rfl ⟨rfl, ?_⟩
  exact (R.out.below.setCell (p := ⟨w.heap.size, 0, none⟩) (Nat.le_refl _) _).setCell (p := ⟨w.heap.size, 1, none⟩) (Nat.le_refl _) _

set_option maxHeartbeats 2000000 in
theorem rread_many (t : ByteArray) (w : World) (ht : t.size ≤ 3000) (n : Nat) (hn : n = (cutAt 58 t.data.toList).length) (hc : 2 < n) :
    Calls Try.prog 36 #[.string t] w fun e w' => e = .returned (rd ⟨#[]⟩ ⟨#[]⟩ false) ∧ Below w.heap.size w w' := by
  have C := Lib.hid (fun w => cut_any t 58 w (by omega))
  have hl := cut_length 58 t.data.toList
  rw [len_list, ← hn] at hl
  have HN := Lib.hid hn
  have hc' : 2 < (n : Int) := by omega
  have hl' : (n : Int) ≤ 3001 := by omega
  clear hn hc hl
  go_enter Try.func36, Try.ntmps36
  go_wp2_with fail
  go_at_call 19; refine (C.out _).mono ?_; intro e w1 hcp
  obtain ⟨g, cap, rfl, hown, hb⟩ := hcp
  have R := Lib.hid (((RRead.start w).step hb).step (Below.alloc (Below.refl _ w1) (Nat.le_refl _) (.cells #[.string ⟨#[]⟩, .string ⟨#[]⟩] 37)))
  rw [← HN.out]
  clear hown hb C
  have hz : w.heap.size ≤ w1.heap.size := by have := R.out.r; have h1 := R.out.below.size; have h2 := lt_of_block this; simp at h1 h2; omega
  obtain ⟨r0, r1, f0, f1⟩ := R.out.cells
  go_wp2_with fail
  refine bodyPost_ret (v := rd ⟨#[]⟩ ⟨#[]⟩ false) (by simp [results, Try.results36, go_sem, r0, r1, f0, f1]) rfl ⟨rfl, ?_⟩
  exact (R.out.below.setCell (p := ⟨w.heap.size, 0, none⟩) (Nat.le_refl _) _).setCell (p := ⟨w.heap.size, 1, none⟩) (Nat.le_refl _) _

theorem rread_yes (t : ByteArray) (ht : t.size ≤ 3000) {p q : Bs} (h : readOk t.data.toList = some (p, q)) : Says 36 #[.string t] (rd (bs p) (bs q) true) := fun w => by
  obtain ⟨x, xs, e⟩ := cutAt_ne 58 t.data.toList
  have h' := h
  unfold readOk at h'
  match xs, e with
  | [], e =>
    rw [e] at h'
    have hx : x = t.data.toList := by have := join_cut 58 t.data.toList; rw [e] at this; exact this
    subst hx
    cases hm : mayV t.data.toList with
    | false => simp [hm] at h'
    | true =>
      simp only [hm, if_true, Option.some.injEq, Prod.mk.injEq] at h'
      obtain ⟨rfl, rfl⟩ := h'
      have r := rread_one t w ht e
      rwa [hm] at r
  | [y], e =>
    rw [e] at h'
    simp only at h'
    by_cases hb : spanB x y = true ∧ textS x y = t.data.toList
    · rw [if_pos hb] at h'
      simp only [Option.some.injEq, Prod.mk.injEq] at h'
      obtain ⟨rfl, rfl⟩ := h'
      have r := rread_two t (bs x) (bs y) w ht e hb.1
      have hx : ((textA (bs x) (bs y)).toList == t.toList) = true := by rw [Lib.toList_data, Lib.toList_data, textA_list]; simpa using hb.2
      rwa [hx] at r
    · rw [if_neg hb] at h'; cases h'
  | y :: z :: zs, e => rw [e] at h'; simp at h'
theorem rread_no (t : ByteArray) (ht : t.size ≤ 3000) (h : readOk t.data.toList = none) : ∃ x y : ByteArray, Says 36 #[.string t] (rd x y false) := by
  obtain ⟨x, xs, e⟩ := cutAt_ne 58 t.data.toList
  have h' := h
  unfold readOk at h'
  match xs, e with
  | [], e =>
    rw [e] at h'
    have hx : x = t.data.toList := by have := join_cut 58 t.data.toList; rw [e] at this; exact this
    subst hx
    cases hm : mayV t.data.toList with
    | false =>
      refine ⟨t, t, fun w => ?_⟩
      have r := rread_one t w ht e
      rwa [hm] at r
    | true => simp [hm] at h'
  | [y], e =>
    rw [e] at h'
    simp only at h'
    refine ⟨bs x, bs y, fun w => ?_⟩
    cases hs : spanB x y with
    | false => exact rread_two_no t (bs x) (bs y) w ht e hs
    | true =>
      have r := rread_two t (bs x) (bs y) w ht e hs
      have hx : ((textA (bs x) (bs y)).toList == t.toList) = false := by
        rw [Lib.toList_data, Lib.toList_data, textA_list]
        have hne : ¬ textS x y = t.data.toList := fun e2 => by rw [if_pos ⟨hs, e2⟩] at h'; cases h'
        simpa using hne
      rwa [hx] at r
  | y :: z :: zs, e =>
    refine ⟨⟨#[]⟩, ⟨#[]⟩, fun w => rread_many t w ht _ rfl (by rw [e]; simp)⟩

end Go.Proofs.Ytdmobdiffobdkaa.Ver
