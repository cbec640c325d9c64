/- Spans: Meet, Joins, Join and Within over any two spans. -/
import Derived.Test.YtdmobdiffobdkaaSpanH
namespace Go.Proofs.Ytdmobdiffobdkaa.Ver
set_option linter.unusedVariables false
set_option linter.unusedSimpArgs false
open Go.RowKit Go.Shelf

theorem meet_any (a a' b b' : ByteArray) (za : a.size ≤ maxLen) (za' : a'.size ≤ maxLen) (zb : b.size ≤ maxLen) (zb' : b'.size ≤ maxLen) : Says 37 #[spv a a', spv b b'] (meetA a a' b b') := fun w => by
  cases sab : (spanB a.data.toList a'.data.toList && spanB b.data.toList b'.data.toList) with
  | false =>
    have e : meetA a a' b b' = rd ⟨#[]⟩ ⟨#[]⟩ false := by rw [meetA, meetC, sab]; rfl
    rw [e]
    exact meet_no a a' b b' w za za' zb zb' sab
  | true =>
    have sa : spanB a.data.toList a'.data.toList = true := by simp at sab; exact sab.1
    have sb : spanB b.data.toList b'.data.toList = true := by simp at sab; exact sab.2
    unfold meetA meetC
    rw [sa, sb]
    cases hl : lowerB a.data.toList b.data.toList <;> cases hh : higherB a'.data.toList b'.data.toList <;> simp only [upLoA, downHiA, hl, hh, Bool.and_true, Bool.true_and, Bool.false_eq_true, if_true, if_false]
    · cases hs : spanB a.data.toList a'.data.toList
      · exact meet_fff a a' b b' w za za' zb zb' sa sb hl hh hs
      · exact meet_fft a a' b b' w za za' zb zb' sa sb hl hh hs
    · cases hs : spanB a.data.toList b'.data.toList
      · exact meet_ftf a a' b b' w za za' zb zb' sa sb hl hh hs
      · exact meet_ftt a a' b b' w za za' zb zb' sa sb hl hh hs
    · cases hs : spanB b.data.toList a'.data.toList
      · exact meet_tff a a' b b' w za za' zb zb' sa sb hl hh hs
      · exact meet_tft a a' b b' w za za' zb zb' sa sb hl hh hs
    · cases hs : spanB b.data.toList b'.data.toList
      · exact meet_ttf a a' b b' w za za' zb zb' sa sb hl hh hs
      · exact meet_ttt a a' b b' w za za' zb zb' sa sb hl hh hs

/-- how the document's tests come to the program's. -/
inductive LoK (a b : ByteArray) : Prop where
  | E (e : b.toList.isEmpty = true) (h : lowerB a.data.toList b.data.toList = false)
  | A (e : b.toList.isEmpty = false) (e1 : a.toList.isEmpty = true) (h : lowerB a.data.toList b.data.toList = true)
  | F (e : b.toList.isEmpty = false) (e1 : a.toList.isEmpty = false) (l : decide (cmpV a.data.toList b.data.toList < 0) = false) (h : lowerB a.data.toList b.data.toList = false)
  | T (e : b.toList.isEmpty = false) (e1 : a.toList.isEmpty = false) (l : decide (cmpV a.data.toList b.data.toList < 0) = true) (h : lowerB a.data.toList b.data.toList = true)
theorem lo_kind (a b : ByteArray) : LoK a b := by
  cases e : b.data.toList.isEmpty with
  | true => exact .E (by rw [isEmpty_eq]; exact e) (by unfold lowerB; rw [e]; simp)
  | false =>
    cases e1 : a.data.toList.isEmpty with
    | true => exact .A (by rw [isEmpty_eq]; exact e) (by rw [isEmpty_eq]; exact e1) (by unfold lowerB; rw [e, e1]; simp)
    | false =>
      cases l : decide (cmpV a.data.toList b.data.toList < 0) with
      | true => exact .T (by rw [isEmpty_eq]; exact e) (by rw [isEmpty_eq]; exact e1) l (by unfold lowerB; rw [e, e1]; simpa using l)
      | false => exact .F (by rw [isEmpty_eq]; exact e) (by rw [isEmpty_eq]; exact e1) l (by unfold lowerB; rw [e, e1]; simpa using l)
inductive HiK (a b : ByteArray) : Prop where
  | E (e : b.toList.isEmpty = true) (h : higherB a.data.toList b.data.toList = false)
  | A (e : b.toList.isEmpty = false) (e1 : a.toList.isEmpty = true) (h : higherB a.data.toList b.data.toList = true)
  | F (e : b.toList.isEmpty = false) (e1 : a.toList.isEmpty = false) (l : decide (cmpV b.data.toList a.data.toList < 0) = false) (h : higherB a.data.toList b.data.toList = false)
  | T (e : b.toList.isEmpty = false) (e1 : a.toList.isEmpty = false) (l : decide (cmpV b.data.toList a.data.toList < 0) = true) (h : higherB a.data.toList b.data.toList = true)
theorem hi_kind (a b : ByteArray) : HiK a b := by
  have an := ord_v.anti a.data.toList b.data.toList
  cases e : b.data.toList.isEmpty with
  | true => exact .E (by rw [isEmpty_eq]; exact e) (by unfold higherB; rw [e]; simp)
  | false =>
    cases e1 : a.data.toList.isEmpty with
    | true => exact .A (by rw [isEmpty_eq]; exact e) (by rw [isEmpty_eq]; exact e1) (by unfold higherB; rw [e, e1]; simp)
    | false =>
      cases l : decide (cmpV b.data.toList a.data.toList < 0) with
      | true => exact .T (by rw [isEmpty_eq]; exact e) (by rw [isEmpty_eq]; exact e1) l (by unfold higherB; rw [e, e1]; simp at l ⊢; omega)
      | false => exact .F (by rw [isEmpty_eq]; exact e) (by rw [isEmpty_eq]; exact e1) l (by unfold higherB; rw [e, e1]; simp at l ⊢; omega)

set_option maxHeartbeats 2000000 in
theorem rmeet_no (a a' b b' : ByteArray) (w : World) (za : a.size ≤ maxLen) (za' : a'.size ≤ maxLen) (zb : b.size ≤ maxLen) (zb' : b'.size ≤ maxLen) (h : (spanB a.data.toList a'.data.toList && spanB b.data.toList b'.data.toList) = false) :
    Calls Try.prog 38 #[spv a a', spv b b'] w fun e w' => e = .returned (rd ⟨#[]⟩ ⟨#[]⟩ false) ∧ Below w.heap.size w w' := by
  have SA := Lib.hid (rspanMay_any a a' za za')
  have SB := Lib.hid (rspanMay_any b b' zb zb')
  have J := Lib.hid (MJ.start w a a' b b')
  clear za za' zb zb'
  cases sa : spanB a.data.toList a'.data.toList with
  | false =>
    rw [sa] at SA
    clear h sa
    go_enter Try.func38, Try.ntmps38
    go_wp2_with fail
    go_at_call 30; refine (SA.out _).mono ?_; rintro e w1 ⟨rfl, hb⟩; have J := Lib.hid (J.out.step hb); clear hb; obtain ⟨a0, a1, b0, b1, r0, r1, f0, f1⟩ := J.out.cells
    go_wp2_with fail
    exact bodyPost_ret (v := rd ⟨#[]⟩ ⟨#[]⟩ false) (by simp [results, Try.results38, go_sem, r0, r1, f0, f1]) rfl ⟨rfl, J.out.out _ _⟩
  | true =>
    have sb : spanB b.data.toList b'.data.toList = false := by rw [sa] at h; simpa using h
    rw [sa] at SA
    rw [sb] at SB
    clear h sa sb
    go_enter Try.func38, Try.ntmps38
    go_wp2_with fail
    go_at_call 30; refine (SA.out _).mono ?_; rintro e w1 ⟨rfl, hb⟩; have J := Lib.hid (J.out.step hb); clear hb; obtain ⟨a0, a1, b0, b1, r0, r1, f0, f1⟩ := J.out.cells
    go_wp2_with fail
    go_at_call 30; refine (SB.out _).mono ?_; rintro e w1 ⟨rfl, hb⟩; clear a0 a1 b0 b1 r0 r1 f0 f1; have J := Lib.hid (J.out.step hb); clear hb; obtain ⟨a0, a1, b0, b1, r0, r1, f0, f1⟩ := J.out.cells
    go_wp2_with fail
    exact bodyPost_ret (v := rd ⟨#[]⟩ ⟨#[]⟩ false) (by simp [results, Try.results38, go_sem, r0, r1, f0, f1]) rfl ⟨rfl, J.out.out _ _⟩

theorem rmeet_any (a a' b b' : ByteArray) (za : a.size ≤ maxLen) (za' : a'.size ≤ maxLen) (zb : b.size ≤ maxLen) (zb' : b'.size ≤ maxLen) : Says 38 #[spv a a', spv b b'] (meetA a a' b b') := fun w => by
  cases sab : (spanB a.data.toList a'.data.toList && spanB b.data.toList b'.data.toList) with
  | false =>
    have e : meetA a a' b b' = rd ⟨#[]⟩ ⟨#[]⟩ false := by rw [meetA, meetC, sab]; rfl
    rw [e]
    exact rmeet_no a a' b b' w za za' zb zb' sab
  | true =>
    have sa : spanB a.data.toList a'.data.toList = true := by simp at sab; exact sab.1
    have sb : spanB b.data.toList b'.data.toList = true := by simp at sab; exact sab.2
    unfold meetA meetC
    rw [sa, sb]
    have lk := lo_kind a b
    have hk := hi_kind a' b'
    cases lk with
    | E e1 h1 =>
      cases hk with
      | E e2 h2 =>
        simp only [upLoA, downHiA, h1, h2, Bool.and_true, Bool.true_and, Bool.false_eq_true, if_true, if_false]
        cases hs : spanB a.data.toList a'.data.toList
        · exact rmeet_EEf a a' b b' w za za' zb zb' sa sb e1 e2 hs
        · exact rmeet_EEt a a' b b' w za za' zb zb' sa sb e1 e2 hs
      | A e2 f2 h2 =>
        simp only [upLoA, downHiA, h1, h2, Bool.and_true, Bool.true_and, Bool.false_eq_true, if_true, if_false]
        cases hs : spanB a.data.toList b'.data.toList
        · exact rmeet_EAf a a' b b' w za za' zb zb' sa sb e1 e2 f2 hs
        · exact rmeet_EAt a a' b b' w za za' zb zb' sa sb e1 e2 f2 hs
      | F e2 f2 l2 h2 =>
        simp only [upLoA, downHiA, h1, h2, Bool.and_true, Bool.true_and, Bool.false_eq_true, if_true, if_false]
        cases hs : spanB a.data.toList a'.data.toList
        · exact rmeet_EFf a a' b b' w za za' zb zb' sa sb e1 e2 f2 l2 hs
        · exact rmeet_EFt a a' b b' w za za' zb zb' sa sb e1 e2 f2 l2 hs
      | T e2 f2 l2 h2 =>
        simp only [upLoA, downHiA, h1, h2, Bool.and_true, Bool.true_and, Bool.false_eq_true, if_true, if_false]
        cases hs : spanB a.data.toList b'.data.toList
        · exact rmeet_ETf a a' b b' w za za' zb zb' sa sb e1 e2 f2 l2 hs
        · exact rmeet_ETt a a' b b' w za za' zb zb' sa sb e1 e2 f2 l2 hs
    | A e1 f1 h1 =>
      cases hk with
      | E e2 h2 =>
        simp only [upLoA, downHiA, h1, h2, Bool.and_true, Bool.true_and, Bool.false_eq_true, if_true, if_false]
        cases hs : spanB b.data.toList a'.data.toList
        · exact rmeet_AEf a a' b b' w za za' zb zb' sa sb e1 f1 e2 hs
        · exact rmeet_AEt a a' b b' w za za' zb zb' sa sb e1 f1 e2 hs
      | A e2 f2 h2 =>
        simp only [upLoA, downHiA, h1, h2, Bool.and_true, Bool.true_and, Bool.false_eq_true, if_true, if_false]
        cases hs : spanB b.data.toList b'.data.toList
        · exact rmeet_AAf a a' b b' w za za' zb zb' sa sb e1 f1 e2 f2 hs
        · exact rmeet_AAt a a' b b' w za za' zb zb' sa sb e1 f1 e2 f2 hs
      | F e2 f2 l2 h2 =>
        simp only [upLoA, downHiA, h1, h2, Bool.and_true, Bool.true_and, Bool.false_eq_true, if_true, if_false]
        cases hs : spanB b.data.toList a'.data.toList
        · exact rmeet_AFf a a' b b' w za za' zb zb' sa sb e1 f1 e2 f2 l2 hs
        · exact rmeet_AFt a a' b b' w za za' zb zb' sa sb e1 f1 e2 f2 l2 hs
      | T e2 f2 l2 h2 =>
        simp only [upLoA, downHiA, h1, h2, Bool.and_true, Bool.true_and, Bool.false_eq_true, if_true, if_false]
        cases hs : spanB b.data.toList b'.data.toList
        · exact rmeet_ATf a a' b b' w za za' zb zb' sa sb e1 f1 e2 f2 l2 hs
        · exact rmeet_ATt a a' b b' w za za' zb zb' sa sb e1 f1 e2 f2 l2 hs
    | F e1 f1 l1 h1 =>
      cases hk with
      | E e2 h2 =>
        simp only [upLoA, downHiA, h1, h2, Bool.and_true, Bool.true_and, Bool.false_eq_true, if_true, if_false]
        cases hs : spanB a.data.toList a'.data.toList
        · exact rmeet_FEf a a' b b' w za za' zb zb' sa sb e1 f1 e2 l1 hs
        · exact rmeet_FEt a a' b b' w za za' zb zb' sa sb e1 f1 e2 l1 hs
      | A e2 f2 h2 =>
        simp only [upLoA, downHiA, h1, h2, Bool.and_true, Bool.true_and, Bool.false_eq_true, if_true, if_false]
        cases hs : spanB a.data.toList b'.data.toList
        · exact rmeet_FAf a a' b b' w za za' zb zb' sa sb e1 f1 e2 f2 l1 hs
        · exact rmeet_FAt a a' b b' w za za' zb zb' sa sb e1 f1 e2 f2 l1 hs
      | F e2 f2 l2 h2 =>
        simp only [upLoA, downHiA, h1, h2, Bool.and_true, Bool.true_and, Bool.false_eq_true, if_true, if_false]
        cases hs : spanB a.data.toList a'.data.toList
        · exact rmeet_FFf a a' b b' w za za' zb zb' sa sb e1 f1 e2 f2 l1 l2 hs
        · exact rmeet_FFt a a' b b' w za za' zb zb' sa sb e1 f1 e2 f2 l1 l2 hs
      | T e2 f2 l2 h2 =>
        simp only [upLoA, downHiA, h1, h2, Bool.and_true, Bool.true_and, Bool.false_eq_true, if_true, if_false]
        cases hs : spanB a.data.toList b'.data.toList
        · exact rmeet_FTf a a' b b' w za za' zb zb' sa sb e1 f1 e2 f2 l1 l2 hs
        · exact rmeet_FTt a a' b b' w za za' zb zb' sa sb e1 f1 e2 f2 l1 l2 hs
    | T e1 f1 l1 h1 =>
      cases hk with
      | E e2 h2 =>
        simp only [upLoA, downHiA, h1, h2, Bool.and_true, Bool.true_and, Bool.false_eq_true, if_true, if_false]
        cases hs : spanB b.data.toList a'.data.toList
        · exact rmeet_TEf a a' b b' w za za' zb zb' sa sb e1 f1 e2 l1 hs
        · exact rmeet_TEt a a' b b' w za za' zb zb' sa sb e1 f1 e2 l1 hs
      | A e2 f2 h2 =>
        simp only [upLoA, downHiA, h1, h2, Bool.and_true, Bool.true_and, Bool.false_eq_true, if_true, if_false]
        cases hs : spanB b.data.toList b'.data.toList
        · exact rmeet_TAf a a' b b' w za za' zb zb' sa sb e1 f1 e2 f2 l1 hs
        · exact rmeet_TAt a a' b b' w za za' zb zb' sa sb e1 f1 e2 f2 l1 hs
      | F e2 f2 l2 h2 =>
        simp only [upLoA, downHiA, h1, h2, Bool.and_true, Bool.true_and, Bool.false_eq_true, if_true, if_false]
        cases hs : spanB b.data.toList a'.data.toList
        · exact rmeet_TFf a a' b b' w za za' zb zb' sa sb e1 f1 e2 f2 l1 l2 hs
        · exact rmeet_TFt a a' b b' w za za' zb zb' sa sb e1 f1 e2 f2 l1 l2 hs
      | T e2 f2 l2 h2 =>
        simp only [upLoA, downHiA, h1, h2, Bool.and_true, Bool.true_and, Bool.false_eq_true, if_true, if_false]
        cases hs : spanB b.data.toList b'.data.toList
        · exact rmeet_TTf a a' b b' w za za' zb zb' sa sb e1 f1 e2 f2 l1 l2 hs
        · exact rmeet_TTt a a' b b' w za za' zb zb' sa sb e1 f1 e2 f2 l1 l2 hs

set_option maxHeartbeats 2000000 in
theorem join_no (a a' b b' : ByteArray) (w : World) (za : a.size ≤ maxLen) (za' : a'.size ≤ maxLen) (zb : b.size ≤ maxLen) (zb' : b'.size ≤ maxLen) (h : (spanB a.data.toList a'.data.toList && spanB b.data.toList b'.data.toList) = false) :
    Calls Try.prog 40 #[spv a a', spv b b'] w fun e w' => e = .returned (spv ⟨#[]⟩ ⟨#[]⟩) ∧ Below w.heap.size w w' := by
  have SA := Lib.hid (spanMay_any a a' za za')
  have SB := Lib.hid (spanMay_any b b' zb zb')
  have J := Lib.hid (MJ.start w a a' b b')
  clear za za' zb zb'
  cases sa : spanB a.data.toList a'.data.toList with
  | false =>
    rw [sa] at SA
    clear h sa
    go_enter Try.func40, Try.ntmps40
    go_wp2_with fail
    go_at_call 29; refine (SA.out _).mono ?_; rintro e w1 ⟨rfl, hb⟩; have J := Lib.hid (J.out.step hb); clear hb; obtain ⟨a0, a1, b0, b1, r0, r1, f0, f1⟩ := J.out.cells
    go_wp2_with fail
    exact bodyPost_ret (v := spv ⟨#[]⟩ ⟨#[]⟩) (by simp [results, Try.results40, go_sem, r0, r1, f0, f1]) rfl ⟨rfl, J.out.out _ _⟩
  | true =>
    have sb : spanB b.data.toList b'.data.toList = false := by rw [sa] at h; simpa using h
    rw [sa] at SA
    rw [sb] at SB
    clear h sa sb
    go_enter Try.func40, Try.ntmps40
    go_wp2_with fail
    go_at_call 29; refine (SA.out _).mono ?_; rintro e w1 ⟨rfl, hb⟩; have J := Lib.hid (J.out.step hb); clear hb; obtain ⟨a0, a1, b0, b1, r0, r1, f0, f1⟩ := J.out.cells
    go_wp2_with fail
    go_at_call 29; refine (SB.out _).mono ?_; rintro e w1 ⟨rfl, hb⟩; clear a0 a1 b0 b1 r0 r1 f0 f1; have J := Lib.hid (J.out.step hb); clear hb; obtain ⟨a0, a1, b0, b1, r0, r1, f0, f1⟩ := J.out.cells
    go_wp2_with fail
    exact bodyPost_ret (v := spv ⟨#[]⟩ ⟨#[]⟩) (by simp [results, Try.results40, go_sem, r0, r1, f0, f1]) rfl ⟨rfl, J.out.out _ _⟩
theorem join_any (a a' b b' : ByteArray) (za : a.size ≤ maxLen) (za' : a'.size ≤ maxLen) (zb : b.size ≤ maxLen) (zb' : b'.size ≤ maxLen) : Says 40 #[spv a a', spv b b'] (joinA a a' b b') := fun w => by
  cases sab : (spanB a.data.toList a'.data.toList && spanB b.data.toList b'.data.toList) with
  | false =>
    have e : joinA a a' b b' = spv ⟨#[]⟩ ⟨#[]⟩ := by rw [joinA, sab]; rfl
    rw [e]
    exact join_no a a' b b' w za za' zb zb' sab
  | true =>
    have sa : spanB a.data.toList a'.data.toList = true := by simp at sab; exact sab.1
    have sb : spanB b.data.toList b'.data.toList = true := by simp at sab; exact sab.2
    unfold joinA
    rw [sa, sb]
    cases hl : lowerB b.data.toList a.data.toList <;> cases hh : higherB b'.data.toList a'.data.toList <;> simp only [downLoA, upHiA, hl, hh, Bool.and_true, Bool.true_and, Bool.false_eq_true, if_true, if_false]
    · exact join_ff a a' b b' w za za' zb zb' sa sb hl hh
    · exact join_ft a a' b b' w za za' zb zb' sa sb hl hh
    · exact join_tf a a' b b' w za za' zb zb' sa sb hl hh
    · exact join_tt a a' b b' w za za' zb zb' sa sb hl hh

/-! ### Joins and Within -/
structure TB (w : World) (a a' b b' : ByteArray) (W : World) : Prop where
  a : Bx W w.heap.size a a'
  b : Bx W (w.heap.size + 1) b b'
  below : Below w.heap.size w W
theorem TB.step {w W W' : World} {a a' b b' : ByteArray} (h : TB w a a' b b' W) (hb : Below W.heap.size W W') : TB w a a' b b' W' := ⟨h.a.step hb, h.b.step hb, bstep h.below hb⟩
theorem TB.start (w : World) (a a' b b' : ByteArray) : TB w a a' b b' ((w.alloc (.cells #[.string a, .string a'] 37)).alloc (.cells #[.string b, .string b'] 37)) := by
  refine ⟨(Bx.new w a a').alloc _, ?_, ((Below.refl _ w).alloc (Nat.le_refl _) _).alloc (by simp) _⟩
  have h := Bx.new (w.alloc (.cells #[.string a, .string a'] 37)) b b'
  rw [World.size_alloc] at h
  exact h
theorem TB.cells {w W : World} {a a' b b' : ByteArray} (h : TB w a a' b b' W) : W.cell? ⟨w.heap.size, 0, none⟩ = some (.string a) ∧ W.cell? ⟨w.heap.size, 1, none⟩ = some (.string a') ∧ W.cell? ⟨w.heap.size + 1, 0, none⟩ = some (.string b) ∧ W.cell? ⟨w.heap.size + 1, 1, none⟩ = some (.string b') :=
  ⟨h.a.cells.1, h.a.cells.2, h.b.cells.1, h.b.cells.2⟩

theorem meetA_rd (a a' b b' : ByteArray) : ∃ x y : ByteArray, meetA a a' b b' = rd x y (meetC a a' b b') := by
  unfold meetA
  cases meetC a a' b b' with
  | true => exact ⟨_, _, rfl⟩
  | false => exact ⟨_, _, rfl⟩
set_option maxHeartbeats 1000000 in
theorem joins_any (a a' b b' : ByteArray) (za : a.size ≤ maxLen) (za' : a'.size ≤ maxLen) (zb : b.size ≤ maxLen) (zb' : b'.size ≤ maxLen) : Says 39 #[spv a a', spv b b'] (.bool (meetC a a' b b')) := fun w => by
  obtain ⟨x, y, e⟩ := meetA_rd a a' b b'
  have M : Hid (Says 37 #[spv a a', spv b b'] (rd x y (meetC a a' b b'))) := Lib.hid (by have h := meet_any a a' b b' za za' zb zb'; rwa [e] at h)
  have J := Lib.hid (TB.start w a a' b b')
  clear e za za' zb zb'
  go_enter Try.func39, Try.ntmps39
  go_wp2_with fail
  go_at_call 37; refine (M.out _).mono ?_; rintro e w1 ⟨rfl, hb⟩; have J := Lib.hid (J.out.step hb); clear hb
  go_wp2_with fail
  go_ret
  exact ⟨rfl, J.out.below.alloc J.out.below.size _⟩

set_option maxHeartbeats 2000000 in
theorem within_any (a a' b b' : ByteArray) (za : a.size ≤ maxLen) (za' : a'.size ≤ maxLen) (zb : b.size ≤ maxLen) (zb' : b'.size ≤ maxLen) : Says 41 #[spv a a', spv b b'] (.bool (withinB a.data.toList a'.data.toList b.data.toList b'.data.toList)) := fun w => by
  have SA := Lib.hid (spanMay_any a a' za za')
  have SB := Lib.hid (spanMay_any b b' zb zb')
  have L := Lib.hid (lower_any a b za zb)
  have H := Lib.hid (higher_any a' b' za' zb')
  have J := Lib.hid (TB.start w a a' b b')
  clear za za' zb zb'
  go_enter Try.func41, Try.ntmps41
  go_wp2_with (first
    | (go_at_call 29; (with_reducible refine (SA.out _).mono ?_); clear SA; rintro e w1 ⟨rfl, hb⟩; have J := Lib.hid (J.out.step hb); clear hb; obtain ⟨a0, a1, b0, b1⟩ := J.out.cells)
    | (go_at_call 29; (with_reducible refine (SB.out _).mono ?_); rintro e w1 ⟨rfl, hb⟩; have J := Lib.hid (J.out.step hb); clear hb; obtain ⟨a0, a1, b0, b1⟩ := J.out.cells)
    | (go_at_call 55; (with_reducible refine (L.out _).mono ?_); rintro e w1 ⟨rfl, hb⟩; have J := Lib.hid (J.out.step hb); clear hb; obtain ⟨a0, a1, b0, b1⟩ := J.out.cells)
    | (go_at_call 56; (with_reducible refine (H.out _).mono ?_); rintro e w1 ⟨rfl, hb⟩; have J := Lib.hid (J.out.step hb); clear hb; obtain ⟨a0, a1, b0, b1⟩ := J.out.cells))
  all_goals (go_ret; refine ⟨ret_bool ?_, J.out.below⟩)
  all_goals clear L H J
  all_goals simp_all [withinB]

end Go.Proofs.Ytdmobdiffobdkaa.Ver
