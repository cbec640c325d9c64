/- The law SpanOnes, walked. -/
import Derived.Test.YtdmobdiffobdkaaSpanOnesA
import Derived.Test.YtdmobdiffobdkaaSpanOnesB
namespace Go.Proofs.Ytdmobdiffobdkaa.Ver
set_option linter.unusedVariables false
set_option linter.unusedSimpArgs false
open Go.RowKit Go.Shelf

theorem within_self (lo hi : Bs) : withinB lo hi [] [] = spanB lo hi ∧ withinB lo hi lo hi = spanB lo hi := by
  cases e : spanB lo hi with
  | true => exact within_all e
  | false =>
    refine ⟨?_, ?_⟩
    · cases e' : withinB lo hi [] [] with
      | false => rfl
      | true => rw [(within_iff.1 e').1] at e; exact e
    · cases e' : withinB lo hi lo hi with
      | false => rfl
      | true => rw [(within_iff.1 e').1] at e; exact e

theorem law_spanones (v u a a' b b' : ByteArray) (w : World) (zv : v.size ≤ maxLen) (zu : u.size ≤ maxLen) (za : a.size ≤ maxLen) (za' : a'.size ≤ maxLen) (zb : b.size ≤ maxLen) (zb' : b'.size ≤ maxLen) :
    Calls Try.prog 13 #[.string v, .string u, spv a a', spv b b'] w fun e w' => e = .returned (.bool true) ∧ Below w.heap.size w w' := by
  by_cases h : 3000 < v.size ∨ 3000 < u.size ∨ (decide (3000 < a.size) || decide (3000 < a'.size)) = true ∨ (decide (3000 < b.size) || decide (3000 < b'.size)) = true
  · exact ones_great v u a a' b b' w zv zu za za' zb zb' h
  · have hv : v.size ≤ 3000 := by rcases Nat.lt_or_ge 3000 v.size with h' | h'; exact absurd (.inl h') h; exact h'
    have hu : u.size ≤ 3000 := by rcases Nat.lt_or_ge 3000 u.size with h' | h'; exact absurd (.inr (.inl h')) h; exact h'
    have ga : (decide (3000 < a.size) || decide (3000 < a'.size)) = false := by cases e : (decide (3000 < a.size) || decide (3000 < a'.size)) with | false => rfl | true => exact absurd (.inr (.inr (.inl e))) h
    have gb : (decide (3000 < b.size) || decide (3000 < b'.size)) = false := by cases e : (decide (3000 < b.size) || decide (3000 < b'.size)) with | false => rfl | true => exact absurd (.inr (.inr (.inr e))) h
    have pa := great_parts a a' ga
    have pb := great_parts b b' gb
    have GA := sgreat_none a a' pa.1 pa.2
    have GB := sgreat_none b b' pb.1 pb.2
    have HO := has_any v v u zv zv zu
    have RO := rhas_any v v u zv zv zu
    have HZ := has_any ⟨#[]⟩ ⟨#[]⟩ u (by decide) (by decide) zu
    have RZ := rhas_any ⟨#[]⟩ ⟨#[]⟩ u (by decide) (by decide) zu
    have WAB := within_any a a' b b' za za' zb zb'
    have HA := has_any a a' u za za' zu
    have HB := has_any b b' u zb zb' zu
    have MA := rspanMay_any a a' za za'
    have WZ := within_any a a' ⟨#[]⟩ ⟨#[]⟩ za za' (by decide) (by decide)
    have WA := within_any a a' a a' za za' za za'
    have s := within_self a.data.toList a'.data.toList
    rw [show withinB a.data.toList a'.data.toList (ByteArray.mk #[]).data.toList (ByteArray.mk #[]).data.toList = spanB a.data.toList a'.data.toList from s.1] at WZ
    rw [s.2] at WA
    have k : withinB a.data.toList a'.data.toList b.data.toList b'.data.toList = true → hasB a.data.toList a'.data.toList u.data.toList = true → hasB b.data.toList b'.data.toList u.data.toList = true := fun p q => within_has p q
    have MO := rspanMay_any v v zv zv
    cases ev : v.toList.isEmpty with
    | true => exact ones_E v u a a' b b' w hv hu _ _ _ _ _ _ k GA GB HO RO HZ RZ WAB HA HB MA WZ WA ev
    | false =>
      rw [one_span] at MO
      cases mo : boundB v.data.toList with
      | false =>
        rw [mo] at MO
        exact ones_M v u a a' b b' w hv hu _ _ _ _ _ _ k GA GB HO RO HZ RZ WAB HA HB MA WZ WA ev MO
      | true =>
        rw [mo] at MO
        have ev' : v.data.toList.isEmpty = false := by rw [← isEmpty_eq]; exact ev
        have oh := one_has (w := u.data.toList) ev' mo
        by_cases e : v.data.toList = u.data.toList
        · have eq : (v.toList == u.toList) = true := by rw [Lib.toList_data, Lib.toList_data]; simpa using e
          exact ones_T v u a a' b b' w hv hu _ _ _ _ _ _ k GA GB HO RO HZ RZ WAB HA HB MA WZ WA ev MO eq (by rw [oh]; simpa using e)
        · have eq : (v.toList == u.toList) = false := by rw [Lib.toList_data, Lib.toList_data]; simpa using e
          exact ones_F v u a a' b b' w hv hu _ _ _ _ _ _ k GA GB HO RO HZ RZ WAB HA HB MA WZ WA ev MO eq (by rw [oh]; simpa using e)

end Go.Proofs.Ytdmobdiffobdkaa.Ver
