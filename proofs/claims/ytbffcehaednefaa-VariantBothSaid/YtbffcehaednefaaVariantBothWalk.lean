/- The law VariantBoth, walked. -/
import Derived.Test.YtbffcehaednefaaVariantS
import Derived.Test.YtbffcehaednefaaVariantAllWalk
namespace Go.Proofs.Ytbffcehaednefaa.Variant
set_option linter.unusedVariables false
set_option linter.unusedSimpArgs false
open Go.RowKit

def clash2 (x y : Tr) : Bool := eqB x.1 y.1 && !eqB x.2 y.2
def twoB (a b : List Tr) : Bool := a.any fun x => b.any (clash2 x)
theorem two_of (a b : List Tr) (h : clashB a b = true) : twoB a b = true := by
  obtain ⟨y, hy, x, hx, e1, e2⟩ := (clash_iff a b).1 h
  unfold twoB
  rw [List.any_eq_true]
  refine ⟨x, hx, ?_⟩
  rw [List.any_eq_true]
  refine ⟨y, hy, ?_⟩
  unfold clash2
  rw [(eqB_iff _ _).2 e1, (eqB_false _ _).2 e2]; rfl
theorem anyT_snoc (p : Tr → Bool) (l : List Tr) (k : Nat) (hk : k < l.length) : (l.take (k + 1)).any p = ((l.take k).any p || p (l.getD k tr0)) := by
  rw [List.take_succ_eq_append_getElem hk, List.any_append]
  have : l[k] = l.getD k tr0 := by rw [List.getD_eq_getElem?_getD, List.getElem?_eq_getElem hk]; rfl
  rw [this]; simp
theorem bneB' (a b : ByteArray) (q : Bool) (h : (a.toList == b.toList) = q) : (a.toList != b.toList) = !q := by rw [← h]; rfl

/-- what the law's callees say, at every world behind w. -/
structure BC (a b S : List Tr) (L : List Vr) (va vb vs vl : Value) (w : World) : Prop where
  fx : ∀ w1, Calls Try.prog 11 #[] w1 fun e w' => e = .returned (.bool true) ∧ Below w1.heap.size w1 w'
  wa : ∀ w1, Below w.heap.size w w1 → Calls Try.prog 21 #[va] w1 fun e w' => e = .returned (.bool (wishB a)) ∧ Below w1.heap.size w1 w'
  ra : ∀ w1, Below w.heap.size w w1 → Calls Try.prog 22 #[va] w1 fun e w' => e = .returned (.bool (wishB a)) ∧ Below w1.heap.size w1 w'
  rb : ∀ w1, Below w.heap.size w w1 → Calls Try.prog 22 #[vb] w1 fun e w' => e = .returned (.bool (wishB b)) ∧ Below w1.heap.size w1 w'
  me : ∀ w1, Below w.heap.size w w1 → Calls Try.prog 23 #[vs, va] w1 fun e w' => e = .returned (.bool (meetsB S a)) ∧ Below w1.heap.size w1 w'
  ma : ∀ w1, Below w.heap.size w w1 → Calls Try.prog 24 #[vs, va] w1 fun e w' => e = .returned (.bool (meetsB S a)) ∧ Below w1.heap.size w1 w'
  mb : ∀ w1, Below w.heap.size w w1 → Calls Try.prog 24 #[vs, vb] w1 fun e w' => e = .returned (.bool (meetsB S b)) ∧ Below w1.heap.size w1 w'
  mc : ∀ A' C k c w1, Below w.heap.size w w1 → TRow w1 w1.heap.size A' C → k = C.length → k ≤ 1000 → Calls Try.prog 24 #[vs, .slice A' k c] w1 fun e w' => e = .returned (.bool (meetsB S C)) ∧ Below w1.heap.size w1 w'
  may : ∀ w1, Below w.heap.size w w1 → Calls Try.prog 18 #[vl] w1 fun e w' => e = .returned (.bool (mayL L)) ∧ Below w1.heap.size w1 w'
  leg : ∀ w1, Below w.heap.size w w1 → Calls Try.prog 19 #[vl, vs] w1 fun e w' => e = .returned (.bool (legalB L S)) ∧ Below w1.heap.size w1 w'
  no : (wishB a && wishB b) = false → ∀ w1, Below w.heap.size w w1 → Calls Try.prog 25 #[va, vb] w1 fun e w' => e = .returned (retB (.slice none 0 0) false) ∧ Below w1.heap.size w1 w'
  ab : wishB a = true → wishB b = true → ∀ w1, Below w.heap.size w w1 → Calls Try.prog 25 #[va, vb] w1 (BothEnd a b w1)
  ba : wishB a = true → wishB b = true → ∀ w1, Below w.heap.size w w1 → Calls Try.prog 25 #[vb, va] w1 (BothEnd b a w1)

set_option maxHeartbeats 4000000 in
set_option maxRecDepth 100000 in
theorem both_no1 (A1 A2 A3 A4 : Option Addr) (n1 n2 n3 n4 c1 c2 c3 c4 : Nat) (a b S : List Tr) (L : List Vr) (w : World)
    (C : Hid (BC a b S L (.slice A1 n1 c1) (.slice A2 n2 c2) (.slice A3 n3 c3) (.slice A4 n4 c4) w))
    (GA : Hid (Calls Try.prog 20 #[.slice A1 n1 c1] w fun e w' => e = .returned (.bool false) ∧ w = w'))
    (GB : Hid (Calls Try.prog 20 #[.slice A2 n2 c2] w fun e w' => e = .returned (.bool false) ∧ w = w'))
    (GS : Hid (Calls Try.prog 20 #[.slice A3 n3 c3] w fun e w' => e = .returned (.bool false) ∧ w = w'))
    (GL : Hid (Calls Try.prog 16 #[.slice A4 n4 c4] w fun e w' => e = .returned (.bool false) ∧ w = w'))
    (ha : wishB a = false) :
    Calls Try.prog 5 #[.slice A1 n1 c1, .slice A2 n2 c2, .slice A3 n3 c3, .slice A4 n4 c4] w fun e w' => e = .returned (.bool true) ∧ Below w.heap.size w w' := by
  have WAc := C.out.wa
  rw [ha] at WAc
  have WAC := Lib.hid WAc
  clear WAc
  have RAc := C.out.ra
  rw [ha] at RAc
  have RAC := Lib.hid RAc
  clear RAc
  have MEc := C.out.me
  have MEC := Lib.hid MEc
  clear MEc
  have MAc := C.out.ma
  have MAC := Lib.hid MAc
  clear MAc
  have NO := Lib.hid (C.out.no (by rw [ha]; rfl))
  generalize meetsB S a = p at MEC MAC
  clear ha
  go_enter Try.func5, Try.ntmps5
  go_wp2_with fail
  go_at_call 20; refine GA.out.mono ?_; rintro e w1 ⟨rfl, rfl⟩
  go_wp2_with fail
  go_at_call 20; refine GB.out.mono ?_; rintro e w1 ⟨rfl, rfl⟩
  go_wp2_with fail
  go_at_call 20; refine GS.out.mono ?_; rintro e w1 ⟨rfl, rfl⟩
  go_wp2_with fail
  go_at_call 16; refine GL.out.mono ?_; rintro e w1 ⟨rfl, rfl⟩
  go_wp2_with fail
  have B0 := Lib.hid (Below.refl w.heap.size w)
  go_at_call 21; refine (WAC.out _ B0.out).mono ?_; rintro e w1 ⟨rfl, hb⟩
  have B1 := Lib.hid (bstep B0.out hb)
  clear hb
  go_wp2_with fail
  go_at_call 22; refine (RAC.out _ B1.out).mono ?_; rintro e w2 ⟨rfl, hb⟩
  have B2 := Lib.hid (bstep B1.out hb)
  clear hb
  go_wp2_with fail
  go_at_call 23; refine (MEC.out _ B2.out).mono ?_; rintro e w3 ⟨rfl, hb⟩
  have B3 := Lib.hid (bstep B2.out hb)
  clear hb
  go_wp2_with fail
  go_at_call 24; refine (MAC.out _ B3.out).mono ?_; rintro e w4 ⟨rfl, hb⟩
  have B4 := Lib.hid (bstep B3.out hb)
  clear hb
  go_wp2_with fail
  go_at_call 25; refine (NO.out _ B4.out).mono ?_; rintro e w5 ⟨rfl, hb⟩
  have B5 := Lib.hid (bstep B4.out hb)
  clear hb
  go_wp2_with fail
  go_at_call 22; refine (RAC.out _ B5.out).mono ?_; rintro e w6 ⟨rfl, hb⟩
  have B6 := Lib.hid (bstep B5.out hb)
  clear hb
  go_wp2_with fail
  go_at_call 11; refine (C.out.fx _).mono ?_; rintro e w9 ⟨rfl, hb⟩
  have B9 := Lib.hid (bstep B6.out hb)
  clear hb
  go_wp2_with fail
  go_ret
  exact ⟨rfl, B9.out⟩

set_option maxHeartbeats 4000000 in
set_option maxRecDepth 100000 in
theorem both_no2 (A1 A2 A3 A4 : Option Addr) (n1 n2 n3 n4 c1 c2 c3 c4 : Nat) (a b S : List Tr) (L : List Vr) (w : World)
    (C : Hid (BC a b S L (.slice A1 n1 c1) (.slice A2 n2 c2) (.slice A3 n3 c3) (.slice A4 n4 c4) w))
    (GA : Hid (Calls Try.prog 20 #[.slice A1 n1 c1] w fun e w' => e = .returned (.bool false) ∧ w = w'))
    (GB : Hid (Calls Try.prog 20 #[.slice A2 n2 c2] w fun e w' => e = .returned (.bool false) ∧ w = w'))
    (GS : Hid (Calls Try.prog 20 #[.slice A3 n3 c3] w fun e w' => e = .returned (.bool false) ∧ w = w'))
    (GL : Hid (Calls Try.prog 16 #[.slice A4 n4 c4] w fun e w' => e = .returned (.bool false) ∧ w = w'))
    (ha : wishB a = true) (hb : wishB b = false) :
    Calls Try.prog 5 #[.slice A1 n1 c1, .slice A2 n2 c2, .slice A3 n3 c3, .slice A4 n4 c4] w fun e w' => e = .returned (.bool true) ∧ Below w.heap.size w w' := by
  have WAc := C.out.wa
  rw [ha] at WAc
  have WAC := Lib.hid WAc
  clear WAc
  have RAc := C.out.ra
  rw [ha] at RAc
  have RAC := Lib.hid RAc
  clear RAc
  have RBc := C.out.rb
  rw [hb] at RBc
  have RBC := Lib.hid RBc
  clear RBc
  have MEc := C.out.me
  have MEC := Lib.hid MEc
  clear MEc
  have MAc := C.out.ma
  have MAC := Lib.hid MAc
  clear MAc
  have NO := Lib.hid (C.out.no (by rw [ha, hb]; rfl))
  generalize meetsB S a = p at MEC MAC
  clear ha hb
  go_enter Try.func5, Try.ntmps5
  go_wp2_with fail
  go_at_call 20; refine GA.out.mono ?_; rintro e w1 ⟨rfl, rfl⟩
  go_wp2_with fail
  go_at_call 20; refine GB.out.mono ?_; rintro e w1 ⟨rfl, rfl⟩
  go_wp2_with fail
  go_at_call 20; refine GS.out.mono ?_; rintro e w1 ⟨rfl, rfl⟩
  go_wp2_with fail
  go_at_call 16; refine GL.out.mono ?_; rintro e w1 ⟨rfl, rfl⟩
  go_wp2_with fail
  have B0 := Lib.hid (Below.refl w.heap.size w)
  go_at_call 21; refine (WAC.out _ B0.out).mono ?_; rintro e w1 ⟨rfl, hb⟩
  have B1 := Lib.hid (bstep B0.out hb)
  clear hb
  go_wp2_with fail
  go_at_call 22; refine (RAC.out _ B1.out).mono ?_; rintro e w2 ⟨rfl, hb⟩
  have B2 := Lib.hid (bstep B1.out hb)
  clear hb
  go_wp2_with fail
  go_at_call 23; refine (MEC.out _ B2.out).mono ?_; rintro e w3 ⟨rfl, hb⟩
  have B3 := Lib.hid (bstep B2.out hb)
  clear hb
  go_wp2_with fail
  go_at_call 24; refine (MAC.out _ B3.out).mono ?_; rintro e w4 ⟨rfl, hb⟩
  have B4 := Lib.hid (bstep B3.out hb)
  clear hb
  go_wp2_with fail
  go_at_call 25; refine (NO.out _ B4.out).mono ?_; rintro e w5 ⟨rfl, hb⟩
  have B5 := Lib.hid (bstep B4.out hb)
  clear hb
  go_wp2_with fail
  go_at_call 22; refine (RAC.out _ B5.out).mono ?_; rintro e w6 ⟨rfl, hb⟩
  have B6 := Lib.hid (bstep B5.out hb)
  clear hb
  go_wp2_with fail
  go_at_call 22; refine (RBC.out _ B6.out).mono ?_; rintro e w7 ⟨rfl, hb⟩
  have B7 := Lib.hid (bstep B6.out hb)
  clear hb
  go_wp2_with fail
  go_at_call 11; refine (C.out.fx _).mono ?_; rintro e w9 ⟨rfl, hb⟩
  have B9 := Lib.hid (bstep B7.out hb)
  clear hb
  go_wp2_with fail
  go_ret
  exact ⟨rfl, B9.out⟩

set_option maxHeartbeats 4000000 in
set_option maxRecDepth 100000 in
theorem both_plain (A1 A2 A3 A4 : Option Addr) (n1 n2 n3 n4 c1 c2 c3 c4 : Nat) (a b S : List Tr) (L : List Vr) (w : World)
    (C : Hid (BC a b S L (.slice A1 n1 c1) (.slice A2 n2 c2) (.slice A3 n3 c3) (.slice A4 n4 c4) w))
    (GA : Hid (Calls Try.prog 20 #[.slice A1 n1 c1] w fun e w' => e = .returned (.bool false) ∧ w = w'))
    (GB : Hid (Calls Try.prog 20 #[.slice A2 n2 c2] w fun e w' => e = .returned (.bool false) ∧ w = w'))
    (GS : Hid (Calls Try.prog 20 #[.slice A3 n3 c3] w fun e w' => e = .returned (.bool false) ∧ w = w'))
    (GL : Hid (Calls Try.prog 16 #[.slice A4 n4 c4] w fun e w' => e = .returned (.bool false) ∧ w = w'))
    (ha : wishB a = true) (hb : wishB b = true) (hc : clashB a b = false) (hn1 : n1 = a.length) (hn2 : n2 = b.length) (hm1 : n1 ≤ 50) (hm2 : n2 ≤ 50) (FA : Hid (FitT a)) (FB : Hid (FitT b)) :
    Calls Try.prog 5 #[.slice A1 n1 c1, .slice A2 n2 c2, .slice A3 n3 c3, .slice A4 n4 c4] w fun e w' => e = .returned (.bool true) ∧ Below w.heap.size w w' := by
  have WAc := C.out.wa
  rw [ha] at WAc
  have WAC := Lib.hid WAc
  clear WAc
  have RAc := C.out.ra
  rw [ha] at RAc
  have RAC := Lib.hid RAc
  clear RAc
  have RBc := C.out.rb
  rw [hb] at RBc
  have RBC := Lib.hid RBc
  clear RBc
  have MEc := C.out.me
  have MEC := Lib.hid MEc
  clear MEc
  have MAc := C.out.ma
  have MAC := Lib.hid MAc
  clear MAc
  have AB := Lib.hid (C.out.ab ha hb)
  have BA := Lib.hid (C.out.ba ha hb)
  have HA := Lib.hid ha
  have HB := Lib.hid hb
  have HC := Lib.hid hc
  obtain ⟨p, hp⟩ : ∃ p, p = meetsB S a := ⟨_, rfl⟩
  rw [← hp] at MEC MAC
  have HP := Lib.hid hp
  have HN1 := Lib.hid hn1
  have HN2 := Lib.hid hn2
  have z1 : (n1 : Int) ≤ 50 := by omega
  have z2 : (n2 : Int) ≤ 50 := by omega
  clear ha hb hc hp hn1 hn2 hm1 hm2
  go_enter Try.func5, Try.ntmps5
  go_wp2_with fail
  go_at_call 20; refine GA.out.mono ?_; rintro e w1 ⟨rfl, rfl⟩
  go_wp2_with fail
  go_at_call 20; refine GB.out.mono ?_; rintro e w1 ⟨rfl, rfl⟩
  go_wp2_with fail
  go_at_call 20; refine GS.out.mono ?_; rintro e w1 ⟨rfl, rfl⟩
  go_wp2_with fail
  go_at_call 16; refine GL.out.mono ?_; rintro e w1 ⟨rfl, rfl⟩
  go_wp2_with fail
  have B0 := Lib.hid (Below.refl w.heap.size w)
  go_at_call 21; refine (WAC.out _ B0.out).mono ?_; rintro e w1 ⟨rfl, hb⟩
  have B1 := Lib.hid (bstep B0.out hb)
  clear hb
  go_wp2_with fail
  go_at_call 22; refine (RAC.out _ B1.out).mono ?_; rintro e w2 ⟨rfl, hb⟩
  have B2 := Lib.hid (bstep B1.out hb)
  clear hb
  go_wp2_with fail
  go_at_call 23; refine (MEC.out _ B2.out).mono ?_; rintro e w3 ⟨rfl, hb⟩
  have B3 := Lib.hid (bstep B2.out hb)
  clear hb
  go_wp2_with fail
  go_at_call 24; refine (MAC.out _ B3.out).mono ?_; rintro e w4 ⟨rfl, hb⟩
  have B4 := Lib.hid (bstep B3.out hb)
  clear hb
  go_wp2_with fail
  go_at_call 25; refine (AB.out _ B4.out).mono ?_; rintro e w5 ⟨hb, hends⟩
  have B5 := Lib.hid (bstep B4.out hb)
  rcases hends with ⟨hcf, _⟩ | ⟨_, A5, k5, c5, C5, rfl, hk, hpm, hsr, hrow⟩
  · exfalso; rw [HC.out] at hcf; cases hcf
  clear hb
  have R5 := Lib.hid hrow
  have K5 := Lib.hid hk
  have P5 := Lib.hid hpm
  have S5 := Lib.hid hsr
  clear hrow hk hpm hsr
  go_wp2_with fail
  go_at_call 22; refine (RAC.out _ B5.out).mono ?_; rintro e w6 ⟨rfl, hb⟩
  have B6 := Lib.hid (bstep B5.out hb)
  have X6 := Lib.hid hb
  clear hb
  go_wp2_with fail
  go_at_call 22; refine (RBC.out _ B6.out).mono ?_; rintro e w7 ⟨rfl, hb⟩
  have B7 := Lib.hid (bstep B6.out hb)
  have X7 := Lib.hid hb
  clear hb
  go_wp2_with fail
  go_at_call 25; refine (BA.out _ B7.out).mono ?_; rintro e w8 ⟨hb, hends⟩
  have B8 := Lib.hid (bstep B7.out hb)
  have X8 := Lib.hid hb
  rcases hends with ⟨hcf, _⟩ | ⟨_, A8, k8, c8, C8, rfl, hk, hpm, hsr, hrow⟩
  · exfalso; rw [clash_comm, HC.out] at hcf; cases hcf
  clear hb
  have R8 := Lib.hid hrow
  have P8 := Lib.hid hpm
  have S8 := Lib.hid hsr
  have RA := Lib.hid ((wish_iff a).1 HA.out)
  have RB := Lib.hid ((wish_iff b).1 HB.out)
  have M5 : Hid (∀ x, x ∈ C5 ↔ x ∈ a ∨ x ∈ b) := Lib.hid (fun x => by rw [P5.out.mem_iff]; exact both_mem a b HC.out x)
  have M8 : Hid (∀ x, x ∈ C8 ↔ x ∈ a ∨ x ∈ b) := Lib.hid (fun x => by rw [P8.out.mem_iff, both_mem b a (by rw [clash_comm]; exact HC.out)]; exact Or.comm)
  have U5 := Lib.hid (rising_of C5 _ P5.out (both_apart a b RA.out.2.apart RB.out.2.apart) S5.out)
  have U8 := Lib.hid (rising_of C8 _ P8.out (both_apart b a RB.out.2.apart RA.out.2.apart) S8.out)
  obtain rfl : C5 = C8 := rising_unique U5.out U8.out (fun x => by rw [M5.out, M8.out])
  obtain rfl : k5 = k8 := by rw [K5.out, hk]
  clear hrow hk hpm hsr
  have K50 : Hid (k5 ≤ 100) := Lib.hid (by
    have h1 : (bothL a b).length ≤ a.length + b.length := addTo_len a b b.length
    have h2 := P5.out.length_eq
    have h3 := K5.out
    have h4 := HN1.out
    have h5 := HN2.out
    omega)
  have D58 := Lib.hid (bstep (bstep X6.out X7.out) X8.out)
  have R5' := Lib.hid (R5.out.below D58.out.size D58.out)
  have SM := Lib.hid (rsame_yes A5 A8 C5 k5 c5 c8 w8 R5'.out R8.out K5.out (by have := K50.out; unfold maxLen; omega))
  have WC : Hid (wishB C5 = true) := Lib.hid ((wish_iff C5).2 ⟨fun t ht => by
    rcases (M5.out t).1 ht with h | h
    · exact RA.out.1 t h
    · exact RB.out.1 t h, U5.out⟩)
  have MB2 := Lib.hid (meets_both S a b C5 M5.out)
  go_wp2_with fail
  go_at_call 26; refine SM.out.mono ?_; rintro e w9 ⟨rfl, hb⟩
  have B9 := Lib.hid (bstep B8.out hb)
  have D9 := Lib.hid (bstep D58.out hb)
  clear hb
  go_wp2_with fail
  go_at_call 11; refine (C.out.fx _).mono ?_; rintro e w10 ⟨rfl, hb⟩
  have B10 := Lib.hid (bstep B9.out hb)
  have D10 := Lib.hid (bstep D9.out hb)
  clear hb
  have RC := Lib.hid (rwish_any A5 C5 k5 c5 w10 (R5.out.below D10.out.size D10.out) K5.out (by have := K50.out; unfold maxLen; omega) (by
    intro i
    rcases Nat.lt_or_ge i C5.length with h | h
    · rw [getD_eq C5 i h]
      rcases (M5.out _).1 (List.getElem_mem h) with h1 | h1
      · obtain ⟨j, hj, e⟩ := List.getElem_of_mem h1
        rw [← e, ← getD_eq a j hj]; exact FA.out j
      · obtain ⟨j, hj, e⟩ := List.getElem_of_mem h1
        rw [← e, ← getD_eq b j hj]; exact FB.out j
    · rw [List.getD_eq_getElem?_getD, List.getElem?_eq_none h]; simp [tr0]))
  rw [WC.out] at RC
  go_wp2_with fail
  go_at_call 22; refine RC.out.mono ?_; rintro e w11 ⟨rfl, hb⟩
  have B11 := Lib.hid (bstep B10.out hb)
  have D11 := Lib.hid (bstep D10.out hb)
  clear hb
  have MC := Lib.hid (C.out.mc A5 C5 k5 c5 w11 B11.out (R5.out.below D11.out.size D11.out) K5.out (by have := K50.out; omega))
  rw [MB2.out, ← HP.out] at MC
  have MBC := C.out.mb
  obtain ⟨q, hq⟩ : ∃ q, q = meetsB S b := ⟨_, rfl⟩
  rw [← hq] at MC MBC
  have MBC := Lib.hid MBC
  clear hq
  go_wp2_with fail
  go_at_call 24; refine MC.out.mono ?_; rintro e w12 ⟨rfl, hb⟩
  have B12 := Lib.hid (bstep B11.out hb)
  clear hb HP
  cases p with
  | false =>
    go_wp2_with fail
    go_at_call 24; refine (MAC.out _ B12.out).mono ?_; rintro e w13 ⟨rfl, hb⟩
    have B13 := Lib.hid (bstep B12.out hb)
    clear hb
    go_wp2_with fail
    go_ret
    exact ⟨rfl, B13.out⟩
  | true =>
    go_wp2_with fail
    go_at_call 24; refine (MAC.out _ B12.out).mono ?_; rintro e w13 ⟨rfl, hb⟩
    have B13 := Lib.hid (bstep B12.out hb)
    clear hb
    go_wp2_with fail
    go_at_call 24; refine (MBC.out _ B13.out).mono ?_; rintro e w14 ⟨rfl, hb⟩
    have B14 := Lib.hid (bstep B13.out hb)
    clear hb
    go_wp2_with fail
    go_ret
    first | exact ⟨rfl, B14.out⟩ | exact ⟨ret_bool (by cases q <;> rfl), B14.out⟩

set_option maxHeartbeats 4000000 in
set_option maxRecDepth 100000 in
theorem both_clash (A1 A2 A3 A4 : Option Addr) (n1 n2 n3 n4 c1 c2 c3 c4 : Nat) (a b S : List Tr) (L : List Vr) (w : World)
    (C : Hid (BC a b S L (.slice A1 n1 c1) (.slice A2 n2 c2) (.slice A3 n3 c3) (.slice A4 n4 c4) w))
    (GA : Hid (Calls Try.prog 20 #[.slice A1 n1 c1] w fun e w' => e = .returned (.bool false) ∧ w = w'))
    (GB : Hid (Calls Try.prog 20 #[.slice A2 n2 c2] w fun e w' => e = .returned (.bool false) ∧ w = w'))
    (GS : Hid (Calls Try.prog 20 #[.slice A3 n3 c3] w fun e w' => e = .returned (.bool false) ∧ w = w'))
    (GL : Hid (Calls Try.prog 16 #[.slice A4 n4 c4] w fun e w' => e = .returned (.bool false) ∧ w = w'))
    (ha : wishB a = true) (hb : wishB b = true) (hc : clashB a b = true) (hn1 : n1 = a.length) (hn2 : n2 = b.length) (hm1 : n1 ≤ 50) (hm2 : n2 ≤ 50) (h1 : TRow w w.heap.size A1 a) (h2 : TRow w w.heap.size A2 b) :
    Calls Try.prog 5 #[.slice A1 n1 c1, .slice A2 n2 c2, .slice A3 n3 c3, .slice A4 n4 c4] w fun e w' => e = .returned (.bool true) ∧ Below w.heap.size w w' := by
  have WAc := C.out.wa
  rw [ha] at WAc
  have WAC := Lib.hid WAc
  clear WAc
  have RAc := C.out.ra
  rw [ha] at RAc
  have RAC := Lib.hid RAc
  clear RAc
  have RBc := C.out.rb
  rw [hb] at RBc
  have RBC := Lib.hid RBc
  clear RBc
  have MEc := C.out.me
  have MEC := Lib.hid MEc
  clear MEc
  have MAc := C.out.ma
  have MAC := Lib.hid MAc
  clear MAc
  have AB := Lib.hid (C.out.ab ha hb)
  have BA := Lib.hid (C.out.ba ha hb)
  have HA := Lib.hid ha
  have HB := Lib.hid hb
  have HC := Lib.hid hc
  obtain ⟨p, hp⟩ : ∃ p, p = meetsB S a := ⟨_, rfl⟩
  rw [← hp] at MEC MAC
  have HP := Lib.hid hp
  have HN1 := Lib.hid hn1
  have HN2 := Lib.hid hn2
  have z1 : (n1 : Int) ≤ 50 := by omega
  have z2 : (n2 : Int) ≤ 50 := by omega
  have H1 := Lib.hid h1
  have H2 := Lib.hid h2
  clear h1 h2
  clear ha hb hc hp hn1 hn2 hm1 hm2
  go_enter Try.func5, Try.ntmps5
  go_wp2_with fail
  go_at_call 20; refine GA.out.mono ?_; rintro e w1 ⟨rfl, rfl⟩
  go_wp2_with fail
  go_at_call 20; refine GB.out.mono ?_; rintro e w1 ⟨rfl, rfl⟩
  go_wp2_with fail
  go_at_call 20; refine GS.out.mono ?_; rintro e w1 ⟨rfl, rfl⟩
  go_wp2_with fail
  go_at_call 16; refine GL.out.mono ?_; rintro e w1 ⟨rfl, rfl⟩
  go_wp2_with fail
  have B0 := Lib.hid (Below.refl w.heap.size w)
  go_at_call 21; refine (WAC.out _ B0.out).mono ?_; rintro e w1 ⟨rfl, hb⟩
  have B1 := Lib.hid (bstep B0.out hb)
  clear hb
  go_wp2_with fail
  go_at_call 22; refine (RAC.out _ B1.out).mono ?_; rintro e w2 ⟨rfl, hb⟩
  have B2 := Lib.hid (bstep B1.out hb)
  clear hb
  go_wp2_with fail
  go_at_call 23; refine (MEC.out _ B2.out).mono ?_; rintro e w3 ⟨rfl, hb⟩
  have B3 := Lib.hid (bstep B2.out hb)
  clear hb
  go_wp2_with fail
  go_at_call 24; refine (MAC.out _ B3.out).mono ?_; rintro e w4 ⟨rfl, hb⟩
  have B4 := Lib.hid (bstep B3.out hb)
  clear hb
  go_wp2_with fail
  go_at_call 25; refine (AB.out _ B4.out).mono ?_; rintro e w5 ⟨hb, hends⟩
  have B5 := Lib.hid (bstep B4.out hb)
  rcases hends with ⟨_, rfl⟩ | ⟨hcf, _⟩
  rotate_left
  · exfalso; rw [HC.out] at hcf; cases hcf
  clear hb
  go_wp2_with fail
  go_at_call 22; refine (RAC.out _ B5.out).mono ?_; rintro e w6 ⟨rfl, hb⟩
  have B6 := Lib.hid (bstep B5.out hb)
  have X6 := Lib.hid hb
  clear hb
  go_wp2_with fail
  go_at_call 22; refine (RBC.out _ B6.out).mono ?_; rintro e w7 ⟨rfl, hb⟩
  have B7 := Lib.hid (bstep B6.out hb)
  have X7 := Lib.hid hb
  clear hb
  go_wp2_with fail
  go_at_call 25; refine (BA.out _ B7.out).mono ?_; rintro e w8 ⟨hb, hends⟩
  have B8 := Lib.hid (bstep B7.out hb)
  have X8 := Lib.hid hb
  rcases hends with ⟨_, rfl⟩ | ⟨hcf, _⟩
  rotate_left
  · exfalso; rw [clash_comm, HC.out] at hcf; cases hcf
  clear hb
  have SM := Lib.hid (rsame_yes none none [] 0 0 0 w8 (.inl rfl) (.inl rfl) rfl (by unfold maxLen; omega))
  go_wp2_with fail
  go_at_call 26; refine SM.out.mono ?_; rintro e w9 ⟨rfl, hb⟩
  have B9 := Lib.hid (bstep B8.out hb)
  clear hb SM
  go_wp2_with fail
  go_loopw [13, 15, 17, 90] (fun u _ _ v wr => ∃ i : Nat, ∃ f : Bool, v = .int .i64 i ∧ u = .bool f ∧ i ≤ n1 ∧ Below w.heap.size w wr ∧ (a.take i).any (fun x => b.any (clash2 x)) = f) (fun _ _ _ v _ => n1 - (intOf v).toNat)
  case atStart => exact ⟨0, false, rfl, rfl, Nat.zero_le _, B9.out, rfl⟩
  case round =>
    obtain ⟨i, f, rfl, rfl, hi, hbel, hf⟩ := hrel
    obtain ⟨wo, rfl⟩ : ∃ wo : World, wo = wr := ⟨_, rfl⟩
    have J := Lib.hid hbel
    have HF := Lib.hid hf
    clear hbel hf B9
    by_cases hlt : i < n1
    · have hlt' : (i : Int) < (n1 : Int) := by omega
      have IA : Hid (i < a.length) := Lib.hid (by have := HN1.out; omega)
      rcases H1.out with h' | ⟨g, o, rfl, hg, hcell⟩
      · exfalso; have := IA.out; rw [h'] at this; simp at this
      obtain ⟨e5, e6⟩ := hcell i IA.out
      replace e5 := (J.out.cell (p := ⟨g, o + i * 2, none⟩) hg).trans e5
      replace e6 := (J.out.cell (p := ⟨g, o + i * 2 + 1, none⟩) hg).trans e6
      have NX := Lib.hid (anyT_snoc (fun x => b.any (clash2 x)) a i IA.out)
      rw [HF.out] at NX
      obtain ⟨X, hX⟩ : ∃ X, X = a.getD i tr0 := ⟨_, rfl⟩
      rw [← hX] at e5 e6 NX
      obtain ⟨x, y⟩ := X
      clear hX hcell HF
      simp only at e5 e6
      obtain ⟨c0, c1⟩ := boxT_cells wo x y
      have CB := Lib.hid (And.intro c0 c1)
      have BX := Lib.hid ((Below.refl wo.heap.size wo).alloc (Nat.le_refl _) (.cells #[.string x, .string y] 33))
      have SX : Hid (wo.heap.size < (boxT wo x y).heap.size) := Lib.hid (by simp)
      have JB := Lib.hid (bstep J.out BX.out)
      go_wp2_with fail
      clear c0 c1 e5 e6
      go_loopw [13, 17, 96] (fun u _ v wq => ∃ j : Nat, ∃ f' : Bool, v = .int .i64 j ∧ u = .bool f' ∧ j ≤ n2 ∧ Below (boxT wo x y).heap.size (boxT wo x y) wq ∧ (f || (b.take j).any (clash2 (x, y))) = f') (fun _ _ v _ => n2 - (intOf v).toNat)
      case atStart => exact ⟨0, f, rfl, rfl, Nat.zero_le _, Below.refl _ _, by simp⟩
      case round =>
        obtain ⟨j, f', rfl, rfl, hj, hbel2, hf2⟩ := hrel
        have J2 := Lib.hid hbel2
        have HF2 := Lib.hid hf2
        clear hbel2 hf2
        have JW := Lib.hid (bstep JB.out J2.out)
        by_cases hjm : j < n2
        · have hjm' : (j : Int) < (n2 : Int) := by omega
          have IB : Hid (j < b.length) := Lib.hid (by have := HN2.out; omega)
          rcases H2.out with h' | ⟨d, q, rfl, hd, hcd⟩
          · exfalso; have := IB.out; rw [h'] at this; simp at this
          obtain ⟨t5, t6⟩ := hcd j IB.out
          replace t5 := (JW.out.cell (p := ⟨d, q + j * 2, none⟩) hd).trans t5
          replace t6 := (JW.out.cell (p := ⟨d, q + j * 2 + 1, none⟩) hd).trans t6
          have NY : Hid ((f || (b.take (j + 1)).any (clash2 (x, y))) = (f' || clash2 (x, y) (b.getD j tr0))) := Lib.hid (by rw [anyT_snoc _ b j IB.out, ← Bool.or_assoc, HF2.out])
          obtain ⟨Y, hY⟩ : ∃ X, X = b.getD j tr0 := ⟨_, rfl⟩
          rw [← hY] at t5 t6 NY
          obtain ⟨s, t⟩ := Y
          have CE : Hid (clash2 (x, y) (s, t) = (eqB x s && !eqB y t)) := Lib.hid rfl
          clear hY hcd
          simp only at t5 t6
          obtain ⟨d0, d1⟩ := boxT_cells wr s t
          have BY := Lib.hid ((Below.refl wr.heap.size wr).alloc (Nat.le_refl _) (.cells #[.string s, .string t] 33))
          have BE := Lib.hid (J2.out.trans (BY.out.mono J2.out.size))
          have c0 := (BE.out.cell (p := ⟨wo.heap.size, 0, none⟩) SX.out).trans CB.out.1
          have c1 := (BE.out.cell (p := ⟨wo.heap.size, 1, none⟩) SX.out).trans CB.out.2
          cases f' with
          | true =>
            have F := Lib.hid (show (f || (b.take (j + 1)).any (clash2 (x, y))) = true from by rw [NY.out]; rfl)
            go_wp2_with fail
            go_roundw
            case rel => exact ⟨j + 1, true, by go_num, rfl, by omega, BE.out, F.out⟩
            case measure => simp [intOf]; omega
          | false =>
            cases hq : (x.toList == s.toList) with
            | false =>
              have F := Lib.hid (show (f || (b.take (j + 1)).any (clash2 (x, y))) = false from by rw [NY.out, CE.out]; unfold eqB; rw [hq]; rfl)
              go_wp2_with fail
              go_roundw
              case rel => exact ⟨j + 1, false, by go_num, rfl, by omega, BE.out, F.out⟩
              case measure => simp [intOf]; omega
            | true =>
              cases hr : (y.toList == t.toList) with
              | true =>
                have hr' := bneB' y t _ hr
                simp only [Bool.not_true] at hr'
                have F := Lib.hid (show (f || (b.take (j + 1)).any (clash2 (x, y))) = false from by rw [NY.out, CE.out]; unfold eqB; rw [hq, hr]; rfl)
                go_wp2_with fail
                go_roundw
                case rel => exact ⟨j + 1, false, by go_num, rfl, by omega, BE.out, F.out⟩
                case measure => simp [intOf]; omega
              | false =>
                have hr' := bneB' y t _ hr
                simp only [Bool.not_false] at hr'
                have F := Lib.hid (show (f || (b.take (j + 1)).any (clash2 (x, y))) = true from by rw [NY.out, CE.out]; unfold eqB; rw [hq, hr]; rfl)
                go_wp2_with fail
                go_roundw
                case rel => exact ⟨j + 1, true, by go_num, rfl, by omega, BE.out, F.out⟩
                case measure => simp [intOf]; omega
        · obtain rfl : j = n2 := by omega
          have F : Hid ((a.take (i + 1)).any (fun x => b.any (clash2 x)) = f') := Lib.hid (by
            rw [NX.out]
            have h := HF2.out
            rwa [HN2.out, List.take_of_length_le (Nat.le_refl _)] at h)
          go_wp2_with fail
          go_roundw
          case rel => exact ⟨i + 1, f', by go_num, rfl, by omega, JW.out, F.out⟩
          case measure => simp [intOf]; omega
    · obtain rfl : i = n1 := by omega
      have hft : f = true := by
        have h := HF.out
        rw [HN1.out, List.take_of_length_le (Nat.le_refl _)] at h
        rw [← h]; exact two_of a b HC.out
      subst hft
      have MYC := C.out.may
      have LGC := C.out.leg
      have MBC := C.out.mb
      have NOB : Hid (mayL L = true → legalB L S = true → p = true → meetsB S b = true → False) := Lib.hid (fun h1 h2 h3 h4 => no_both L S a b h1 h2 (by rw [← HP.out]; exact h3) h4 HC.out)
      obtain ⟨m, hm⟩ : ∃ q, q = mayL L := ⟨_, rfl⟩
      obtain ⟨l, hl⟩ : ∃ q, q = legalB L S := ⟨_, rfl⟩
      obtain ⟨q, hq⟩ : ∃ q, q = meetsB S b := ⟨_, rfl⟩
      rw [← hm] at MYC NOB
      rw [← hl] at LGC NOB
      rw [← hq] at MBC NOB
      have MYC := Lib.hid MYC
      have LGC := Lib.hid LGC
      have MBC := Lib.hid MBC
      clear hm hl hq HP
      go_wp2_with fail
      go_at_call 11; refine (C.out.fx _).mono ?_; rintro e w10 ⟨rfl, hb⟩
      have B10 := Lib.hid (bstep J.out hb)
      clear hb
      cases m with
      | false =>
        go_wp2_with fail
        go_at_call 18; refine (MYC.out _ B10.out).mono ?_; rintro e w11 ⟨rfl, hb⟩
        have B11 := Lib.hid (bstep B10.out hb)
        clear hb
        go_wp2_with fail
        go_ret
        exact ⟨rfl, B11.out⟩
      | true =>
        go_wp2_with fail
        go_at_call 18; refine (MYC.out _ B10.out).mono ?_; rintro e w11 ⟨rfl, hb⟩
        have B11 := Lib.hid (bstep B10.out hb)
        clear hb
        go_wp2_with fail
        go_at_call 19; refine (LGC.out _ B11.out).mono ?_; rintro e w12 ⟨rfl, hb⟩
        have B12 := Lib.hid (bstep B11.out hb)
        clear hb
        cases l with
        | false =>
          go_wp2_with fail
          go_ret
          exact ⟨rfl, B12.out⟩
        | true =>
          go_wp2_with fail
          go_at_call 24; refine (MAC.out _ B12.out).mono ?_; rintro e w13 ⟨rfl, hb⟩
          have B13 := Lib.hid (bstep B12.out hb)
          clear hb
          cases p with
          | false =>
            go_wp2_with fail
            go_ret
            exact ⟨rfl, B13.out⟩
          | true =>
            cases q with
            | true => exact (NOB.out (by simp) (by simp) (by simp) (by simp)).elim
            | false =>
              go_wp2_with fail
              go_at_call 24; refine (MBC.out _ B13.out).mono ?_; rintro e w14 ⟨rfl, hb⟩
              have B14 := Lib.hid (bstep B13.out hb)
              clear hb
              go_wp2_with fail
              go_ret
              exact ⟨rfl, B14.out⟩


end Go.Proofs.Ytbffcehaednefaa.Variant
