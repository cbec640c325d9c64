/- Parts of versions, how two of them stand to each other, and the parts of a row. -/
import Derived.Test.YtccmgaibikiedaaVerWalkA
import Derived.Deep.QuietTactic
import Derived.BigQuiet
namespace Go.Proofs.Ytccmgaibikiedaa.Ver
set_option linter.unusedVariables false
open Go.RowKit

theorem eq48 (s : ByteArray) (h : 0 < s.size) : ((s[0].toNat : Int) != 48) = !(s.data.toList.headD 0 == 48) := by
  rw [head_eq s h]
  cases e : (s[0] == (48 : UInt8)) with
  | true => rw [eq_of_beq e]; rfl
  | false =>
    cases e2 : ((s[0].toNat : Int) == 48) with
    | true =>
      have := eq_of_beq e2
      have : s[0] = 48 := by rw [← UInt8.toNat_inj]; simp; omega
      rw [this] at e; cases e
    | false => simp [bne, e2]

set_option maxHeartbeats 400000 in
theorem part_any (s : ByteArray) (w : World) (hs : s.size ≤ maxLen) : Calls Try.prog 52 #[.string s] w fun e w' => e = .returned (.bool (partP s.data.toList)) ∧ w = w' := by
  have hm : (s.size : Int) ≤ 9223372036854775807 := by unfold maxLen at hs; omega
  have HS := Lib.hid hs
  clear hs
  by_cases h1 : lettersP s.data.toList = true
  · have F : Hid (partP s.data.toList = true) := Lib.hid (by simp [partP, h1])
    go_enter Try.func52, Try.ntmps52
    go_wp2_with (first | (go_at_call 75; refine (letters_any _ _ HS.out).mono ?_; rintro e w' ⟨rfl, rfl⟩) | fail)
    go_ret
    exact ⟨ret_bool F.out.symm, rfl⟩
  · have h1 : lettersP s.data.toList = false := by simpa using h1
    by_cases h2 : digitsP s.data.toList = true
    · have hp : 0 < s.size := by
        rcases Nat.eq_zero_or_pos s.size with h | h
        · rw [nil_of s h] at h2; cases h2
        · exact h
      have hz : 0 < (s.size : Int) := by omega
      by_cases h3 : (s.size : Int) ≤ 9
      · have e9 : decide (s.data.toList.length ≤ 9) = true := by simp; omega
        by_cases h4 : (s.toList == [48]) = true
        · have F : Hid (partP s.data.toList = true) := Lib.hid (by
            have : (s.data.toList == [48]) = true := by rw [← Lib.toList_data]; exact h4
            simp only [partP, numP, h1, h2, e9, this]; rfl)
          clear e9
          go_enter Try.func52, Try.ntmps52
          go_wp2_with (first | (go_at_call 75; refine (letters_any _ _ HS.out).mono ?_; rintro e w' ⟨rfl, rfl⟩) | (go_at_call 76; refine (digits_any _ _ HS.out).mono ?_; rintro e w' ⟨rfl, rfl⟩) | fail)
          go_ret
          exact ⟨ret_bool F.out.symm, rfl⟩
        · have h4 : (s.toList == [48]) = false := by simpa using h4
          have F : Hid (partP s.data.toList = ((s[0].toNat : Int) != 48)) := Lib.hid (by
            have : (s.data.toList == [48]) = false := by rw [← Lib.toList_data]; exact h4
            rw [eq48 s hp]
            simp only [partP, numP, h1, h2, e9, this]; simp)
          clear e9
          go_enter Try.func52, Try.ntmps52
          go_wp2_with (first | (go_at_call 75; refine (letters_any _ _ HS.out).mono ?_; rintro e w' ⟨rfl, rfl⟩) | (go_at_call 76; refine (digits_any _ _ HS.out).mono ?_; rintro e w' ⟨rfl, rfl⟩) | fail)
          go_ret
          exact ⟨ret_bool F.out.symm, rfl⟩
      · have h3' : 9 < (s.size : Int) := by omega
        have F : Hid (partP s.data.toList = false) := Lib.hid (by
          have : decide (s.data.toList.length ≤ 9) = false := by simp; omega
          simp only [partP, numP, h1, h2, this]; rfl)
        clear h3
        go_enter Try.func52, Try.ntmps52
        go_wp2_with (first | (go_at_call 75; refine (letters_any _ _ HS.out).mono ?_; rintro e w' ⟨rfl, rfl⟩) | (go_at_call 76; refine (digits_any _ _ HS.out).mono ?_; rintro e w' ⟨rfl, rfl⟩) | fail)
        go_ret
        exact ⟨ret_bool F.out.symm, rfl⟩
    · have h2 : digitsP s.data.toList = false := by simpa using h2
      have F : Hid (partP s.data.toList = false) := Lib.hid (by simp [partP, numP, h1, h2])
      go_enter Try.func52, Try.ntmps52
      go_wp2_with (first | (go_at_call 75; refine (letters_any _ _ HS.out).mono ?_; rintro e w' ⟨rfl, rfl⟩) | (go_at_call 76; refine (digits_any _ _ HS.out).mono ?_; rintro e w' ⟨rfl, rfl⟩) | fail)
      go_ret
      exact ⟨ret_bool F.out.symm, rfl⟩

set_option maxHeartbeats 400000 in
theorem rank_any (s : ByteArray) (w : World) (hs : s.size ≤ maxLen) : Calls Try.prog 102 #[.string s] w fun e w' => e = .returned (.int .i64 (rankV s.data.toList)) ∧ w = w' := by
  have HS := Lib.hid hs
  clear hs
  by_cases h0 : s.size = 0
  · have F : Hid ((rankV s.data.toList : Int) = 1) := Lib.hid (by rw [nil_of s h0]; rfl)
    have he : s.toList.isEmpty = true := by rw [empty_toList, nil_of s h0]; rfl
    clear h0
    go_enter Try.func102, Try.ntmps102
    go_wp2_with (first | (go_at_call 88; refine (isWord_any _ _ HS.out).mono ?_; rintro e w' ⟨rfl, rfl⟩) | fail)
    go_ret
    exact ⟨ret_int F.out.symm, rfl⟩
  · have hp : 0 < s.size := by omega
    have he : s.toList.isEmpty = false := by rw [empty_toList, ne_isEmpty s hp]
    have hn : s.data.toList ≠ [] := fun e => h0 ((nil_iff s).1 e)
    by_cases h1 : lettersP s.data.toList = true
    · have F : Hid ((rankV s.data.toList : Int) = 0) := Lib.hid (by simp [rankV, h1]; simpa using hn)
      clear h0 hn
      go_enter Try.func102, Try.ntmps102
      go_wp2_with (first | (go_at_call 88; refine (isWord_any _ _ HS.out).mono ?_; rintro e w' ⟨rfl, rfl⟩) | fail)
      go_ret
      exact ⟨ret_int F.out.symm, rfl⟩
    · have h1 : lettersP s.data.toList = false := by simpa using h1
      have F : Hid ((rankV s.data.toList : Int) = 2) := Lib.hid (by
        have : rankV s.data.toList = 2 := by simp only [rankV, if_neg hn, h1]; rfl
        rw [this]; rfl)
      clear h0 hn
      go_enter Try.func102, Try.ntmps102
      go_wp2_with (first | (go_at_call 88; refine (isWord_any _ _ HS.out).mono ?_; rintro e w' ⟨rfl, rfl⟩) | fail)
      go_ret
      exact ⟨ret_int F.out.symm, rfl⟩

theorem cmp_n (a b : Nat) : Lib.compareInt (a : Int) (b : Int) = cmpN a b := by
  unfold Lib.compareInt cmpN
  by_cases h1 : a < b
  · rw [if_pos (by omega), if_pos h1]
  · by_cases h2 : b < a
    · rw [if_neg (by omega), if_pos (by omega), if_neg h1, if_pos h2]
    · rw [if_neg (by omega), if_neg (by omega), if_neg h1, if_neg h2]
theorem rank_le (p : Bs) : rankV p ≤ 2 := by unfold rankV; split <;> (try split) <;> omega

set_option maxHeartbeats 1000000 in
theorem place_any (a b : ByteArray) (w : World) (ha : a.size ≤ maxLen) (hb : b.size ≤ maxLen) : Calls Try.prog 90 #[.string a, .string b] w fun e w' => e = .returned (.int .i64 (cmpPart a.data.toList b.data.toList)) ∧ w = w' := by
  have HA := Lib.hid ha
  have HB := Lib.hid hb
  have la := len_list a
  have lb := len_list b
  have CI := cmp_n (rankV a.data.toList) (rankV b.data.toList)
  have CL := cmp_n a.size b.size
  have hma : (a.size : Int) ≤ 9223372036854775807 := by unfold maxLen at ha; omega
  have hmb : (b.size : Int) ≤ 9223372036854775807 := by unfold maxLen at hb; omega
  clear ha hb
  by_cases hr : rankV a.data.toList = rankV b.data.toList
  · have hc : cmpN (rankV a.data.toList) (rankV b.data.toList) = 0 := by rw [hr]; simp [cmpN]
    have F0 : cmpPart a.data.toList b.data.toList = orI (cmpN (lenV a.data.toList) (lenV b.data.toList)) (Lib.compareBytes a.data.toList b.data.toList) := by
      rw [cmpPart, hc]; simp [orI]
    by_cases h2 : rankV a.data.toList = 2
    · have l1 : lenV a.data.toList = a.size := by rw [lenV, if_pos h2, la]
      have l2 : lenV b.data.toList = b.size := by rw [lenV, if_pos (by omega), lb]
      rw [l1, l2] at F0
      by_cases h3 : a.size = b.size
      · have hcl : cmpN a.size b.size = 0 := by rw [h3]; simp [cmpN]
        have F : Hid (cmpPart a.data.toList b.data.toList = Lib.compareBytes a.data.toList b.data.toList) := Lib.hid (by rw [F0, hcl]; simp [orI])
        have CI0 : Hid (Lib.compareInt (2 : Int) (2 : Int) = 0) := Lib.hid rfl
        have CL0 : Hid (Lib.compareInt (a.size : Int) (b.size : Int) = 0) := Lib.hid (by rw [CL, hcl])
        have R1 : Hid ((rankV a.data.toList : Int) = 2) := Lib.hid (by omega)
        have R2 : Hid ((rankV b.data.toList : Int) = 2) := Lib.hid (by omega)
        clear CI CL la lb hr hc F0 h2 l1 l2 h3 hcl
        go_enter Try.func90, Try.ntmps90
        go_wp2_with fail
        go_at_call 102; refine (rank_any _ _ HA.out).mono ?_; rintro e w' ⟨rfl, rfl⟩; rw [R1.out]
        go_wp2_with fail
        go_at_call 102; refine (rank_any _ _ HB.out).mono ?_; rintro e w' ⟨rfl, rfl⟩; rw [R2.out]
        go_wp2_with fail
        go_at_call 103; refine (Try.cmp_Compare_int _ _ _).mono ?_; rintro e w' ⟨rfl, rfl⟩; rw [CI0.out]
        go_wp2_with fail
        go_at_call 103; refine (Try.cmp_Compare_int _ _ _).mono ?_; rintro e w' ⟨rfl, rfl⟩; rw [CL0.out]
        go_wp2_with fail
        go_at_call 104; refine (Try.strings_Compare _ _ _).mono ?_; rintro e w' ⟨rfl, rfl⟩; rw [← F.out]
        go_wp2_with fail
        go_ret
        exact ⟨rfl, rfl⟩
      · have hcl : cmpN a.size b.size ≠ 0 := by unfold cmpN; split <;> (try split) <;> omega
        have F : Hid (cmpPart a.data.toList b.data.toList = cmpN a.size b.size) := Lib.hid (by rw [F0, orI, if_pos hcl])
        have CI0 : Hid (Lib.compareInt (2 : Int) (2 : Int) = 0) := Lib.hid rfl
        have CL0 : Hid (Lib.compareInt (a.size : Int) (b.size : Int) = cmpN a.size b.size) := Lib.hid CL
        have R1 : Hid ((rankV a.data.toList : Int) = 2) := Lib.hid (by omega)
        have R2 : Hid ((rankV b.data.toList : Int) = 2) := Lib.hid (by omega)
        have hne : (cmpN a.size b.size != 0) = true := by simpa using hcl
        clear CI CL la lb hr hc F0 h2 l1 l2 h3 hcl
        go_enter Try.func90, Try.ntmps90
        go_wp2_with fail
        go_at_call 102; refine (rank_any _ _ HA.out).mono ?_; rintro e w' ⟨rfl, rfl⟩; rw [R1.out]
        go_wp2_with fail
        go_at_call 102; refine (rank_any _ _ HB.out).mono ?_; rintro e w' ⟨rfl, rfl⟩; rw [R2.out]
        go_wp2_with fail
        go_at_call 103; refine (Try.cmp_Compare_int _ _ _).mono ?_; rintro e w' ⟨rfl, rfl⟩; rw [CI0.out]
        go_wp2_with fail
        go_at_call 103; refine (Try.cmp_Compare_int _ _ _).mono ?_; rintro e w' ⟨rfl, rfl⟩; rw [CL0.out]
        go_wp2_with fail
        go_ret
        exact ⟨ret_int F.out.symm, rfl⟩
    · have l1 : lenV a.data.toList = 0 := by rw [lenV, if_neg h2]
      have l2 : lenV b.data.toList = 0 := by rw [lenV, if_neg (by omega)]
      rw [l1, l2] at F0
      have F : Hid (cmpPart a.data.toList b.data.toList = Lib.compareBytes a.data.toList b.data.toList) := Lib.hid (by rw [F0]; simp [orI, cmpN])
      obtain ⟨r, hr1⟩ : ∃ r : Int, r = (rankV a.data.toList : Int) := ⟨_, rfl⟩
      have R1 : Hid ((rankV a.data.toList : Int) = r) := Lib.hid hr1.symm
      have R2 : Hid ((rankV b.data.toList : Int) = r) := Lib.hid (by omega)
      have CI0 : Hid (Lib.compareInt r r = 0) := Lib.hid (by simp [Lib.compareInt])
      have hne : (r == 2) = false := by
        cases e : (r == 2) with
        | false => rfl
        | true => have := eq_of_beq e; omega
      clear CI CL la lb hr hc F0 h2 l1 l2 hr1
      go_enter Try.func90, Try.ntmps90
      go_wp2_with fail
      go_at_call 102; refine (rank_any _ _ HA.out).mono ?_; rintro e w' ⟨rfl, rfl⟩; rw [R1.out]
      go_wp2_with fail
      go_at_call 102; refine (rank_any _ _ HB.out).mono ?_; rintro e w' ⟨rfl, rfl⟩; rw [R2.out]
      go_wp2_with fail
      go_at_call 103; refine (Try.cmp_Compare_int _ _ _).mono ?_; rintro e w' ⟨rfl, rfl⟩; rw [CI0.out]
      go_wp2_with fail
      go_at_call 104; refine (Try.strings_Compare _ _ _).mono ?_; rintro e w' ⟨rfl, rfl⟩; rw [← F.out]
      go_wp2_with fail
      go_ret
      exact ⟨rfl, rfl⟩
  · have hc : cmpN (rankV a.data.toList) (rankV b.data.toList) ≠ 0 := by unfold cmpN; split <;> (try split) <;> omega
    have F : Hid (cmpPart a.data.toList b.data.toList = cmpN (rankV a.data.toList) (rankV b.data.toList)) := Lib.hid (by rw [cmpPart, orI, if_pos hc])
    have hne : (cmpN (rankV a.data.toList) (rankV b.data.toList) != 0) = true := by simpa using hc
    have CI0 := Lib.hid CI
    clear CI CL la lb hr hc
    go_enter Try.func90, Try.ntmps90
    go_wp2_with fail
    go_at_call 102; refine (rank_any _ _ HA.out).mono ?_; rintro e w' ⟨rfl, rfl⟩
    go_wp2_with fail
    go_at_call 102; refine (rank_any _ _ HB.out).mono ?_; rintro e w' ⟨rfl, rfl⟩
    go_wp2_with fail
    go_at_call 103; refine (Try.cmp_Compare_int _ _ _).mono ?_; rintro e w' ⟨rfl, rfl⟩; rw [CI0.out]
    go_wp2_with fail
    go_ret
    exact ⟨ret_int F.out.symm, rfl⟩

end Go.Proofs.Ytccmgaibikiedaa.Ver
