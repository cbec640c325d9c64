/- Parts of versions: the program's and the document's small functions. -/
import Derived.Test.YtccmgaibikiedaaChecked
import Derived.Test.YtccmgaibikiedaaShelf
import Derived.Test.YtccmgaibikiedaaShelfV
import Derived.Test.YtccmgaibikiedaaVerMath
import Derived.WalkKit
import Derived.WalkSpells
import Derived.WalkLawsBesides
import Derived.Outline
import Derived.Lib.Hide
namespace Go.Proofs.Ytccmgaibikiedaa.Ver
set_option linter.unusedVariables false
open Go.RowKit

theorem ret_bool {a b : Bool} (h : a = b) : Ending.returned (.bool a) = .returned (.bool b) := by rw [h]
theorem ret_int {k : IntKind} {a b : Int} (h : a = b) : Ending.returned (.int k a) = .returned (.int k b) := by rw [h]
theorem take_snoc (s : ByteArray) (k : Nat) (h : k < s.size) : s.data.toList.take (k + 1) = s.data.toList.take k ++ [s[k]] := by
  rw [List.take_succ_eq_append_getElem (by simpa using h)]; rfl
theorem all_snoc (p : UInt8 → Bool) (s : ByteArray) (k : Nat) (h : k < s.size) (ha : (s.data.toList.take k).all p = true) (hp : p s[k] = true) : (s.data.toList.take (k + 1)).all p = true := by
  rw [take_snoc s k h, List.all_append, ha]; simp [hp]
theorem not_all (p : UInt8 → Bool) (s : ByteArray) (k : Nat) (h : k < s.size) (hp : p s[k] = false) : s.data.toList.all p = false := by
  rw [List.all_eq_false]
  exact ⟨s[k], List.getElem_mem (l := s.data.toList) (by simpa using h), by simp [hp]⟩
theorem len_list (s : ByteArray) : s.data.toList.length = s.size := by simp
theorem take_all (s : ByteArray) : s.data.toList.take s.size = s.data.toList := List.take_of_length_le (by simp)
theorem empty_toList (s : ByteArray) : s.toList.isEmpty = s.data.toList.isEmpty := by rw [Lib.toList_data]
theorem nil_of (s : ByteArray) (h : s.size = 0) : s.data.toList = [] := List.eq_nil_of_length_eq_zero (by simpa using h)
theorem nil_iff (s : ByteArray) : s.data.toList = [] ↔ s.size = 0 :=
  ⟨fun e => by have h1 := len_list s; rw [e] at h1; simpa using h1.symm, nil_of s⟩
theorem ne_isEmpty (s : ByteArray) (h : 0 < s.size) : s.data.toList.isEmpty = false := by
  cases e : s.data.toList.isEmpty with
  | false => rfl
  | true => have := (nil_iff s).1 (List.isEmpty_iff.1 e); omega

set_option maxHeartbeats 400000 in
theorem isWord_any (s : ByteArray) (w : World) (hs : s.size ≤ maxLen) : Calls Try.prog 88 #[.string s] w fun e w' => e = .returned (.bool (lettersP s.data.toList)) ∧ w = w' := by
  unfold maxLen at hs
  go_enter Try.func88, Try.ntmps88
  go_wp2_with fail
  go_loopw [3, 6] (fun _ v wr => ∃ k : Nat, v = .int .i64 k ∧ k ≤ s.size ∧ wr = w ∧ (s.data.toList.take k).all low = true) (fun _ v _ => s.size - (intOf v).toNat)
  case atStart => exact ⟨0, rfl, Nat.zero_le _, rfl, rfl⟩
  case round =>
    obtain ⟨k, rfl, hk, rfl, hall⟩ := hrel
    have HALL := Lib.hid hall
    clear hall
    by_cases hlt : k < s.size
    · have hlt' : (k : Int) < (s.size : Int) := by omega
      by_cases h1 : 97 ≤ (s[k].toNat : Int)
      · by_cases h2 : (s[k].toNat : Int) ≤ 122
        · have hp : low s[k] = true := by simp [low]; omega
          have NEXT := Lib.hid (all_snoc low s k hlt HALL.out hp)
          clear hp
          go_wp2_with fail
          go_roundw
          case rel => exact ⟨k + 1, by go_num, by omega, trivial, NEXT.out⟩
          case measure => simp [intOf]; omega
        · have h3 : 122 < (s[k].toNat : Int) := by omega
          have hp : low s[k] = false := by simp [low]; omega
          have BAD := Lib.hid (not_all low s k hlt hp)
          clear hp h2
          go_wp2_with fail
          go_ret
          exact ⟨by rw [lettersP, BAD.out]; rfl, rfl⟩
      · have h3 : (s[k].toNat : Int) < 97 := by omega
        have hp : low s[k] = false := by simp [low]; omega
        have BAD := Lib.hid (not_all low s k hlt hp)
        clear hp h1
        go_wp2_with fail
        go_ret
        exact ⟨by rw [lettersP, BAD.out]; rfl, rfl⟩
    · have e : k = s.size := by omega
      subst e
      go_wp2_with fail
      go_ret
      exact ⟨ret_bool (by rw [empty_toList, lettersP, ← take_all s, HALL.out, take_all s]; rfl), rfl⟩

set_option maxHeartbeats 400000 in
theorem letters_any (s : ByteArray) (w : World) (hs : s.size ≤ maxLen) : Calls Try.prog 75 #[.string s] w fun e w' => e = .returned (.bool (lettersP s.data.toList)) ∧ w = w' := by
  unfold maxLen at hs
  go_enter Try.func75, Try.ntmps75
  go_wp2_with fail
  go_loopw [3] (fun v wr => ∃ k : Nat, v = .int .i64 k ∧ k ≤ s.size ∧ wr = w ∧ (s.data.toList.take k).all low = true) (fun v _ => s.size - (intOf v).toNat)
  case atStart => exact ⟨0, rfl, Nat.zero_le _, rfl, rfl⟩
  case round =>
    obtain ⟨k, rfl, hk, rfl, hall⟩ := hrel
    have HALL := Lib.hid hall
    clear hall
    by_cases hlt : k < s.size
    · have hlt' : (k : Int) < (s.size : Int) := by omega
      by_cases h1 : 97 ≤ (s[k].toNat : Int)
      · by_cases h2 : (s[k].toNat : Int) ≤ 122
        · have hp : low s[k] = true := by simp [low]; omega
          have NEXT := Lib.hid (all_snoc low s k hlt HALL.out hp)
          clear hp
          go_wp2_with fail
          go_roundw
          case rel => exact ⟨k + 1, by go_num, by omega, trivial, NEXT.out⟩
          case measure => simp [intOf]; omega
        · have h3 : 122 < (s[k].toNat : Int) := by omega
          have hp : low s[k] = false := by simp [low]; omega
          have BAD := Lib.hid (not_all low s k hlt hp)
          clear hp h2
          go_wp2_with fail
          go_ret
          exact ⟨by rw [lettersP, BAD.out]; rfl, rfl⟩
      · have h3 : (s[k].toNat : Int) < 97 := by omega
        have hp : low s[k] = false := by simp [low]; omega
        have BAD := Lib.hid (not_all low s k hlt hp)
        clear hp h1
        go_wp2_with fail
        go_ret
        exact ⟨by rw [lettersP, BAD.out]; rfl, rfl⟩
    · have e : k = s.size := by omega
      subst e
      go_wp2_with fail
      go_ret
      exact ⟨ret_bool (by rw [empty_toList, lettersP, ← take_all s, HALL.out, take_all s]; rfl), rfl⟩

set_option maxHeartbeats 400000 in
theorem digits_any (s : ByteArray) (w : World) (hs : s.size ≤ maxLen) : Calls Try.prog 76 #[.string s] w fun e w' => e = .returned (.bool (digitsP s.data.toList)) ∧ w = w' := by
  unfold maxLen at hs
  go_enter Try.func76, Try.ntmps76
  go_wp2_with fail
  go_loopw [3] (fun v wr => ∃ k : Nat, v = .int .i64 k ∧ k ≤ s.size ∧ wr = w ∧ (s.data.toList.take k).all dig = true) (fun v _ => s.size - (intOf v).toNat)
  case atStart => exact ⟨0, rfl, Nat.zero_le _, rfl, rfl⟩
  case round =>
    obtain ⟨k, rfl, hk, rfl, hall⟩ := hrel
    have HALL := Lib.hid hall
    clear hall
    by_cases hlt : k < s.size
    · have hlt' : (k : Int) < (s.size : Int) := by omega
      by_cases h1 : 48 ≤ (s[k].toNat : Int)
      · by_cases h2 : (s[k].toNat : Int) ≤ 57
        · have hp : dig s[k] = true := by simp [dig]; omega
          have NEXT := Lib.hid (all_snoc dig s k hlt HALL.out hp)
          clear hp
          go_wp2_with fail
          go_roundw
          case rel => exact ⟨k + 1, by go_num, by omega, trivial, NEXT.out⟩
          case measure => simp [intOf]; omega
        · have h3 : 57 < (s[k].toNat : Int) := by omega
          have hp : dig s[k] = false := by simp [dig]; omega
          have BAD := Lib.hid (not_all dig s k hlt hp)
          clear hp h2
          go_wp2_with fail
          go_ret
          exact ⟨by rw [digitsP, BAD.out]; rfl, rfl⟩
      · have h3 : (s[k].toNat : Int) < 48 := by omega
        have hp : dig s[k] = false := by simp [dig]; omega
        have BAD := Lib.hid (not_all dig s k hlt hp)
        clear hp h1
        go_wp2_with fail
        go_ret
        exact ⟨by rw [digitsP, BAD.out]; rfl, rfl⟩
    · have e : k = s.size := by omega
      subst e
      go_wp2_with fail
      go_ret
      exact ⟨ret_bool (by rw [empty_toList, digitsP, ← take_all s, HALL.out, take_all s]; rfl), rfl⟩

/-! ### the program's numbers -/
theorem head_eq (s : ByteArray) (h : 0 < s.size) : s.data.toList.headD 0 = s[0] := by
  have h0 : 0 < s.data.toList.length := by simpa using h
  rw [List.headD_eq_head?_getD, List.head?_eq_getElem?, List.getElem?_eq_getElem h0]; rfl
theorem val_next (s : ByteArray) (k : Nat) (h : k < s.size) (h1 : 48 ≤ (s[k].toNat : Int)) : (valOf (s.data.toList.take (k + 1)) : Int) = (valOf (s.data.toList.take k) : Int) * 10 + ((s[k].toNat : Int) - 48) := by
  rw [take_snoc s k h, val_snoc]; omega
theorem num_big (s : ByteArray) (k : Nat) (h : 999999999 < valOf (s.data.toList.take k)) : progNum s.data.toList = false := by
  have h1 := val_mono (s.data.toList.take k) (s.data.toList.drop k)
  rw [List.take_append_drop] at h1
  have : decide (valOf s.data.toList ≤ 999999999) = false := by simp; omega
  simp [progNum, this]
theorem num_bad (s : ByteArray) (h : s.data.toList.all dig = false) : progNum s.data.toList = false := by simp only [progNum, h]; simp
theorem num_nought (s : ByteArray) (h : 1 < s.size) (h0 : s.data.toList.headD 0 = 48) : progNum s.data.toList = false := by
  have : decide (1 < s.data.toList.length) = true := by simp; omega
  simp only [progNum, this, h0]; simp
theorem num_good (s : ByteArray) (h : 0 < s.size) (h0 : s.size = 1 ∨ s.data.toList.headD 0 ≠ 48) (ha : s.data.toList.all dig = true) (hv : (valOf s.data.toList : Int) ≤ 999999999) : progNum s.data.toList = true := by
  have e := ne_isEmpty s h
  have e1 : decide (valOf s.data.toList ≤ 999999999) = true := by simp; omega
  have e2 : (decide (1 < s.data.toList.length) && s.data.toList.headD 0 == 48) = false := by
    rcases h0 with h0 | h0
    · have : decide (1 < s.data.toList.length) = false := by simp; omega
      rw [this]; rfl
    · have : (s.data.toList.headD 0 == 48) = false := by simpa using h0
      rw [this]; simp
  simp only [progNum, e, e1, e2, ha]; rfl

set_option maxHeartbeats 1000000 in
theorem isNumber_loop (s : ByteArray) (w : World) (hs : s.size ≤ maxLen) (h : 0 < s.size) (h0 : s.size = 1 ∨ s[0] ≠ 48) : Calls Try.prog 89 #[.string s] w fun e w' => e = .returned (.bool (progNum s.data.toList)) ∧ w = w' := by
  have GOOD : Hid ((s.data.toList.all dig = true) → (valOf s.data.toList : Int) ≤ 999999999 → progNum s.data.toList = true) := Lib.hid (num_good s h (by rw [head_eq s h]; exact h0))
  unfold maxLen at hs
  have he : s.toList.isEmpty = false := (empty_toList s).trans (ne_isEmpty s h)
  have h0' : s.size = 1 ∨ (1 < (s.size : Int) ∧ ((s[0].toNat : Int) == 48) = false) := by
    rcases h0 with h0 | h0
    · exact .inl h0
    · by_cases h1 : s.size = 1
      · exact .inl h1
      · refine .inr ⟨by omega, ?_⟩
        cases hb : ((s[0].toNat : Int) == 48) with
        | false => rfl
        | true =>
          have := eq_of_beq hb
          exact absurd (by rw [← UInt8.toNat_inj]; simp; omega) h0
  clear h0
  have NEXTV : ∀ k, ∀ h : k < s.size, 48 ≤ (s[k].toNat : Int) → (valOf (s.data.toList.take (k + 1)) : Int) = (valOf (s.data.toList.take k) : Int) * 10 + ((s[k].toNat : Int) - 48) := val_next s
  have NEXTV := Lib.hid NEXTV
  have H0 : Hid (s.size = 1) ∨ (1 < (s.size : Int) ∧ ((s[0].toNat : Int) == 48) = false) := h0'
  clear h0'
  rcases H0 with h1 | ⟨h1, h2⟩
  · have h1' : (s.size : Int) ≤ 1 := by have := h1.out; omega
    clear h1
    go_enter Try.func89, Try.ntmps89
    go_wp2_with fail
    go_loopw [3, 4, 19] (fun n _ v wr => ∃ k : Nat, v = .int .i64 k ∧ k ≤ s.size ∧ wr = w ∧ (s.data.toList.take k).all dig = true ∧ n = .int .i64 (valOf (s.data.toList.take k)) ∧ (valOf (s.data.toList.take k) : Int) ≤ 999999999) (fun _ _ v _ => s.size - (intOf v).toNat)
    case atStart => exact ⟨0, rfl, Nat.zero_le _, rfl, rfl, rfl, by simp [valOf]⟩
    case round =>
      obtain ⟨k, rfl, hk, rfl, hall, rfl, hv⟩ := hrel
      have HALL := Lib.hid hall
      clear hall
      have hv0 : 0 ≤ (valOf (s.data.toList.take k) : Int) := by omega
      by_cases hlt : k < s.size
      · have hlt' : (k : Int) < (s.size : Int) := by omega
        by_cases h1 : 48 ≤ (s[k].toNat : Int)
        · by_cases h2 : (s[k].toNat : Int) ≤ 57
          · have hp : dig s[k] = true := by simp [dig]; omega
            have NEXT := Lib.hid (all_snoc dig s k hlt HALL.out hp)
            have NV := Lib.hid (NEXTV.out k hlt h1)
            have BIG := Lib.hid (num_big s (k + 1))
            clear hp
            obtain ⟨N, hN⟩ : ∃ N : Nat, N = valOf (s.data.toList.take k) := ⟨_, rfl⟩
            rw [← hN] at hv hv0 NV ⊢
            have HN := Lib.hid hN
            clear hN
            by_cases hbig : 999999999 < (N : Int) * 10 + ((s[k].toNat : Int) - 48)
            · go_wp2_with fail
              go_ret
              exact ⟨ret_bool (BIG.out (by have := NV.out; omega)).symm, rfl⟩
            · have hbig' : (N : Int) * 10 + ((s[k].toNat : Int) - 48) ≤ 999999999 := by omega
              clear hbig
              go_wp2_with fail
              go_roundw
              case rel => exact ⟨k + 1, by go_num, by omega, trivial, NEXT.out, by rw [NV.out], by rw [NV.out]; exact hbig'⟩
              case measure => simp [intOf]; omega
          · have h3 : 57 < (s[k].toNat : Int) := by omega
            have hp : dig s[k] = false := by simp [dig]; omega
            have BAD := Lib.hid (num_bad s (not_all dig s k hlt hp))
            clear hp h2
            go_wp2_with fail
            go_ret
            exact ⟨ret_bool BAD.out.symm, rfl⟩
        · have h3 : (s[k].toNat : Int) < 48 := by omega
          have hp : dig s[k] = false := by simp [dig]; omega
          have BAD := Lib.hid (num_bad s (not_all dig s k hlt hp))
          clear hp h1
          go_wp2_with fail
          go_ret
          exact ⟨ret_bool BAD.out.symm, rfl⟩
      · have e : k = s.size := by omega
        subst e
        have F := Lib.hid (GOOD.out (by rw [← take_all s]; exact HALL.out) (by rw [← take_all s]; exact hv))
        go_wp2_with fail
        go_ret
        exact ⟨ret_bool F.out.symm, rfl⟩
  · go_enter Try.func89, Try.ntmps89
    go_wp2_with fail
    go_loopw [3, 4, 19] (fun n _ v wr => ∃ k : Nat, v = .int .i64 k ∧ k ≤ s.size ∧ wr = w ∧ (s.data.toList.take k).all dig = true ∧ n = .int .i64 (valOf (s.data.toList.take k)) ∧ (valOf (s.data.toList.take k) : Int) ≤ 999999999) (fun _ _ v _ => s.size - (intOf v).toNat)
    case atStart => exact ⟨0, rfl, Nat.zero_le _, rfl, rfl, rfl, by simp [valOf]⟩
    case round =>
      obtain ⟨k, rfl, hk, rfl, hall, rfl, hv⟩ := hrel
      have HALL := Lib.hid hall
      clear hall
      have hv0 : 0 ≤ (valOf (s.data.toList.take k) : Int) := by omega
      by_cases hlt : k < s.size
      · have hlt' : (k : Int) < (s.size : Int) := by omega
        by_cases h1 : 48 ≤ (s[k].toNat : Int)
        · by_cases h2 : (s[k].toNat : Int) ≤ 57
          · have hp : dig s[k] = true := by simp [dig]; omega
            have NEXT := Lib.hid (all_snoc dig s k hlt HALL.out hp)
            have NV := Lib.hid (NEXTV.out k hlt h1)
            have BIG := Lib.hid (num_big s (k + 1))
            clear hp
            obtain ⟨N, hN⟩ : ∃ N : Nat, N = valOf (s.data.toList.take k) := ⟨_, rfl⟩
            rw [← hN] at hv hv0 NV ⊢
            have HN := Lib.hid hN
            clear hN
            by_cases hbig : 999999999 < (N : Int) * 10 + ((s[k].toNat : Int) - 48)
            · go_wp2_with fail
              go_ret
              exact ⟨ret_bool (BIG.out (by have := NV.out; omega)).symm, rfl⟩
            · have hbig' : (N : Int) * 10 + ((s[k].toNat : Int) - 48) ≤ 999999999 := by omega
              clear hbig
              go_wp2_with fail
              go_roundw
              case rel => exact ⟨k + 1, by go_num, by omega, trivial, NEXT.out, by rw [NV.out], by rw [NV.out]; exact hbig'⟩
              case measure => simp [intOf]; omega
          · have h3 : 57 < (s[k].toNat : Int) := by omega
            have hp : dig s[k] = false := by simp [dig]; omega
            have BAD := Lib.hid (num_bad s (not_all dig s k hlt hp))
            clear hp h2
            go_wp2_with fail
            go_ret
            exact ⟨ret_bool BAD.out.symm, rfl⟩
        · have h3 : (s[k].toNat : Int) < 48 := by omega
          have hp : dig s[k] = false := by simp [dig]; omega
          have BAD := Lib.hid (num_bad s (not_all dig s k hlt hp))
          clear hp h1
          go_wp2_with fail
          go_ret
          exact ⟨ret_bool BAD.out.symm, rfl⟩
      · have e : k = s.size := by omega
        subst e
        have F := Lib.hid (GOOD.out (by rw [← take_all s]; exact HALL.out) (by rw [← take_all s]; exact hv))
        go_wp2_with fail
        go_ret
        exact ⟨ret_bool F.out.symm, rfl⟩

set_option maxHeartbeats 400000 in
theorem isNumber_none (s : ByteArray) (w : World) (hs : s.size ≤ maxLen) (h : s.size = 0 ∨ (1 < s.size ∧ ∃ h : 0 < s.size, s[0] = 48)) : Calls Try.prog 89 #[.string s] w fun e w' => e = .returned (.bool (progNum s.data.toList)) ∧ w = w' := by
  unfold maxLen at hs
  rcases h with h | ⟨h1, h, h2⟩
  · obtain rfl : s = ByteArray.empty := ByteArray.size_eq_zero_iff.1 h
    have F : Hid (progNum ByteArray.empty.data.toList = false) := Lib.hid rfl
    go_enter Try.func89, Try.ntmps89
    go_wp2_with fail
    go_ret
    exact ⟨ret_bool F.out.symm, rfl⟩
  · have F := Lib.hid (num_nought s h1 (by rw [head_eq s h, h2]))
    have he : s.toList.isEmpty = false := (empty_toList s).trans (ne_isEmpty s h)
    have h1' : 1 < (s.size : Int) := by omega
    have h3 : ((s[0].toNat : Int) == 48) = true := by rw [h2]; rfl
    clear h2
    go_enter Try.func89, Try.ntmps89
    go_wp2_with fail
    go_ret
    exact ⟨ret_bool F.out.symm, rfl⟩

theorem isNumber_any (s : ByteArray) (w : World) (hs : s.size ≤ maxLen) : Calls Try.prog 89 #[.string s] w fun e w' => e = .returned (.bool (numP s.data.toList)) ∧ w = w' := by
  rw [← progNum_eq]
  by_cases h : 0 < s.size
  · by_cases h0 : s.size = 1 ∨ s[0] ≠ 48
    · exact isNumber_loop s w hs h h0
    · have h1 : s.size ≠ 1 := fun e => h0 (.inl e)
      have h2 : s[0] = 48 := Decidable.byContradiction fun e => h0 (.inr e)
      exact isNumber_none s w hs (.inr ⟨by omega, h, h2⟩)
  · exact isNumber_none s w hs (.inl (by omega))

end Go.Proofs.Ytccmgaibikiedaa.Ver
