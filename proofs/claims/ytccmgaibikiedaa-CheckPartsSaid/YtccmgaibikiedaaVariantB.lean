/- Variants: which texts are names and values, both sides. -/
import Derived.Test.YtccmgaibikiedaaVariantName
import Derived.WalkLawsBesides
import Derived.Outline
namespace Go.Proofs.Ytccmgaibikiedaa.Variant
set_option linter.unusedVariables false
open Go.RowKit

abbrev Bs := List UInt8
def low (c : UInt8) : Bool := isL (c.toNat : Int)
def dig (c : UInt8) : Bool := isD (c.toNat : Int)
def okc (c : UInt8) : Bool := okB (c.toNat : Int)
def nameB (l : Bs) : Bool := decide (0 < l.length) && decide (l.length ≤ 24) && low (l.headD 0) && l.all okc
def digitsB (l : Bs) : Bool := l.all dig && decide (0 < l.length)
def valueB (l : Bs) : Bool := nameB l || (digitsB l && decide (l.length ≤ 3))

theorem ret_bool {a b : Bool} (h : a = b) : Ending.returned (.bool a) = .returned (.bool b) := by rw [h]
theorem take_snoc (s : ByteArray) (k : Nat) (h : k < s.size) : s.data.toList.take (k + 1) = s.data.toList.take k ++ [s[k]] := by
  rw [List.take_succ_eq_append_getElem (by simpa using h)]; rfl
theorem all_snoc (p : UInt8 → Bool) (s : ByteArray) (k : Nat) (h : k < s.size) (ha : (s.data.toList.take k).all p = true) (hp : p s[k] = true) : (s.data.toList.take (k + 1)).all p = true := by
  rw [take_snoc s k h, List.all_append, ha]; simp [hp]
theorem not_all (p : UInt8 → Bool) (s : ByteArray) (k : Nat) (h : k < s.size) (hp : p s[k] = false) : s.data.toList.all p = false := by
  rw [List.all_eq_false]
  exact ⟨s[k], List.getElem_mem (l := s.data.toList) (by simpa using h), by simp [hp]⟩
theorem len_list (s : ByteArray) : s.data.toList.length = s.size := by simp
theorem take_all (s : ByteArray) : s.data.toList.take s.size = s.data.toList := List.take_of_length_le (by simp)
theorem empty_toList (s : ByteArray) : s.toList.isEmpty = s.data.toList.isEmpty := by rw [show s.toList = s.data.toList from ByteArray.toList_eq s]
theorem nil_of (s : ByteArray) (h : s.size = 0) : s.data.toList = [] := List.eq_nil_of_length_eq_zero (by simpa using h)
theorem nil_iff (s : ByteArray) : s.data.toList = [] ↔ s.size = 0 :=
  ⟨fun e => by have h1 := len_list s; rw [e] at h1; simpa using h1.symm, nil_of s⟩
theorem ne_isEmpty (s : ByteArray) (h : 0 < s.size) : s.toList.isEmpty = false := by
  rw [empty_toList]
  cases e : s.data.toList.isEmpty with
  | false => rfl
  | true => have := (nil_iff s).1 (List.isEmpty_iff.1 e); omega
theorem head_eq (s : ByteArray) (h : 0 < s.size) : s.data.toList.headD 0 = s[0] := by
  have h0 : 0 < s.data.toList.length := by simpa using h
  rw [List.headD_eq_head?_getD, List.head?_eq_getElem?, List.getElem?_eq_getElem h0]; rfl
theorem nameB_iff (s : ByteArray) : NameOk s ↔ nameB s.data.toList = true := by
  unfold nameB NameOk
  rw [len_list]
  constructor
  · rintro ⟨h0, h1, h2, h3⟩
    have e : s.data.toList.all okc = true := List.all_eq_true.2 fun x hx => by
      obtain ⟨i, hi, rfl⟩ := List.getElem_of_mem hx
      exact h3 i (by simpa using hi)
    rw [head_eq s h0, e]
    simp [h0, h1, low, h2 h0]
  · intro h
    simp only [Bool.and_eq_true, decide_eq_true_eq] at h
    obtain ⟨⟨⟨h0, h1⟩, h2⟩, h3⟩ := h
    rw [head_eq s h0] at h2
    refine ⟨h0, h1, fun _ => h2, fun i hi => ?_⟩
    exact List.all_eq_true.1 h3 s[i] (List.getElem_mem (l := s.data.toList) (by simpa using hi))
theorem name_says (s : ByteArray) (w : World) : Calls Try.prog 93 #[.string s] w fun e w' => e = .returned (.bool (nameB s.data.toList)) ∧ w = w' :=
  (name_any s w).mono fun e w' ⟨b, he, hb, hw⟩ => ⟨by rw [he]; exact ret_bool (Bool.eq_iff_iff.2 (hb.trans (nameB_iff s))), hw⟩
theorem name_bad (s : ByteArray) (k : Nat) (h : k < s.size) (hp : okc s[k] = false) : nameB s.data.toList = false := by
  unfold nameB; rw [not_all okc s k h hp]; simp
theorem name_head (s : ByteArray) (h : 0 < s.size) (hp : low s[0] = false) : nameB s.data.toList = false := by
  unfold nameB; rw [head_eq s h, hp]; simp
theorem name_long (s : ByteArray) (h : 24 < s.size) : nameB s.data.toList = false := by
  unfold nameB; rw [len_list]; have : decide (s.size ≤ 24) = false := by simp; omega
  rw [this]; simp
theorem name_good (s : ByteArray) (h : 0 < s.size) (h1 : s.size ≤ 24) (hp : low s[0] = true) (ha : s.data.toList.all okc = true) : nameB s.data.toList = true := by
  unfold nameB; rw [len_list, head_eq s h, hp, ha]; simp [h, h1]

set_option maxHeartbeats 2000000 in
theorem rname_any (s : ByteArray) (w : World) : Calls Try.prog 82 #[.string s] w fun e w' => e = .returned (.bool (nameB s.data.toList)) ∧ w = w' := by
  by_cases h0 : 0 < s.size
  · have he := ne_isEmpty s h0
    by_cases h1 : s.size ≤ 24
    · have hz1 : (s.size : Int) ≤ 24 := by omega
      have hz0 : 0 < (s.size : Int) := by omega
      by_cases a1 : 97 ≤ (s[0].toNat : Int)
      · by_cases a2 : (s[0].toNat : Int) ≤ 122
        · have hp : low s[0] = true := by simp [low, isL]; omega
          have GOOD := Lib.hid (name_good s h0 h1 hp)
          clear hp
          go_enter Try.func82, Try.ntmps82
          go_wp2_with fail
          clear a1 a2
          go_loopw [3, 4] (fun v _ wr => ∃ k : Nat, v = .int .i64 k ∧ k ≤ s.size ∧ wr = w ∧ (s.data.toList.take k).all okc = true) (fun v _ _ => s.size - (intOf v).toNat)
          case atStart => exact ⟨0, rfl, Nat.zero_le _, rfl, rfl⟩
          case round =>
            obtain ⟨k, rfl, hk, rfl, hall⟩ := hrel
            have HALL := Lib.hid hall
            clear hall
            by_cases hlt : k < s.size
            · have hlt' : (k : Int) < (s.size : Int) := by omega
              by_cases c1 : 97 ≤ (s[k].toNat : Int)
              · by_cases c2 : (s[k].toNat : Int) ≤ 122
                · skip
                  have hp : okc s[k] = true := by simp [okc, okB, isL, isD]; omega
                  have NEXT := Lib.hid (all_snoc okc s k hlt HALL.out hp)
                  clear hp
                  go_wp2_with fail
                  go_roundw
                  case rel => exact ⟨k + 1, by go_num, by omega, trivial, NEXT.out⟩
                  case measure => simp [intOf]; omega
                · have d2 : 122 < (s[k].toNat : Int) := by omega
                  have d3 : 48 ≤ (s[k].toNat : Int) := by omega
                  have d4 : ¬ (s[k].toNat : Int) ≤ 57 := by omega
                  have d5 : ((s[k].toNat : Int) == 45) = false := by simp; omega
                  have hp : okc s[k] = false := by simp [okc, okB, isL, isD]; omega
                  have BAD := Lib.hid (name_bad s k hlt hp)
                  clear hp
                  go_wp2_with fail
                  go_ret
                  exact ⟨ret_bool BAD.out.symm, rfl⟩
              · have d1 : (s[k].toNat : Int) < 97 := by omega
                by_cases c3 : 48 ≤ (s[k].toNat : Int)
                · by_cases c4 : (s[k].toNat : Int) ≤ 57
                  · skip
                    have hp : okc s[k] = true := by simp [okc, okB, isL, isD]; omega
                    have NEXT := Lib.hid (all_snoc okc s k hlt HALL.out hp)
                    clear hp
                    go_wp2_with fail
                    go_roundw
                    case rel => exact ⟨k + 1, by go_num, by omega, trivial, NEXT.out⟩
                    case measure => simp [intOf]; omega
                  · have d4 : 57 < (s[k].toNat : Int) := by omega
                    have d5 : ((s[k].toNat : Int) == 45) = false := by simp; omega
                    have hp : okc s[k] = false := by simp [okc, okB, isL, isD]; omega
                    have BAD := Lib.hid (name_bad s k hlt hp)
                    clear hp
                    go_wp2_with fail
                    go_ret
                    exact ⟨ret_bool BAD.out.symm, rfl⟩
                · have d3 : (s[k].toNat : Int) < 48 := by omega
                  by_cases c5 : (s[k].toNat : Int) = 45
                  · have d5 : ((s[k].toNat : Int) == 45) = true := by simp [c5]
                    have hp : okc s[k] = true := by simp [okc, okB, isL, isD]; omega
                    have NEXT := Lib.hid (all_snoc okc s k hlt HALL.out hp)
                    clear hp c5
                    go_wp2_with fail
                    go_roundw
                    case rel => exact ⟨k + 1, by go_num, by omega, trivial, NEXT.out⟩
                    case measure => simp [intOf]; omega
                  · have d5 : ((s[k].toNat : Int) == 45) = false := by simp [c5]
                    have hp : okc s[k] = false := by simp [okc, okB, isL, isD]; omega
                    have BAD := Lib.hid (name_bad s k hlt hp)
                    clear hp c5
                    go_wp2_with fail
                    go_ret
                    exact ⟨ret_bool BAD.out.symm, rfl⟩
            · have e : k = s.size := by omega
              subst e
              have F := Lib.hid (GOOD.out (by rw [← take_all s]; exact HALL.out))
              go_wp2_with fail
              go_ret
              exact ⟨ret_bool F.out.symm, rfl⟩
        · have d2 : 122 < (s[0].toNat : Int) := by omega
          have BAD := Lib.hid (name_head s h0 (by simp [low, isL]; omega))
          go_enter Try.func82, Try.ntmps82
          go_wp2_with fail
          go_ret
          exact ⟨ret_bool BAD.out.symm, rfl⟩
      · have d1 : (s[0].toNat : Int) < 97 := by omega
        have BAD := Lib.hid (name_head s h0 (by simp [low, isL]; omega))
        go_enter Try.func82, Try.ntmps82
        go_wp2_with fail
        go_ret
        exact ⟨ret_bool BAD.out.symm, rfl⟩
    · have hz : (24 : Int) < (s.size : Int) := by omega
      have BAD := Lib.hid (name_long s (by omega))
      go_enter Try.func82, Try.ntmps82
      go_wp2_with fail
      go_ret
      exact ⟨ret_bool BAD.out.symm, rfl⟩
  · obtain rfl : s = ByteArray.empty := ByteArray.size_eq_zero_iff.1 (by omega)
    go_enter Try.func82, Try.ntmps82
    go_wp2_with fail
    go_ret
    exact ⟨ret_bool rfl, rfl⟩

set_option maxHeartbeats 400000 in
theorem digits_any (s : ByteArray) (w : World) (hz : s.size ≤ maxLen) : Calls Try.prog 76 #[.string s] w fun e w' => e = .returned (.bool (digitsB s.data.toList)) ∧ w = w' := by
  unfold maxLen at hz
  go_enter Try.func76, Try.ntmps76
  go_wp2_with fail
  go_loopw [3] (fun v wr => ∃ k : Nat, v = .int .i64 k ∧ k ≤ s.size ∧ wr = w ∧ (s.data.toList.take k).all dig = true) (fun v _ => s.size - (intOf v).toNat)
  case atStart => exact ⟨0, rfl, Nat.zero_le _, rfl, rfl⟩
  case round =>
    obtain ⟨k, rfl, hk, rfl, hall⟩ := hrel
    have HALL := Lib.hid hall
    clear hall
    by_cases hlt : k < s.size
    · have hlt' : (k : Int) < (s.size : Int) := by omega
      by_cases h1 : 48 ≤ (s[k].toNat : Int)
      · by_cases h2 : (s[k].toNat : Int) ≤ 57
        · have hp : dig s[k] = true := by simp [dig, isD]; omega
          have NEXT := Lib.hid (all_snoc dig s k hlt HALL.out hp)
          clear hp
          go_wp2_with fail
          go_roundw
          case rel => exact ⟨k + 1, by go_num, by omega, trivial, NEXT.out⟩
          case measure => simp [intOf]; omega
        · have h3 : 57 < (s[k].toNat : Int) := by omega
          have hp : dig s[k] = false := by simp [dig, isD]; omega
          have BAD := Lib.hid (not_all dig s k hlt hp)
          clear hp h2
          go_wp2_with fail
          go_ret
          exact ⟨by rw [digitsB, BAD.out]; rfl, rfl⟩
      · have h3 : (s[k].toNat : Int) < 48 := by omega
        have hp : dig s[k] = false := by simp [dig, isD]; omega
        have BAD := Lib.hid (not_all dig s k hlt hp)
        clear hp h1
        go_wp2_with fail
        go_ret
        exact ⟨by rw [digitsB, BAD.out]; rfl, rfl⟩
    · have e : k = s.size := by omega
      subst e
      have E : Hid ((!s.toList.isEmpty) = decide (0 < s.data.toList.length)) := Lib.hid (by rw [empty_toList]; cases s.data.toList <;> simp)
      go_wp2_with fail
      go_ret
      exact ⟨ret_bool (by rw [digitsB, ← E.out, ← take_all s, HALL.out]; rfl), rfl⟩

theorem num_len (s : ByteArray) (h : s.size = 0 ∨ 3 < s.size) : (digitsB s.data.toList && decide (s.data.toList.length ≤ 3)) = false := by
  rw [len_list]
  rcases h with h | h
  · unfold digitsB; rw [len_list, h]; simp
  · have : decide (s.size ≤ 3) = false := by simp; omega
    rw [this]; simp
set_option maxHeartbeats 1000000 in
theorem isNumber_any (s : ByteArray) (w : World) : Calls Try.prog 108 #[.string s] w fun e w' => e = .returned (.bool (digitsB s.data.toList && decide (s.data.toList.length ≤ 3))) ∧ w = w' := by
  by_cases h0 : 0 < s.size
  · by_cases h3 : s.size ≤ 3
    · have z0 : ((s.size : Int) == 0) = false := by
        cases hb : ((s.size : Int) == 0) with
        | false => rfl
        | true => have := eq_of_beq hb; omega
      have z3 : (s.size : Int) ≤ 3 := by omega
      have E : Hid (decide (0 < s.data.toList.length) = true ∧ decide (s.data.toList.length ≤ 3) = true) := Lib.hid (by rw [len_list]; simp [h0, h3])
      go_enter Try.func108, Try.ntmps108
      go_wp2_with fail
      go_loopw [3, 14] (fun _ v wr => ∃ k : Nat, v = .int .i64 k ∧ k ≤ s.size ∧ wr = w ∧ (s.data.toList.take k).all dig = true) (fun _ v _ => s.size - (intOf v).toNat)
      case atStart => exact ⟨0, rfl, Nat.zero_le _, rfl, rfl⟩
      case round =>
        obtain ⟨k, rfl, hk, rfl, hall⟩ := hrel
        have HALL := Lib.hid hall
        clear hall
        by_cases hlt : k < s.size
        · have hlt' : (k : Int) < (s.size : Int) := by omega
          cases hp : dig s[k] with
          | true =>
            have NEXT := Lib.hid (all_snoc dig s k hlt HALL.out hp)
            have DG := Lib.hid (show isD (s[k].toNat : Int) = true from hp)
            clear hp
            go_wp2_with (go_at_call 107; refine (digit_any _ _).mono ?_; rintro e w' ⟨rfl, rfl⟩; rw [DG.out])
            go_roundw
            case rel => exact ⟨k + 1, by go_num, by omega, trivial, NEXT.out⟩
            case measure => simp [intOf]; omega
          | false =>
            have BAD := Lib.hid (not_all dig s k hlt hp)
            have DG := Lib.hid (show isD (s[k].toNat : Int) = false from hp)
            clear hp
            go_wp2_with (go_at_call 107; refine (digit_any _ _).mono ?_; rintro e w' ⟨rfl, rfl⟩; rw [DG.out])
            go_ret
            exact ⟨ret_bool (by rw [digitsB, BAD.out]; rfl), rfl⟩
        · have e : k = s.size := by omega
          subst e
          go_wp2_with fail
          go_ret
          exact ⟨ret_bool (by rw [digitsB, E.out.1, E.out.2, ← take_all s, HALL.out]; rfl), rfl⟩
    · have z0 : ((s.size : Int) == 0) = false := by
        cases hb : ((s.size : Int) == 0) with
        | false => rfl
        | true => have := eq_of_beq hb; omega
      have z3 : 3 < (s.size : Int) := by omega
      have BAD := Lib.hid (num_len s (.inr (by omega)))
      go_enter Try.func108, Try.ntmps108
      go_wp2_with fail
      go_ret
      exact ⟨ret_bool BAD.out.symm, rfl⟩
  · obtain rfl : s = ByteArray.empty := ByteArray.size_eq_zero_iff.1 (by omega)
    go_enter Try.func108, Try.ntmps108
    go_wp2_with fail
    go_ret
    exact ⟨ret_bool rfl, rfl⟩

set_option maxHeartbeats 1000000 in
theorem value_any (s : ByteArray) (w : World) : Calls Try.prog 94 #[.string s] w fun e w' => e = .returned (.bool (valueB s.data.toList)) ∧ w = w' := by
  have N := Lib.hid (fun w => name_says s w)
  have U := Lib.hid (fun w => isNumber_any s w)
  unfold valueB
  generalize nameB s.data.toList = n at N ⊢
  generalize (digitsB s.data.toList && decide (s.data.toList.length ≤ 3)) = u at U ⊢
  go_enter Try.func94, Try.ntmps94
  cases n
  · go_wp2_with (first
      | (go_at_call 93; refine (N.out _).mono ?_; rintro e w' ⟨rfl, rfl⟩)
      | (go_at_call 108; refine (U.out _).mono ?_; rintro e w' ⟨rfl, rfl⟩))
    go_ret
    exact ⟨ret_bool (by simp), rfl⟩
  · go_wp2_with (first
      | (go_at_call 93; refine (N.out _).mono ?_; rintro e w' ⟨rfl, rfl⟩))
    go_ret
    exact ⟨ret_bool rfl, rfl⟩

set_option maxHeartbeats 1000000 in
theorem rvalue_any (s : ByteArray) (w : World) (hz : s.size ≤ maxLen) : Calls Try.prog 83 #[.string s] w fun e w' => e = .returned (.bool (valueB s.data.toList)) ∧ w = w' := by
  have N := Lib.hid (fun w => rname_any s w)
  have U := Lib.hid (fun w => digits_any s w hz)
  unfold valueB
  rw [len_list]
  have hz' : (s.size : Int) ≤ 9223372036854775807 := by unfold maxLen at hz; omega
  generalize nameB s.data.toList = n at N ⊢
  generalize digitsB s.data.toList = u at U ⊢
  go_enter Try.func83, Try.ntmps83
  cases n
  · cases u
    · go_wp2_with (first
        | (go_at_call 82; refine (N.out _).mono ?_; rintro e w' ⟨rfl, rfl⟩)
        | (go_at_call 76; refine (U.out _).mono ?_; rintro e w' ⟨rfl, rfl⟩))
      go_ret
      exact ⟨ret_bool rfl, rfl⟩
    · go_wp2_with (first
        | (go_at_call 82; refine (N.out _).mono ?_; rintro e w' ⟨rfl, rfl⟩)
        | (go_at_call 76; refine (U.out _).mono ?_; rintro e w' ⟨rfl, rfl⟩))
      go_ret
      exact ⟨ret_bool (by simp; omega), rfl⟩
  · go_wp2_with (first
      | (go_at_call 82; refine (N.out _).mono ?_; rintro e w' ⟨rfl, rfl⟩))
    go_ret
    exact ⟨ret_bool rfl, rfl⟩

end Go.Proofs.Ytccmgaibikiedaa.Variant
