/- Which texts are names: the program's function and the document's. -/
import Derived.Test.YtccmgaibikiedaaChecked
import Derived.WalkKit
import Derived.WalkSpells
import Derived.Lib.Hide
namespace Go.Proofs.Ytccmgaibikiedaa.Variant
set_option linter.unusedVariables false
set_option linter.unusedSimpArgs false
open Go.RowKit

def isL (c : Int) : Bool := decide (97 ≤ c) && decide (c ≤ 122)
def isD (c : Int) : Bool := decide (48 ≤ c) && decide (c ≤ 57)

set_option maxHeartbeats 400000 in
theorem letter_any (c : Int) (w : World) : Calls Try.prog 106 #[.int .u8 c] w fun e w' => e = .returned (.bool (isL c)) ∧ w = w' := by
  go_enter Try.func106, Try.ntmps106
  by_cases h1 : 97 ≤ c
  · by_cases h2 : c ≤ 122
    · have e : isL c = true := by simp [isL, h1, h2]
      rw [e]
      go_wp2_with fail
      all_goals (go_ret; exact ⟨rfl, rfl⟩)
    · have e : isL c = false := by simp [isL, h2]
      have h3 : 122 < c := by omega
      rw [e]
      go_wp2_with fail
      all_goals (go_ret; exact ⟨rfl, rfl⟩)
  · have e : isL c = false := by simp [isL, h1]
    have h3 : c < 97 := by omega
    rw [e]
    go_wp2_with fail
    all_goals (go_ret; exact ⟨rfl, rfl⟩)
set_option maxHeartbeats 400000 in
theorem digit_any (c : Int) (w : World) : Calls Try.prog 107 #[.int .u8 c] w fun e w' => e = .returned (.bool (isD c)) ∧ w = w' := by
  go_enter Try.func107, Try.ntmps107
  by_cases h1 : 48 ≤ c
  · by_cases h2 : c ≤ 57
    · have e : isD c = true := by simp [isD, h1, h2]
      rw [e]
      go_wp2_with fail
      all_goals (go_ret; exact ⟨rfl, rfl⟩)
    · have e : isD c = false := by simp [isD, h2]
      have h3 : 57 < c := by omega
      rw [e]
      go_wp2_with fail
      all_goals (go_ret; exact ⟨rfl, rfl⟩)
  · have e : isD c = false := by simp [isD, h1]
    have h3 : c < 48 := by omega
    rw [e]
    go_wp2_with fail
    all_goals (go_ret; exact ⟨rfl, rfl⟩)

def okB (c : Int) : Bool := isL c || isD c || decide (c = 45)
/-- a text is a name. -/
def NameOk (s : ByteArray) : Prop := 0 < s.size ∧ s.size ≤ 24 ∧ (∀ h : 0 < s.size, isL (s[0].toNat : Int) = true) ∧ ∀ i, ∀ h : i < s.size, okB (s[i].toNat : Int) = true

set_option maxHeartbeats 2000000 in
set_option maxRecDepth 100000 in
theorem name_any (s : ByteArray) (w : World) : Calls Try.prog 93 #[.string s] w fun e w' => ∃ b, e = .returned (.bool b) ∧ (b = true ↔ NameOk s) ∧ w = w' := by
  by_cases h0 : 0 < s.size
  · by_cases h1 : s.size ≤ 24
    · have hz : (0 : Int) < (s.size : Int) := by omega
      have hz1 : (s.size : Int) ≤ 24 := by omega
      by_cases hl : isL (s[0].toNat : Int) = true
      · have hN : NameOk s ↔ ∀ i, ∀ h : i < s.size, okB (s[i].toNat : Int) = true := ⟨fun h => h.2.2.2, fun h => ⟨h0, h1, fun _ => hl, h⟩⟩
        have HN := Lib.hid hN
        clear hN
        go_enter Try.func93, Try.ntmps93
        go_wp2_with (go_at_call 106; refine (letter_any _ _).mono ?_; rintro e w' ⟨rfl, rfl⟩; rw [hl])
        all_goals first
          | (exfalso; rename_i hx; rcases hx with hx | hx; · have := eq_of_beq hx; omega
             · omega)
          | (exfalso; rename_i hx; subst hx; exact absurd h0 (by decide))
          | skip
        have e1 : ((s.size : Int) == 0) = false := by
          cases hb : ((s.size : Int) == 0)
          · rfl
          · have := eq_of_beq hb
            omega
        have e2 : decide ((24 : Int) < (s.size : Int)) = false := by simp; omega
        simp only [e1, e2, Bool.or_false, Bool.false_or, Bool.or_self]
        clear hl
        go_loopw [3, 20] (fun _ v wr => ∃ k : Nat, v = .int .i64 k ∧ k ≤ s.size ∧ wr = w ∧ ∀ j, ∀ h : j < s.size, j < k → okB (s[j].toNat : Int) = true) (fun _ v _ => s.size - (intOf v).toNat)
        case atStart => exact ⟨0, rfl, Nat.zero_le _, rfl, fun j h hj => absurd hj (Nat.not_lt_zero _)⟩
        case round =>
          obtain ⟨k, rfl, hk, rfl, hall⟩ := hrel
          by_cases hlt : k < s.size
          · have hlt' : (k : Int) < (s.size : Int) := by omega
            have HALL := Lib.hid hall
            clear hall
            obtain ⟨c, hc⟩ : ∃ c : Int, c = (s[k].toNat : Int) := ⟨_, rfl⟩
            have next : okB c = true → ∀ j, ∀ h : j < s.size, j < k + 1 → okB (s[j].toNat : Int) = true := fun hb j h hj => by
              by_cases e : j = k
              · subst e; rw [← hc]; exact hb
              · exact HALL.out j h (by omega)
            have NEXT := Lib.hid next
            clear next
            by_cases hL : isL c = true
            · have hok : okB c = true := by simp [okB, hL]
              rw [hc] at hL
              go_wp2_with (first | (go_at_call 106; refine (letter_any _ _).mono ?_; rintro e w' ⟨rfl, rfl⟩; rw [hL]) | fail)
              go_roundw
              case rel => exact ⟨k + 1, by go_num, by omega, trivial, NEXT.out hok⟩
              case measure => simp [intOf]; omega
            · have hL' : isL c = false := by simpa using hL
              by_cases hD : isD c = true
              · have hok : okB c = true := by simp [okB, hD]
                rw [hc] at hL' hD
                go_wp2_with (first | (go_at_call 106; refine (letter_any _ _).mono ?_; rintro e w' ⟨rfl, rfl⟩; rw [hL']) | (go_at_call 107; refine (digit_any _ _).mono ?_; rintro e w' ⟨rfl, rfl⟩; rw [hD]))
                go_roundw
                case rel => exact ⟨k + 1, by go_num, by omega, trivial, NEXT.out hok⟩
                case measure => simp [intOf]; omega
              · have hD' : isD c = false := by simpa using hD
                by_cases h45 : c = 45
                · have hok : okB c = true := by simp [okB, h45]
                  rw [hc] at hL' hD' h45
                  go_wp2_with (first | (go_at_call 106; refine (letter_any _ _).mono ?_; rintro e w' ⟨rfl, rfl⟩; rw [(by decide : isL 45 = false)]) | (go_at_call 107; refine (digit_any _ _).mono ?_; rintro e w' ⟨rfl, rfl⟩; rw [(by decide : isD 45 = false)]))
                  go_roundw
                  case rel => exact ⟨k + 1, by go_num, by omega, trivial, NEXT.out hok⟩
                  case measure => simp [intOf]; omega
                · have hbad : ¬ NameOk s := fun h => by
                    have := HN.out.1 h k hlt
                    rw [← hc] at this
                    simp [okB, hL', hD', h45] at this
                  have HBAD := Lib.hid hbad
                  clear hbad
                  rw [hc] at hL' hD' h45
                  go_wp2_with (first | (go_at_call 106; refine (letter_any _ _).mono ?_; rintro e w' ⟨rfl, rfl⟩; rw [hL']) | (go_at_call 107; refine (digit_any _ _).mono ?_; rintro e w' ⟨rfl, rfl⟩; rw [hD']))
                  go_ret
                  exact ⟨false, rfl, by simpa using HBAD.out, rfl⟩
          · have e : k = s.size := by omega
            subst e
            go_wp2_with fail
            go_ret
            exact ⟨true, rfl, by simpa using HN.out.2 (fun i h => hall i h h), rfl⟩
      · have hl' : isL (s[0].toNat : Int) = false := by simpa using hl
        have hN : ¬ NameOk s := fun h => hl (h.2.2.1 h0)
        have HN := Lib.hid hN
        clear hN hl
        go_enter Try.func93, Try.ntmps93
        go_wp2_with (go_at_call 106; refine (letter_any _ _).mono ?_; rintro e w' ⟨rfl, rfl⟩; rw [hl'])
        all_goals first
          | (exfalso; simp_all; done)
          | (go_ret; exact ⟨false, rfl, by simpa using HN.out, rfl⟩)
    · have hz : (24 : Int) < (s.size : Int) := by omega
      have hN : ¬ NameOk s := fun h => h1 h.2.1
      have HN := Lib.hid hN
      clear hN
      go_enter Try.func93, Try.ntmps93
      go_wp2_with fail
      all_goals first
        | (go_ret; exact ⟨false, rfl, by simpa using HN.out, rfl⟩)
        | (exfalso; simp_all; done)
  · obtain rfl : s = ByteArray.empty := ByteArray.size_eq_zero_iff.1 (by omega)
    go_enter Try.func93, Try.ntmps93
    go_wp2_with fail
    go_ret
    exact ⟨false, rfl, by simp [NameOk], rfl⟩

end Go.Proofs.Ytccmgaibikiedaa.Variant
