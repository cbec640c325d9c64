/- Recipes as arguments: which are more than is gone through. -/
import Derived.Test.YtccmgaibikiedaaDcC
import Derived.WalkKit
namespace Go.Proofs.Ytccmgaibikiedaa.Dc
open Go.RowKit
set_option linter.unusedVariables false
set_option linter.unusedSimpArgs false
def gText (s : ByteArray) : Bool := decide (100 < s.size)
def gTexts (l : List ByteArray) : Bool := decide (50 < l.length) || l.any gText
def gPr (x : Pr2) : Bool := gText x.1 || gText x.2
def gSpans (l : List Pr2) : Bool := decide (30 < l.length) || l.any gPr
def gSp (x : Sp) : Bool := gText x.name || decide (20 < x.sets.length) || gSpans x.spans || x.sets.any gPr
set_option maxHeartbeats 2000000 in
set_option maxRecDepth 100000 in
theorem greatTexts_any {w : World} {B : Nat} {A : Option Addr} {n c : Nat} {l : List ByteArray} (h : Sl ByteArray 1 strD w B A n c l) : Calls Try.prog 32 #[.slice A n c] w fun e w' => e = .returned (.bool (gTexts l)) ∧ w = w' := by
  have H := Lib.hid h
  have n5 := h.le
  have HN := Lib.hid h.len
  clear h
  by_cases h50 : 50 < (n : Int)
  · have R : Hid (gTexts l = true) := Lib.hid (by unfold gTexts; rw [← HN.out, decide_eq_true (by omega)]; rfl)
    go_enter Try.func32, Try.ntmps32
    go_wp2_with fail
    go_ret
    rw [R.out]
    exact ⟨rfl, rfl⟩
  · have R : Hid (gTexts l = l.any gText) := Lib.hid (by unfold gTexts; rw [← HN.out, decide_eq_false (by omega)]; rfl)
    go_enter Try.func32, Try.ntmps32
    go_wp2_with fail
    go_loopw [3, 9] (fun _ v wq => ∃ i : Nat, v = .int .i64 i ∧ i ≤ n ∧ (l.take i).any gText = false ∧ w = wq) (fun _ v _ => n - (intOf v).toNat)
    case atStart => exact ⟨0, rfl, Nat.zero_le _, rfl, by first | rfl | trivial⟩
    case round =>
      obtain ⟨i, rfl, hi, hp, hwq⟩ := hrel
      obtain rfl : w = wr := by first | exact hwq | rfl
      have HP := Lib.hid hp
      clear hp
      by_cases hlt : i < n
      · have hlt' : (i : Int) < (n : Int) := by omega
        obtain ⟨s, b, o, t1, rfl, t3, x0, s5⟩ := text_at H.out hlt
        have T1 := Lib.hid t1
        clear t1
        unfold maxLen at s5
        by_cases hs : 100 < (s.size : Int)
        · have R2 : Hid (gTexts l = true) := Lib.hid (R.out.trans (any_hit T1.out (by unfold gText; exact decide_eq_true (by omega))))
          go_wp2_with fail
          go_ret
          rw [R2.out]
          exact ⟨rfl, rfl⟩
        · have HP2 : Hid ((l.take (i + 1)).any gText = false) := Lib.hid (any_next T1.out HP.out (by unfold gText; exact decide_eq_false (by omega)))
          go_wp2_with fail
          go_roundw
          case rel => exact ⟨i + 1, by go_num, by omega, HP2.out, by first | rfl | trivial⟩
          case measure => simp [intOf]; omega
      · obtain rfl : i = n := by omega
        have R2 : Hid (gTexts l = false) := Lib.hid (by rw [R.out, ← HP.out, take_all HN.out])
        go_wp2_with fail
        go_ret
        rw [R2.out]
        exact ⟨rfl, rfl⟩
set_option maxHeartbeats 2000000 in
set_option maxRecDepth 100000 in
theorem greatSpans_any {w : World} {B : Nat} {A : Option Addr} {n c : Nat} {l : List Pr2} (h : Sl Pr2 2 pr2D w B A n c l) : Calls Try.prog 77 #[.slice A n c] w fun e w' => e = .returned (.bool (gSpans l)) ∧ w = w' := by
  have H := Lib.hid h
  have n5 := h.le
  have HN := Lib.hid h.len
  clear h
  by_cases h50 : 30 < (n : Int)
  · have R : Hid (gSpans l = true) := Lib.hid (by unfold gSpans; rw [← HN.out, decide_eq_true (by omega)]; rfl)
    go_enter Try.func77, Try.ntmps77
    go_wp2_with fail
    go_ret
    rw [R.out]
    exact ⟨rfl, rfl⟩
  · have R : Hid (gSpans l = l.any gPr) := Lib.hid (by unfold gSpans; rw [← HN.out, decide_eq_false (by omega)]; rfl)
    go_enter Try.func77, Try.ntmps77
    go_wp2_with fail
    go_loopw [3, 9] (fun _ v wq => ∃ i : Nat, v = .int .i64 i ∧ i ≤ n ∧ (l.take i).any gPr = false ∧ w = wq) (fun _ v _ => n - (intOf v).toNat)
    case atStart => exact ⟨0, rfl, Nat.zero_le _, rfl, by first | rfl | trivial⟩
    case round =>
      obtain ⟨i, rfl, hi, hp, hwq⟩ := hrel
      obtain rfl : w = wr := by first | exact hwq | rfl
      have HP := Lib.hid hp
      clear hp
      by_cases hlt : i < n
      · have hlt' : (i : Int) < (n : Int) := by omega
        obtain ⟨⟨s, u⟩, b, o, t1, rfl, t3, x0, x1, s5, u5⟩ := pr2_at H.out hlt
        simp only [] at x0 x1 s5 u5
        have T1 := Lib.hid t1
        clear t1
        unfold maxLen at s5 u5
        by_cases hs : 100 < (s.size : Int)
        · have R2 : Hid (gSpans l = true) := Lib.hid (R.out.trans (any_hit T1.out (by unfold gPr gText; rw [decide_eq_true (by show 100 < s.size; omega)]; rfl)))
          go_wp2_with fail
          go_ret
          rw [R2.out]
          exact ⟨rfl, rfl⟩
        · by_cases hu : 100 < (u.size : Int)
          · have R2 : Hid (gSpans l = true) := Lib.hid (R.out.trans (any_hit T1.out (by unfold gPr gText; rw [decide_eq_true (p := 100 < u.size) (by omega)]; exact Bool.or_true _)))
            go_wp2_with fail
            go_ret
            rw [R2.out]
            exact ⟨rfl, rfl⟩
          · have HP2 : Hid ((l.take (i + 1)).any gPr = false) := Lib.hid (any_next T1.out HP.out (by unfold gPr gText; rw [decide_eq_false (p := 100 < s.size) (by omega), decide_eq_false (p := 100 < u.size) (by omega)]; rfl))
            go_wp2_with fail
            go_roundw
            case rel => exact ⟨i + 1, by go_num, by omega, HP2.out, by first | rfl | trivial⟩
            case measure => simp [intOf]; omega
      · obtain rfl : i = n := by omega
        have R2 : Hid (gSpans l = false) := Lib.hid (by rw [R.out, ← HP.out, take_all HN.out])
        go_wp2_with fail
        go_ret
        rw [R2.out]
        exact ⟨rfl, rfl⟩

end Go.Proofs.Ytccmgaibikiedaa.Dc
