/- Recipes: wishes for any versions. -/
import Derived.Test.YtccmgaibikiedaaDcR
namespace Go.Proofs.Ytccmgaibikiedaa.Dc
open Go.RowKit
set_option linter.unusedVariables false
set_option linter.unusedSimpArgs false
def noB : ByteArray := ⟨#[]⟩
/-- is it the one span without bounds? -/
def freeB : List Pr2 → Bool
  | [x] => (x.1.toList == noB.toList) && (x.2.toList == noB.toList)
  | _ => false
theorem freeB_len {l : List Pr2} (h : l.length ≠ 1) : freeB l = false := by
  match l, h with
  | [], _ => rfl
  | [x], h => exact absurd rfl h
  | x :: y :: l, _ => rfl
set_option maxHeartbeats 4000000 in
set_option maxRecDepth 100000 in
theorem equal_any {w : World} {B : Nat} {A : Option Addr} {n c : Nat} {l : List Pr2} (h : Sl Pr2 2 pr2D w B A n c l) (hB : B ≤ w.heap.size) (gb : Nat) (hg : gb < w.heap.size) (g0 : w.cell? ⟨gb, 0, none⟩ = some (.string noB)) (g1 : w.cell? ⟨gb, 1, none⟩ = some (.string noB)) :
    Calls Try.prog 68 #[.slice A n c, .slice (some ⟨gb, 0, none⟩) 1 1] w fun e w' => e = .returned (.bool (freeB l)) ∧ Below w.heap.size w w' := by
  have n5 := h.le
  by_cases h1 : n = 1
  · subst h1
    obtain ⟨⟨s, u⟩, b, o, t1, rfl, t3, x0, x1, -, -⟩ := pr2_at h (Nat.lt_succ_self 0)
    simp only [Nat.zero_mul, Nat.add_zero] at x0 x1
    have hl : l = [(s, u)] := by
      have hn := h.len
      match l, hn, t1 with
      | [y], _, t1 => simp at t1; rw [t1]
    have R : Hid (freeB l = ((s.toList == noB.toList) && (u.toList == noB.toList))) := Lib.hid (by rw [hl]; rfl)
    have XB : Hid (b < w.heap.size ∧ gb < w.heap.size) := Lib.hid ⟨Nat.lt_of_lt_of_le t3 hB, hg⟩
    clear h hB t1 t3 hl hg
    have BD : Hid (Below w.heap.size w w.drew) := Lib.hid (Below.refl _ _).drew
    cases q1 : (s.toList == noB.toList)
    case false =>
      have R2 : Hid (freeB l = false) := Lib.hid (by rw [R.out, q1]; rfl)
      go_enter Try.func68, Try.ntmps68
      go_wp2_with fail
      go_loopw [5, 13] (fun _ v wq => v = .int .i64 0 ∧ w = wq) (fun _ v _ => 0)
      case atStart => exact ⟨rfl, by first | rfl | trivial⟩
      case round =>
        obtain ⟨rfl, hwq⟩ := hrel
        obtain rfl : w = wr := by first | exact hwq | rfl
        go_wp2_with fail
        go_region_held3 (fun W' => W'.cell? ⟨b, o, none⟩ = some (.string s) ∧ W'.cell? ⟨b, o + 1, none⟩ = some (.string u) ∧ W'.cell? ⟨gb, 0, none⟩ = some (.string noB) ∧ W'.cell? ⟨gb, 1, none⟩ = some (.string noB)) (go_keep) (fail)
        go_wp2_with fail
        go_ret
        rw [R2.out]
        exact ⟨rfl, BD.out⟩
    cases q2 : (u.toList == noB.toList)
    case false =>
      have R2 : Hid (freeB l = false) := Lib.hid (by rw [R.out, q1, q2]; rfl)
      go_enter Try.func68, Try.ntmps68
      go_wp2_with fail
      go_loopw [5, 13] (fun _ v wq => v = .int .i64 0 ∧ w = wq) (fun _ v _ => 0)
      case atStart => exact ⟨rfl, by first | rfl | trivial⟩
      case round =>
        obtain ⟨rfl, hwq⟩ := hrel
        obtain rfl : w = wr := by first | exact hwq | rfl
        go_wp2_with fail
        go_region_held3 (fun W' => W'.cell? ⟨b, o, none⟩ = some (.string s) ∧ W'.cell? ⟨b, o + 1, none⟩ = some (.string u) ∧ W'.cell? ⟨gb, 0, none⟩ = some (.string noB) ∧ W'.cell? ⟨gb, 1, none⟩ = some (.string noB)) (go_keep) (fail)
        go_wp2_with fail
        go_ret
        rw [R2.out]
        exact ⟨rfl, BD.out⟩
    have R2 : Hid (freeB l = true) := Lib.hid (by rw [R.out, q1, q2]; rfl)
    go_enter Try.func68, Try.ntmps68
    go_wp2_with fail
    go_loopw [5, 13] (fun _ v wq => ∃ i : Nat, v = .int .i64 i ∧ i ≤ 1 ∧ (i = 0 ∧ w = wq ∨ i = 1 ∧ w.drew = wq)) (fun _ v _ => 1 - (intOf v).toNat)
    case atStart => exact ⟨0, rfl, by omega, .inl ⟨rfl, by first | rfl | trivial⟩⟩
    case round =>
      obtain ⟨i, rfl, hi, hc⟩ := hrel
      rcases hc with ⟨rfl, hwq⟩ | ⟨rfl, hwq⟩
      · obtain rfl : w = wr := by first | exact hwq | rfl
        go_wp2_with fail
        go_region_held3 (fun W' => W'.cell? ⟨b, o, none⟩ = some (.string s) ∧ W'.cell? ⟨b, o + 1, none⟩ = some (.string u) ∧ W'.cell? ⟨gb, 0, none⟩ = some (.string noB) ∧ W'.cell? ⟨gb, 1, none⟩ = some (.string noB)) (go_keep) (fail)
        go_wp2_with fail
        go_roundw
        case rel => exact ⟨1, by go_num, by omega, .inr ⟨rfl, by first | rfl | trivial⟩⟩
        case measure => simp [intOf]
      · subst hwq
        go_wp2_with fail
        go_ret
        rw [R2.out]
        exact ⟨rfl, BD.out⟩
  · have R : Hid (freeB l = false) := Lib.hid (freeB_len (by rw [← h.len]; exact h1))
    have h1' : ¬ ((n : Int) = 1) := by omega
    clear h hB hg
    go_enter Try.func68, Try.ntmps68
    go_wp2_with fail
    go_ret
    rw [R.out]
    exact ⟨rfl, Below.refl _ _⟩

end Go.Proofs.Ytccmgaibikiedaa.Dc
