/- The law OrderMore, at any number of places. -/
import Derived.Test.YtbffcehaednefaaOrderMoreWalk
import Derived.Test.YtbffcehaednefaaOrderMoreOpen
namespace Go.Proofs.Ytbffcehaednefaa.Order
set_option linter.unusedVariables false
set_option linter.unusedSimpArgs false
open Go.RowKit

set_option maxHeartbeats 4000000 in
set_option maxRecDepth 100000 in
theorem law_great (A : Option Addr) (E : Es) (n c a b : Nat) (w : World) (h : ERow w w.heap.size A E) (hn : n = E.length) (hc : n ≤ maxLen) (h40 : 40 < n) :
    Calls Try.prog 9 #[.slice A n c, .int .u8 (a : Nat), .int .u8 (b : Nat)] w fun e w' => e = .returned (.bool true) ∧ Below w.heap.size w w' := by
  have n63 : (n : Int) ≤ 9223372036854775807 := by unfold maxLen at hc; omega
  have n40 : (40 : Int) < (n : Int) := by omega
  have HN := Lib.hid hn
  have H := Lib.hid h
  have FX := Lib.hid (fixed_any w)
  clear hn h hc h40
  go_enter Try.func9, Try.ntmps9
  go_wp2_with fail
  go_loopw [8, 24] (fun tot v wr => ∃ (z : Int) (k : Nat), tot = .int .i64 z ∧ v = .int .i64 k ∧ k ≤ n ∧ wr = w) (fun _ v _ => n - (intOf v).toNat)
  case atStart => exact ⟨0, 0, rfl, rfl, Nat.zero_le _, rfl⟩
  case round =>
    obtain ⟨z, k, rfl, rfl, hk, hw0⟩ := hrel
    obtain rfl := hw0.symm
    by_cases hlt : k < n
    · have hlt' : (k : Int) < (n : Int) := by omega
      have HK : Hid (k < E.length) := Lib.hid (by have := HN.out; omega)
      rcases H.out with h' | ⟨b1, o, rfl, hb1, hcE⟩
      · exfalso; have := HK.out; rw [h'] at this; simp at this
      obtain ⟨A', n', c', e1, e2, e3, e4, e5⟩ := hcE k HK.out
      have h63 : (n' : Int) ≤ 9223372036854775807 := by unfold maxLen at e3; omega
      clear hcE e1 e2 e3 e4
      go_wp2_with fail
      go_roundw
      case rel => exact ⟨_, k + 1, rfl, by go_num, by omega, by first | rfl | trivial⟩
      case measure => simp [intOf]; omega
    · obtain rfl : k = n := by omega
      go_wp2_with fail
      go_at_call 34; refine FX.out.mono ?_; rintro e w3 ⟨rfl, hb⟩
      go_wp2_with fail
      go_ret
      exact ⟨rfl, hb⟩
theorem law_moreI (A : Option Addr) (E : Es) (n c : Nat) (a b : Int) (w : World) (h : ERow w w.heap.size A E) (hn : n = E.length) (hc : n ≤ c) (hm : c ≤ maxLen) (hB : ∀ p, (E.getD p []).length ≤ 140737488355328) (ha : (Lit.int .u8 a).wf = true) (hb : (Lit.int .u8 b).wf = true) :
    Calls Try.prog 9 #[.slice A n c, .int .u8 a, .int .u8 b] w fun e w' => e = .returned (.bool true) ∧ Below w.heap.size w w' := by
  simp [Lit.wf, IntKind.min, IntKind.max, IntKind.signed, IntKind.bits] at ha hb
  obtain ⟨a', rfl⟩ : ∃ m : Nat, a = (m : Int) := ⟨a.toNat, by omega⟩
  obtain ⟨b', rfl⟩ : ∃ m : Nat, b = (m : Int) := ⟨b.toNat, by omega⟩
  rcases Nat.lt_or_ge 40 n with h40 | h40
  · exact law_great A E n c a' b' w h hn (by omega) h40
  · exact law_more A E n c a' b' w h hn h40 hB (by omega) (by omega)

end Go.Proofs.Ytbffcehaednefaa.Order
