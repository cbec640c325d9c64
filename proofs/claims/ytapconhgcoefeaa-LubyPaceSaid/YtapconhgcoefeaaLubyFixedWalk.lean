/- The chapter's example of luby is answered as the document says. -/
import Derived.Test.YtapconhgcoefeaaLubyRowWalk
namespace Go.Proofs.Ytapconhgcoefeaa.Luby
set_option linter.unusedVariables false
open Go.RowKit

def New1 (w w' : World) : Prop := ∃ c t, w' = w.alloc (.cells c t)

theorem lub_small : lub 1 = 1 ∧ lub 2 = 1 ∧ lub 3 = 2 ∧ lub 4 = 1 ∧ lub 5 = 1 ∧ lub 6 = 2 ∧ lub 7 = 4 := by decide +kernel

theorem cells7 (w : World) (k : Nat) (hk : k < 7) :
    (w.alloc (.cells #[.int .i64 1, .int .i64 1, .int .i64 2, .int .i64 1, .int .i64 1, .int .i64 2, .int .i64 4] 3)).cell? ⟨w.heap.size, k, none⟩ = some (.int .i64 (lub (k + 1))) := by
  obtain ⟨a1, a2, a3, a4, a5, a6, a7⟩ := lub_small
  match k, hk with
  | 0, _ => simp [go_sem, a1]
  | 1, _ => simp [go_sem, a2]
  | 2, _ => simp [go_sem, a3]
  | 3, _ => simp [go_sem, a4]
  | 4, _ => simp [go_sem, a5]
  | 5, _ => simp [go_sem, a6]
  | 6, _ => simp [go_sem, a7]

set_option maxHeartbeats 400000 in
theorem fixed_any (w : World) :
    Calls Try.prog 16 #[] w fun e w' => e = .returned (.bool true) ∧ New1 w w' := by
  go_enter Try.func16, Try.ntmps16
  go_wp2
  go_loop [5] (fun x => ∃ k : Nat, x = .int .i64 k ∧ k ≤ 7) (fun x => 7 - (intOf x).toNat)
  case atStart => exact ⟨0, rfl, by omega⟩
  case round =>
    obtain ⟨k, rfl, hk⟩ := hrel
    by_cases hlt : k < 7
    · have hc := cells7 w k hlt
      have hb := lub_pos (k + 1) (by omega) (by omega)
      go_wp2_with (go_at_call 18; refine (row_nat (k + 1) _ (by omega) (by omega)).mono ?_; rintro e w' ⟨rfl, rfl⟩)
      go_round
      case rel => exact ⟨k + 1, by go_num, by omega⟩
      case measure => simp [intOf]; omega
    · have hk7 : k = 7 := by omega
      subst hk7
      go_wp2_with (go_at_call 18; refine (row_none _ _ (by omega)).mono ?_; rintro e w' ⟨rfl, rfl⟩)
      go_ret
      exact ⟨rfl, _, _, rfl⟩

end Go.Proofs.Ytapconhgcoefeaa.Luby
