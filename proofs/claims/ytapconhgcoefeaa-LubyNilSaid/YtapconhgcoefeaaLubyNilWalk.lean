/- A nil pace tells nothing, for every number of what was learnt. -/
import Derived.Test.YtapconhgcoefeaaLubyFixedWalk
namespace Go.Proofs.Ytapconhgcoefeaa.Luby
set_option linter.unusedVariables false
open Go.RowKit

set_option maxHeartbeats 400000 in
theorem law_nil (a0 : Int) (w : World) :
    Calls Try.prog 3 #[.int .i64 a0] w fun e w' => e = .returned (.bool true) ∧ Grown w w' := by
  go_enter Try.func3, Try.ntmps3
  go_wp2_with (first | (go_at_call 16; refine (fixed_any _).mono ?_; rintro e w' ⟨rfl, c, t, rfl⟩) | go_in)
  go_ret
  exact ⟨rfl, (Grown.refl _).alloc _ _⟩

end Go.Proofs.Ytapconhgcoefeaa.Luby
