/- The law SpanOnes, walked. -/
import Derived.Test.YtdmobdiffobdkaaSpanI
import Derived.Deep.Cut
import Derived.Deep.DeepCutAuto
namespace Go.Proofs.Ytdmobdiffobdkaa.Ver
set_option linter.unusedVariables false
set_option linter.unusedSimpArgs false
open Go.RowKit Go.Shelf

theorem sgreat_none (lo hi : ByteArray) (h1 : lo.size ≤ 3000) (h2 : hi.size ≤ 3000) : Says 27 #[spv lo hi] (.bool false) := by
  have h := sgreat_any lo hi (by unfold maxLen; omega) (by unfold maxLen; omega)
  rwa [decide_eq_false (by omega), decide_eq_false (by omega)] at h
theorem TB.drew {w W : World} {a a' b b' : ByteArray} (h : TB w a a' b b' W) : TB w a a' b b' W.drew := ⟨h.a, h.b, h.below.drew⟩
theorem Bx.drew {W : World} {k : Nat} {lo hi : ByteArray} (h : Bx W k lo hi) : Bx W.drew k lo hi := h

end Go.Proofs.Ytdmobdiffobdkaa.Ver
