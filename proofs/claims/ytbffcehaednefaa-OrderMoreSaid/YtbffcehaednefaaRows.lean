/-
  No cell of these rows narrows 'for every input' (looked for: loops, veiled, ifaces, maps, wideKeys, modest, calm, conditions, laid).
  DERIVED. THE GIVEN ROWS OF THIS SEAT. 8 by the template 'for every input the law returns true; each argument reads behind the call as it read before'; 0 by the template 'total and deterministic' (their statements: YtbffcehaednefaaTotals.lean).
  GIVEN WITH THE SEED: the statements are not yours to turn. If you find one false, say at which input.
  Laid BY PROGRAM, IN A SANDBOX (cutbox-rows.mjs): the forced cells as the released guide's own fill.sh prints them over the translation b570a2551d3a68fc… (all of the seat's roots in one cut). By AI agents, Wed Nov 11 2026. No macro, syntax, notation, axiom, sorry.
-/
import Derived.Test.YtbffcehaednefaaChecked
import GoSem.Claim
import GoSem.ClaimJoined
import GoSem.ClaimMapViews
import Derived.JoinedTies
import Derived.KernelRfl
namespace Go.Proofs.Ytbffcehaednefaa
/- THE CELL 'sum', in the pinned program and in every row, IS THE sha256 OF THE DUMP (.gsa) THAT YtbffcehaednefaaProg.lean LOADS. Nothing in Lean hashes anything: it is a label: what it is worth is what the hold of that sum in a sandbox is worth. -/
noncomputable def Try.pinned : Pinned := { name := "ytbffcehaednefaa", sum := "b570a2551d3a68fcf95986898cdf125d28e4a2eed5af3f664fbcc5d0c52008dd", checked := Try.checked }
namespace Rows
def none {H : Type} : Left H := { results := [], args := [] }

/-- 'cooperlaw04.VariantNames': WHATEVER THE INPUT: true; the input reads as it did. -/
def variantNamesSpec : ChangeSpec := { name := "variantNames", fn := fun _ => fun
  | [d] => { results := [.lit (.bool true)], args := [d] }
  | _ => none }
def variantNamesRow : OpenClaim := { program := "ytbffcehaednefaa", sum := "b570a2551d3a68fcf95986898cdf125d28e4a2eed5af3f664fbcc5d0c52008dd", func := "cooper/cooperlaw04.VariantNames", spec := "variantNames", unfollowed := true, recurses := true, plainKeys := false, apart := false }
def VariantNamesSaid : Prop := variantNamesRow.holds Try.pinned (OpenSpec.ofChange variantNamesSpec)

/-- ITS FALSE NEIGHBOUR: 'it returns false'. Refute it at one input. -/
def variantNamesWrong : ChangeSpec := { name := "variantNames", fn := fun _ => fun
  | [d] => { results := [.lit (.bool false)], args := [d] }
  | _ => none }
def VariantNamesWrongFalsely : Prop := variantNamesRow.holds Try.pinned (OpenSpec.ofChange variantNamesWrong)

/-- 'cooperlaw04.VariantAll': WHATEVER THE INPUT: true; the input reads as it did. -/
def variantAllSpec : ChangeSpec := { name := "variantAll", fn := fun _ => fun
  | [d] => { results := [.lit (.bool true)], args := [d] }
  | _ => none }
def variantAllRow : OpenClaim := { program := "ytbffcehaednefaa", sum := "b570a2551d3a68fcf95986898cdf125d28e4a2eed5af3f664fbcc5d0c52008dd", func := "cooper/cooperlaw04.VariantAll", spec := "variantAll", unfollowed := true, recurses := true, plainKeys := false, apart := false }
def VariantAllSaid : Prop := variantAllRow.holds Try.pinned (OpenSpec.ofChange variantAllSpec)

/-- ITS FALSE NEIGHBOUR: 'it returns false'. Refute it at one input. -/
def variantAllWrong : ChangeSpec := { name := "variantAll", fn := fun _ => fun
  | [d] => { results := [.lit (.bool false)], args := [d] }
  | _ => none }
def VariantAllWrongFalsely : Prop := variantAllRow.holds Try.pinned (OpenSpec.ofChange variantAllWrong)

/-- 'cooperlaw04.VariantBoth': WHATEVER THE INPUT: true; the input reads as it did. -/
def variantBothSpec : ChangeSpec := { name := "variantBoth", fn := fun _ => fun
  | [d1, d2, d3, d4] => { results := [.lit (.bool true)], args := [d1, d2, d3, d4] }
  | _ => none }
def variantBothRow : OpenClaim := { program := "ytbffcehaednefaa", sum := "b570a2551d3a68fcf95986898cdf125d28e4a2eed5af3f664fbcc5d0c52008dd", func := "cooper/cooperlaw04.VariantBoth", spec := "variantBoth", unfollowed := true, recurses := true, plainKeys := false, apart := false }
def VariantBothSaid : Prop := variantBothRow.holds Try.pinned (OpenSpec.ofChange variantBothSpec)

/-- ITS FALSE NEIGHBOUR: 'it returns false'. Refute it at one input. -/
def variantBothWrong : ChangeSpec := { name := "variantBoth", fn := fun _ => fun
  | [d1, d2, d3, d4] => { results := [.lit (.bool false)], args := [d1, d2, d3, d4] }
  | _ => none }
def VariantBothWrongFalsely : Prop := variantBothRow.holds Try.pinned (OpenSpec.ofChange variantBothWrong)

/-- 'cooperlaw04.VariantMany': WHATEVER THE INPUT: true; the input reads as it did. -/
def variantManySpec : ChangeSpec := { name := "variantMany", fn := fun _ => fun
  | [d1, d2] => { results := [.lit (.bool true)], args := [d1, d2] }
  | _ => none }
def variantManyRow : OpenClaim := { program := "ytbffcehaednefaa", sum := "b570a2551d3a68fcf95986898cdf125d28e4a2eed5af3f664fbcc5d0c52008dd", func := "cooper/cooperlaw04.VariantMany", spec := "variantMany", unfollowed := true, recurses := true, plainKeys := false, apart := false }
def VariantManySaid : Prop := variantManyRow.holds Try.pinned (OpenSpec.ofChange variantManySpec)

/-- ITS FALSE NEIGHBOUR: 'it returns false'. Refute it at one input. -/
def variantManyWrong : ChangeSpec := { name := "variantMany", fn := fun _ => fun
  | [d1, d2] => { results := [.lit (.bool false)], args := [d1, d2] }
  | _ => none }
def VariantManyWrongFalsely : Prop := variantManyRow.holds Try.pinned (OpenSpec.ofChange variantManyWrong)

/-- 'cooperlaw11.AtomsRow': WHATEVER THE INPUT: true; the input reads as it did. -/
def atomsRowSpec : ChangeSpec := { name := "atomsRow", fn := fun _ => fun
  | [d1, d2] => { results := [.lit (.bool true)], args := [d1, d2] }
  | _ => none }
def atomsRowRow : OpenClaim := { program := "ytbffcehaednefaa", sum := "b570a2551d3a68fcf95986898cdf125d28e4a2eed5af3f664fbcc5d0c52008dd", func := "cooper/cooperlaw11.AtomsRow", spec := "atomsRow", plainKeys := false, apart := false }
def AtomsRowSaid : Prop := atomsRowRow.holds Try.pinned (OpenSpec.ofChange atomsRowSpec)

/-- ITS FALSE NEIGHBOUR: 'it returns false'. Refute it at one input. -/
def atomsRowWrong : ChangeSpec := { name := "atomsRow", fn := fun _ => fun
  | [d1, d2] => { results := [.lit (.bool false)], args := [d1, d2] }
  | _ => none }
def AtomsRowWrongFalsely : Prop := atomsRowRow.holds Try.pinned (OpenSpec.ofChange atomsRowWrong)

/-- 'cooperlaw15.OrderCircle': WHATEVER THE INPUT: true; the input reads as it did. -/
def orderCircleSpec : ChangeSpec := { name := "orderCircle", fn := fun _ => fun
  | [d] => { results := [.lit (.bool true)], args := [d] }
  | _ => none }
def orderCircleRow : OpenClaim := { program := "ytbffcehaednefaa", sum := "b570a2551d3a68fcf95986898cdf125d28e4a2eed5af3f664fbcc5d0c52008dd", func := "cooper/cooperlaw15.OrderCircle", spec := "orderCircle", plainKeys := false, apart := false }
def OrderCircleSaid : Prop := orderCircleRow.holds Try.pinned (OpenSpec.ofChange orderCircleSpec)

/-- ITS FALSE NEIGHBOUR: 'it returns false'. Refute it at one input. -/
def orderCircleWrong : ChangeSpec := { name := "orderCircle", fn := fun _ => fun
  | [d] => { results := [.lit (.bool false)], args := [d] }
  | _ => none }
def OrderCircleWrongFalsely : Prop := orderCircleRow.holds Try.pinned (OpenSpec.ofChange orderCircleWrong)

/-- 'cooperlaw15.OrderMore': WHATEVER THE INPUT: true; the input reads as it did. -/
def orderMoreSpec : ChangeSpec := { name := "orderMore", fn := fun _ => fun
  | [d1, d2, d3] => { results := [.lit (.bool true)], args := [d1, d2, d3] }
  | _ => none }
def orderMoreRow : OpenClaim := { program := "ytbffcehaednefaa", sum := "b570a2551d3a68fcf95986898cdf125d28e4a2eed5af3f664fbcc5d0c52008dd", func := "cooper/cooperlaw15.OrderMore", spec := "orderMore", plainKeys := false, apart := false }
def OrderMoreSaid : Prop := orderMoreRow.holds Try.pinned (OpenSpec.ofChange orderMoreSpec)

/-- ITS FALSE NEIGHBOUR: 'it returns false'. Refute it at one input. -/
def orderMoreWrong : ChangeSpec := { name := "orderMore", fn := fun _ => fun
  | [d1, d2, d3] => { results := [.lit (.bool false)], args := [d1, d2, d3] }
  | _ => none }
def OrderMoreWrongFalsely : Prop := orderMoreRow.holds Try.pinned (OpenSpec.ofChange orderMoreWrong)

/-- 'cooperlaw20.LubyForget': WHATEVER THE INPUT: true; the input reads as it did. -/
def lubyForgetSpec : ChangeSpec := { name := "lubyForget", fn := fun _ => fun
  | [d] => { results := [.lit (.bool true)], args := [d] }
  | _ => none }
def lubyForgetRow : OpenClaim := { program := "ytbffcehaednefaa", sum := "b570a2551d3a68fcf95986898cdf125d28e4a2eed5af3f664fbcc5d0c52008dd", func := "cooper/cooperlaw20.LubyForget", spec := "lubyForget", unfollowed := true, recurses := true, plainKeys := false, apart := false }
def LubyForgetSaid : Prop := lubyForgetRow.holds Try.pinned (OpenSpec.ofChange lubyForgetSpec)

/-- ITS FALSE NEIGHBOUR: 'it returns false'. Refute it at one input. -/
def lubyForgetWrong : ChangeSpec := { name := "lubyForget", fn := fun _ => fun
  | [d] => { results := [.lit (.bool false)], args := [d] }
  | _ => none }
def LubyForgetWrongFalsely : Prop := lubyForgetRow.holds Try.pinned (OpenSpec.ofChange lubyForgetWrong)

/- THE SECOND FORM. 'bulk': how many values and letters a reading holds, each counted each time it is reached (what is shared counts as often as it is met; a slice's spare places count too). A statement '..UptoSaid' is the law's where the arguments, and the package variables that the reading takes, are together of bulk at most 1048576: NARROWER than '..Said'. Prove '..Said' where nothing that the law and all that it calls make is longer than what came in: it says more and counts as full. Else prove '..UptoSaid'. A law counts once. -/
mutual
def uptoBulk {H : Type} : DataW H → Nat
  | .lit (.string bytes) => bytes.length + 1
  | .lit _ => 1
  | .nil => 1
  | .ptr d => uptoBulk d + 1
  | .slice elems spare => uptoBulkAll elems + uptoBulkAll spare + 1
  | .agg parts => uptoBulkAll parts + 1
  | .iface _ d => uptoBulk d + 1
  | .map entries => uptoBulkEntries entries + 1
  | .held _ => 1
def uptoBulkAll {H : Type} : List (DataW H) → Nat
  | [] => 0
  | d :: r => uptoBulk d + uptoBulkAll r
def uptoBulkEntries {H : Type} : List (Lit × DataW H) → Nat
  | [] => 0
  | x :: r => uptoBulkEntry x + uptoBulkEntries r
def uptoBulkEntry {H : Type} : Lit × DataW H → Nat
  | (.string bytes, d) => bytes.length + uptoBulk d + 1
  | (_, d) => uptoBulk d + 1
 end
def uptoSmall : (H : Type) → List (DataW H) → Bool := fun _ ds => decide (uptoBulkAll ds ≤ 1048576)
def OpenSpec.upto (s : _root_.Go.ChangeSpec) : _root_.Go.OpenSpec := { _root_.Go.OpenSpec.ofChange s with cond := some uptoSmall }

/-- 'cooperlaw04.VariantNames', WHERE WHAT IT READS IS OF BULK AT MOST 1048576: true; the input reads as it did. -/
def variantNamesUptoRow : OpenClaim := { program := "ytbffcehaednefaa", sum := "b570a2551d3a68fcf95986898cdf125d28e4a2eed5af3f664fbcc5d0c52008dd", func := "cooper/cooperlaw04.VariantNames", spec := "variantNames", unfollowed := true, recurses := true, plainKeys := false, apart := false, narrowed := true }
def VariantNamesUptoSaid : Prop := variantNamesUptoRow.holds Try.pinned (OpenSpec.upto variantNamesSpec)

/-- 'cooperlaw04.VariantAll', WHERE WHAT IT READS IS OF BULK AT MOST 1048576: true; the input reads as it did. -/
def variantAllUptoRow : OpenClaim := { program := "ytbffcehaednefaa", sum := "b570a2551d3a68fcf95986898cdf125d28e4a2eed5af3f664fbcc5d0c52008dd", func := "cooper/cooperlaw04.VariantAll", spec := "variantAll", unfollowed := true, recurses := true, plainKeys := false, apart := false, narrowed := true }
def VariantAllUptoSaid : Prop := variantAllUptoRow.holds Try.pinned (OpenSpec.upto variantAllSpec)

/-- 'cooperlaw04.VariantBoth', WHERE WHAT IT READS IS OF BULK AT MOST 1048576: true; the input reads as it did. -/
def variantBothUptoRow : OpenClaim := { program := "ytbffcehaednefaa", sum := "b570a2551d3a68fcf95986898cdf125d28e4a2eed5af3f664fbcc5d0c52008dd", func := "cooper/cooperlaw04.VariantBoth", spec := "variantBoth", unfollowed := true, recurses := true, plainKeys := false, apart := false, narrowed := true }
def VariantBothUptoSaid : Prop := variantBothUptoRow.holds Try.pinned (OpenSpec.upto variantBothSpec)

/-- 'cooperlaw04.VariantMany', WHERE WHAT IT READS IS OF BULK AT MOST 1048576: true; the input reads as it did. -/
def variantManyUptoRow : OpenClaim := { program := "ytbffcehaednefaa", sum := "b570a2551d3a68fcf95986898cdf125d28e4a2eed5af3f664fbcc5d0c52008dd", func := "cooper/cooperlaw04.VariantMany", spec := "variantMany", unfollowed := true, recurses := true, plainKeys := false, apart := false, narrowed := true }
def VariantManyUptoSaid : Prop := variantManyUptoRow.holds Try.pinned (OpenSpec.upto variantManySpec)

/-- 'cooperlaw11.AtomsRow', WHERE WHAT IT READS IS OF BULK AT MOST 1048576: true; the input reads as it did. -/
def atomsRowUptoRow : OpenClaim := { program := "ytbffcehaednefaa", sum := "b570a2551d3a68fcf95986898cdf125d28e4a2eed5af3f664fbcc5d0c52008dd", func := "cooper/cooperlaw11.AtomsRow", spec := "atomsRow", plainKeys := false, apart := false, narrowed := true }
def AtomsRowUptoSaid : Prop := atomsRowUptoRow.holds Try.pinned (OpenSpec.upto atomsRowSpec)

/-- 'cooperlaw15.OrderCircle', WHERE WHAT IT READS IS OF BULK AT MOST 1048576: true; the input reads as it did. -/
def orderCircleUptoRow : OpenClaim := { program := "ytbffcehaednefaa", sum := "b570a2551d3a68fcf95986898cdf125d28e4a2eed5af3f664fbcc5d0c52008dd", func := "cooper/cooperlaw15.OrderCircle", spec := "orderCircle", plainKeys := false, apart := false, narrowed := true }
def OrderCircleUptoSaid : Prop := orderCircleUptoRow.holds Try.pinned (OpenSpec.upto orderCircleSpec)

/-- 'cooperlaw15.OrderMore', WHERE WHAT IT READS IS OF BULK AT MOST 1048576: true; the input reads as it did. -/
def orderMoreUptoRow : OpenClaim := { program := "ytbffcehaednefaa", sum := "b570a2551d3a68fcf95986898cdf125d28e4a2eed5af3f664fbcc5d0c52008dd", func := "cooper/cooperlaw15.OrderMore", spec := "orderMore", plainKeys := false, apart := false, narrowed := true }
def OrderMoreUptoSaid : Prop := orderMoreUptoRow.holds Try.pinned (OpenSpec.upto orderMoreSpec)

/-- 'cooperlaw20.LubyForget', WHERE WHAT IT READS IS OF BULK AT MOST 1048576: true; the input reads as it did. -/
def lubyForgetUptoRow : OpenClaim := { program := "ytbffcehaednefaa", sum := "b570a2551d3a68fcf95986898cdf125d28e4a2eed5af3f664fbcc5d0c52008dd", func := "cooper/cooperlaw20.LubyForget", spec := "lubyForget", unfollowed := true, recurses := true, plainKeys := false, apart := false, narrowed := true }
def LubyForgetUptoSaid : Prop := lubyForgetUptoRow.holds Try.pinned (OpenSpec.upto lubyForgetSpec)

end Rows
end Go.Proofs.Ytbffcehaednefaa
