/-
  No cell of these rows narrows 'for every input' (looked for: loops, veiled, ifaces, maps, wideKeys, modest, calm, conditions, laid).
  DERIVED. THE GIVEN ROWS OF THIS SEAT. 5 by the template 'for every input the law returns true; each argument reads behind the call as it read before'; 0 by the template 'total and deterministic' (their statements: YtcjcnhnpjcgcmaaTotals.lean).
  GIVEN WITH THE SEED: the statements are not yours to turn. If you find one false, say at which input.
  Laid BY PROGRAM, IN A SANDBOX (cutbox-rows.mjs): the forced cells as the released guide's own fill.sh prints them over the translation 9dd248368b19c7ae… (all of the seat's roots in one cut). By AI agents, Wed Nov 11 2026. No macro, syntax, notation, axiom, sorry.
-/
import Derived.Test.YtcjcnhnpjcgcmaaChecked
import GoSem.Claim
import GoSem.ClaimJoined
import GoSem.ClaimMapViews
import Derived.JoinedTies
import Derived.KernelRfl
namespace Go.Proofs.Ytcjcnhnpjcgcmaa
/- THE CELL 'sum', in the pinned program and in every row, IS THE sha256 OF THE DUMP (.gsa) THAT YtcjcnhnpjcgcmaaProg.lean LOADS. Nothing in Lean hashes anything: it is a label: what it is worth is what the hold of that sum in a sandbox is worth. -/
noncomputable def Try.pinned : Pinned := { name := "ytcjcnhnpjcgcmaa", sum := "9dd248368b19c7ae3040092474ce2b9e4f311591268a4a5dcb3a1bd8ccacff57", checked := Try.checked }
namespace Rows
def none {H : Type} : Left H := { results := [], args := [] }

/-- 'cooperlaw12.CnfForm': WHATEVER THE INPUT: true; the input reads as it did. -/
def cnfFormSpec : ChangeSpec := { name := "cnfForm", fn := fun _ => fun
  | [d1, d2] => { results := [.lit (.bool true)], args := [d1, d2] }
  | _ => none }
def cnfFormRow : OpenClaim := { program := "ytcjcnhnpjcgcmaa", sum := "9dd248368b19c7ae3040092474ce2b9e4f311591268a4a5dcb3a1bd8ccacff57", func := "cooper/cooperlaw12.CnfForm", spec := "cnfForm", unfollowed := true, recurses := true, plainKeys := false, apart := false }
def CnfFormSaid : Prop := cnfFormRow.holds Try.pinned (OpenSpec.ofChange cnfFormSpec)

/-- ITS FALSE NEIGHBOUR: 'it returns false'. Refute it at one input. -/
def cnfFormWrong : ChangeSpec := { name := "cnfForm", fn := fun _ => fun
  | [d1, d2] => { results := [.lit (.bool false)], args := [d1, d2] }
  | _ => none }
def CnfFormWrongFalsely : Prop := cnfFormRow.holds Try.pinned (OpenSpec.ofChange cnfFormWrong)

/-- 'cooperlaw12.CnfJoins': WHATEVER THE INPUT: true; the input reads as it did. -/
def cnfJoinsSpec : ChangeSpec := { name := "cnfJoins", fn := fun _ => fun
  | [d1, d2, d3, d4] => { results := [.lit (.bool true)], args := [d1, d2, d3, d4] }
  | _ => none }
def cnfJoinsRow : OpenClaim := { program := "ytcjcnhnpjcgcmaa", sum := "9dd248368b19c7ae3040092474ce2b9e4f311591268a4a5dcb3a1bd8ccacff57", func := "cooper/cooperlaw12.CnfJoins", spec := "cnfJoins", unfollowed := true, recurses := true, plainKeys := false, apart := false }
def CnfJoinsSaid : Prop := cnfJoinsRow.holds Try.pinned (OpenSpec.ofChange cnfJoinsSpec)

/-- ITS FALSE NEIGHBOUR: 'it returns false'. Refute it at one input. -/
def cnfJoinsWrong : ChangeSpec := { name := "cnfJoins", fn := fun _ => fun
  | [d1, d2, d3, d4] => { results := [.lit (.bool false)], args := [d1, d2, d3, d4] }
  | _ => none }
def CnfJoinsWrongFalsely : Prop := cnfJoinsRow.holds Try.pinned (OpenSpec.ofChange cnfJoinsWrong)

/-- 'cooperlaw12.CnfForms': WHATEVER THE INPUT: true; the input reads as it did. -/
def cnfFormsSpec : ChangeSpec := { name := "cnfForms", fn := fun _ => fun
  | [d1, d2] => { results := [.lit (.bool true)], args := [d1, d2] }
  | _ => none }
def cnfFormsRow : OpenClaim := { program := "ytcjcnhnpjcgcmaa", sum := "9dd248368b19c7ae3040092474ce2b9e4f311591268a4a5dcb3a1bd8ccacff57", func := "cooper/cooperlaw12.CnfForms", spec := "cnfForms", unfollowed := true, recurses := true, plainKeys := false, apart := false }
def CnfFormsSaid : Prop := cnfFormsRow.holds Try.pinned (OpenSpec.ofChange cnfFormsSpec)

/-- ITS FALSE NEIGHBOUR: 'it returns false'. Refute it at one input. -/
def cnfFormsWrong : ChangeSpec := { name := "cnfForms", fn := fun _ => fun
  | [d1, d2] => { results := [.lit (.bool false)], args := [d1, d2] }
  | _ => none }
def CnfFormsWrongFalsely : Prop := cnfFormsRow.holds Try.pinned (OpenSpec.ofChange cnfFormsWrong)

/-- 'cooperlaw23.TotalRepeat': WHATEVER THE INPUT: true; the input reads as it did. -/
def totalRepeatSpec : ChangeSpec := { name := "totalRepeat", fn := fun _ => fun
  | [d1, d2] => { results := [.lit (.bool true)], args := [d1, d2] }
  | _ => none }
def totalRepeatRow : OpenClaim := { program := "ytcjcnhnpjcgcmaa", sum := "9dd248368b19c7ae3040092474ce2b9e4f311591268a4a5dcb3a1bd8ccacff57", func := "cooper/cooperlaw23.TotalRepeat", spec := "totalRepeat", unfollowed := true, recurses := true, plainKeys := false, apart := false }
def TotalRepeatSaid : Prop := totalRepeatRow.holds Try.pinned (OpenSpec.ofChange totalRepeatSpec)

/-- ITS FALSE NEIGHBOUR: 'it returns false'. Refute it at one input. -/
def totalRepeatWrong : ChangeSpec := { name := "totalRepeat", fn := fun _ => fun
  | [d1, d2] => { results := [.lit (.bool false)], args := [d1, d2] }
  | _ => none }
def TotalRepeatWrongFalsely : Prop := totalRepeatRow.holds Try.pinned (OpenSpec.ofChange totalRepeatWrong)

/-- 'cooperlaw23.TotalLimit': WHATEVER THE INPUT: true; the input reads as it did. -/
def totalLimitSpec : ChangeSpec := { name := "totalLimit", fn := fun _ => fun
  | [d1, d2, d3] => { results := [.lit (.bool true)], args := [d1, d2, d3] }
  | _ => none }
def totalLimitRow : OpenClaim := { program := "ytcjcnhnpjcgcmaa", sum := "9dd248368b19c7ae3040092474ce2b9e4f311591268a4a5dcb3a1bd8ccacff57", func := "cooper/cooperlaw23.TotalLimit", spec := "totalLimit", unfollowed := true, recurses := true, plainKeys := false, apart := false }
def TotalLimitSaid : Prop := totalLimitRow.holds Try.pinned (OpenSpec.ofChange totalLimitSpec)

/-- ITS FALSE NEIGHBOUR: 'it returns false'. Refute it at one input. -/
def totalLimitWrong : ChangeSpec := { name := "totalLimit", fn := fun _ => fun
  | [d1, d2, d3] => { results := [.lit (.bool false)], args := [d1, d2, d3] }
  | _ => none }
def TotalLimitWrongFalsely : Prop := totalLimitRow.holds Try.pinned (OpenSpec.ofChange totalLimitWrong)

/- THE SECOND FORM. 'bulk': how many values and letters a reading holds, each counted each time it is reached (what is shared counts as often as it is met; a slice's spare places count too). A statement '..UptoSaid' is the law's where the arguments, and the package variables that the reading takes, are together of bulk at most 1048576: NARROWER than '..Said'. Prove '..Said' where nothing that the law and all that it calls make is longer than what came in: it says more and counts as full. Else prove '..UptoSaid'. A law counts once. -/
mutual
def uptoBulk {H : Type} : DataW H → Nat
  | .lit (.string bytes) => bytes.length + 1
  | .lit _ => 1
  | .nil => 1
  | .ptr d => uptoBulk d + 1
  | .slice elems spare => uptoBulkAll elems + uptoBulkAll spare + 1
  | .agg parts => uptoBulkAll parts + 1
  | .iface _ d => uptoBulk d + 1
  | .map entries => uptoBulkEntries entries + 1
  | .held _ => 1
def uptoBulkAll {H : Type} : List (DataW H) → Nat
  | [] => 0
  | d :: r => uptoBulk d + uptoBulkAll r
def uptoBulkEntries {H : Type} : List (Lit × DataW H) → Nat
  | [] => 0
  | x :: r => uptoBulkEntry x + uptoBulkEntries r
def uptoBulkEntry {H : Type} : Lit × DataW H → Nat
  | (.string bytes, d) => bytes.length + uptoBulk d + 1
  | (_, d) => uptoBulk d + 1
 end
def uptoSmall : (H : Type) → List (DataW H) → Bool := fun _ ds => decide (uptoBulkAll ds ≤ 1048576)
def OpenSpec.upto (s : _root_.Go.ChangeSpec) : _root_.Go.OpenSpec := { _root_.Go.OpenSpec.ofChange s with cond := some uptoSmall }

/-- 'cooperlaw12.CnfForm', WHERE WHAT IT READS IS OF BULK AT MOST 1048576: true; the input reads as it did. -/
def cnfFormUptoRow : OpenClaim := { program := "ytcjcnhnpjcgcmaa", sum := "9dd248368b19c7ae3040092474ce2b9e4f311591268a4a5dcb3a1bd8ccacff57", func := "cooper/cooperlaw12.CnfForm", spec := "cnfForm", unfollowed := true, recurses := true, plainKeys := false, apart := false, narrowed := true }
def CnfFormUptoSaid : Prop := cnfFormUptoRow.holds Try.pinned (OpenSpec.upto cnfFormSpec)

/-- 'cooperlaw12.CnfJoins', WHERE WHAT IT READS IS OF BULK AT MOST 1048576: true; the input reads as it did. -/
def cnfJoinsUptoRow : OpenClaim := { program := "ytcjcnhnpjcgcmaa", sum := "9dd248368b19c7ae3040092474ce2b9e4f311591268a4a5dcb3a1bd8ccacff57", func := "cooper/cooperlaw12.CnfJoins", spec := "cnfJoins", unfollowed := true, recurses := true, plainKeys := false, apart := false, narrowed := true }
def CnfJoinsUptoSaid : Prop := cnfJoinsUptoRow.holds Try.pinned (OpenSpec.upto cnfJoinsSpec)

/-- 'cooperlaw12.CnfForms', WHERE WHAT IT READS IS OF BULK AT MOST 1048576: true; the input reads as it did. -/
def cnfFormsUptoRow : OpenClaim := { program := "ytcjcnhnpjcgcmaa", sum := "9dd248368b19c7ae3040092474ce2b9e4f311591268a4a5dcb3a1bd8ccacff57", func := "cooper/cooperlaw12.CnfForms", spec := "cnfForms", unfollowed := true, recurses := true, plainKeys := false, apart := false, narrowed := true }
def CnfFormsUptoSaid : Prop := cnfFormsUptoRow.holds Try.pinned (OpenSpec.upto cnfFormsSpec)

/-- 'cooperlaw23.TotalRepeat', WHERE WHAT IT READS IS OF BULK AT MOST 1048576: true; the input reads as it did. -/
def totalRepeatUptoRow : OpenClaim := { program := "ytcjcnhnpjcgcmaa", sum := "9dd248368b19c7ae3040092474ce2b9e4f311591268a4a5dcb3a1bd8ccacff57", func := "cooper/cooperlaw23.TotalRepeat", spec := "totalRepeat", unfollowed := true, recurses := true, plainKeys := false, apart := false, narrowed := true }
def TotalRepeatUptoSaid : Prop := totalRepeatUptoRow.holds Try.pinned (OpenSpec.upto totalRepeatSpec)

/-- 'cooperlaw23.TotalLimit', WHERE WHAT IT READS IS OF BULK AT MOST 1048576: true; the input reads as it did. -/
def totalLimitUptoRow : OpenClaim := { program := "ytcjcnhnpjcgcmaa", sum := "9dd248368b19c7ae3040092474ce2b9e4f311591268a4a5dcb3a1bd8ccacff57", func := "cooper/cooperlaw23.TotalLimit", spec := "totalLimit", unfollowed := true, recurses := true, plainKeys := false, apart := false, narrowed := true }
def TotalLimitUptoSaid : Prop := totalLimitUptoRow.holds Try.pinned (OpenSpec.upto totalLimitSpec)

end Rows
end Go.Proofs.Ytcjcnhnpjcgcmaa
