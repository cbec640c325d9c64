/-
  No cell of these rows narrows 'for every input' (looked for: loops, veiled, ifaces, maps, wideKeys, modest, calm, conditions, laid).
  DERIVED. THE GIVEN ROWS OF THIS SEAT. 12 by the template 'for every input the law returns true; each argument reads behind the call as it read before'; 0 by the template 'total and deterministic' (their statements: YtapconhgcoefeaaTotals.lean).
  GIVEN WITH THE SEED: the statements are not yours to turn. If you find one false, say at which input.
  Laid BY PROGRAM, IN A SANDBOX (cutbox-rows.mjs): the forced cells as the released guide's own fill.sh prints them over the translation 018dbb9918967b2a… (all of the seat's roots in one cut). By AI agents, Wed Nov 11 2026. No macro, syntax, notation, axiom, sorry.
-/
import Derived.Test.YtapconhgcoefeaaChecked
import GoSem.Claim
import GoSem.ClaimJoined
import GoSem.ClaimMapViews
import Derived.JoinedTies
import Derived.KernelRfl
namespace Go.Proofs.Ytapconhgcoefeaa
/- THE CELL 'sum', in the pinned program and in every row, IS THE sha256 OF THE DUMP (.gsa) THAT YtapconhgcoefeaaProg.lean LOADS. Nothing in Lean hashes anything: it is a label: what it is worth is what the hold of that sum in a sandbox is worth. -/
noncomputable def Try.pinned : Pinned := { name := "ytapconhgcoefeaa", sum := "018dbb9918967b2a7410ffff7245040f31da811f5a8ef005e8f6fe88df184a00", checked := Try.checked }
namespace Rows
def none {H : Type} : Left H := { results := [], args := [] }

/-- 'cooperlaw20.LubyNil': WHATEVER THE INPUT: true; the input reads as it did. -/
def lubyNilSpec : ChangeSpec := { name := "lubyNil", fn := fun _ => fun
  | [d] => { results := [.lit (.bool true)], args := [d] }
  | _ => none }
def lubyNilRow : OpenClaim := { program := "ytapconhgcoefeaa", sum := "018dbb9918967b2a7410ffff7245040f31da811f5a8ef005e8f6fe88df184a00", func := "cooper/cooperlaw20.LubyNil", spec := "lubyNil", plainKeys := false, apart := false }
def LubyNilSaid : Prop := lubyNilRow.holds Try.pinned (OpenSpec.ofChange lubyNilSpec)

/-- ITS FALSE NEIGHBOUR: 'it returns false'. Refute it at one input. -/
def lubyNilWrong : ChangeSpec := { name := "lubyNil", fn := fun _ => fun
  | [d] => { results := [.lit (.bool false)], args := [d] }
  | _ => none }
def LubyNilWrongFalsely : Prop := lubyNilRow.holds Try.pinned (OpenSpec.ofChange lubyNilWrong)

/-- 'cooperlaw20.LubySums': WHATEVER THE INPUT: true; the input reads as it did. -/
def lubySumsSpec : ChangeSpec := { name := "lubySums", fn := fun _ => fun
  | [d] => { results := [.lit (.bool true)], args := [d] }
  | _ => none }
def lubySumsRow : OpenClaim := { program := "ytapconhgcoefeaa", sum := "018dbb9918967b2a7410ffff7245040f31da811f5a8ef005e8f6fe88df184a00", func := "cooper/cooperlaw20.LubySums", spec := "lubySums", plainKeys := false, apart := false }
def LubySumsSaid : Prop := lubySumsRow.holds Try.pinned (OpenSpec.ofChange lubySumsSpec)

/-- ITS FALSE NEIGHBOUR: 'it returns false'. Refute it at one input. -/
def lubySumsWrong : ChangeSpec := { name := "lubySums", fn := fun _ => fun
  | [d] => { results := [.lit (.bool false)], args := [d] }
  | _ => none }
def LubySumsWrongFalsely : Prop := lubySumsRow.holds Try.pinned (OpenSpec.ofChange lubySumsWrong)

/-- 'cooperlaw20.LubyRow': WHATEVER THE INPUT: true; the input reads as it did. -/
def lubyRowSpec : ChangeSpec := { name := "lubyRow", fn := fun _ => fun
  | [d1, d2] => { results := [.lit (.bool true)], args := [d1, d2] }
  | _ => none }
def lubyRowRow : OpenClaim := { program := "ytapconhgcoefeaa", sum := "018dbb9918967b2a7410ffff7245040f31da811f5a8ef005e8f6fe88df184a00", func := "cooper/cooperlaw20.LubyRow", spec := "lubyRow", plainKeys := false, apart := false }
def LubyRowSaid : Prop := lubyRowRow.holds Try.pinned (OpenSpec.ofChange lubyRowSpec)

/-- ITS FALSE NEIGHBOUR: 'it returns false'. Refute it at one input. -/
def lubyRowWrong : ChangeSpec := { name := "lubyRow", fn := fun _ => fun
  | [d1, d2] => { results := [.lit (.bool false)], args := [d1, d2] }
  | _ => none }
def LubyRowWrongFalsely : Prop := lubyRowRow.holds Try.pinned (OpenSpec.ofChange lubyRowWrong)

/-- 'cooperlaw20.LubyPace': WHATEVER THE INPUT: true; the input reads as it did. -/
def lubyPaceSpec : ChangeSpec := { name := "lubyPace", fn := fun _ => fun
  | [d1, d2, d3] => { results := [.lit (.bool true)], args := [d1, d2, d3] }
  | _ => none }
def lubyPaceRow : OpenClaim := { program := "ytapconhgcoefeaa", sum := "018dbb9918967b2a7410ffff7245040f31da811f5a8ef005e8f6fe88df184a00", func := "cooper/cooperlaw20.LubyPace", spec := "lubyPace", plainKeys := false, apart := false }
def LubyPaceSaid : Prop := lubyPaceRow.holds Try.pinned (OpenSpec.ofChange lubyPaceSpec)

/-- ITS FALSE NEIGHBOUR: 'it returns false'. Refute it at one input. -/
def lubyPaceWrong : ChangeSpec := { name := "lubyPace", fn := fun _ => fun
  | [d1, d2, d3] => { results := [.lit (.bool false)], args := [d1, d2, d3] }
  | _ => none }
def LubyPaceWrongFalsely : Prop := lubyPaceRow.holds Try.pinned (OpenSpec.ofChange lubyPaceWrong)

/-- 'cooperlaw20.LubyForget': WHATEVER THE INPUT: true; the input reads as it did. -/
def lubyForgetSpec : ChangeSpec := { name := "lubyForget", fn := fun _ => fun
  | [d] => { results := [.lit (.bool true)], args := [d] }
  | _ => none }
def lubyForgetRow : OpenClaim := { program := "ytapconhgcoefeaa", sum := "018dbb9918967b2a7410ffff7245040f31da811f5a8ef005e8f6fe88df184a00", func := "cooper/cooperlaw20.LubyForget", spec := "lubyForget", unfollowed := true, recurses := true, plainKeys := false, apart := false }
def LubyForgetSaid : Prop := lubyForgetRow.holds Try.pinned (OpenSpec.ofChange lubyForgetSpec)

/-- ITS FALSE NEIGHBOUR: 'it returns false'. Refute it at one input. -/
def lubyForgetWrong : ChangeSpec := { name := "lubyForget", fn := fun _ => fun
  | [d] => { results := [.lit (.bool false)], args := [d] }
  | _ => none }
def LubyForgetWrongFalsely : Prop := lubyForgetRow.holds Try.pinned (OpenSpec.ofChange lubyForgetWrong)

/-- 'cooperlaw11.AtomsNil': WHATEVER THE INPUT: true; the input reads as it did. -/
def atomsNilSpec : ChangeSpec := { name := "atomsNil", fn := fun _ => fun
  | [d1, d2] => { results := [.lit (.bool true)], args := [d1, d2] }
  | _ => none }
def atomsNilRow : OpenClaim := { program := "ytapconhgcoefeaa", sum := "018dbb9918967b2a7410ffff7245040f31da811f5a8ef005e8f6fe88df184a00", func := "cooper/cooperlaw11.AtomsNil", spec := "atomsNil", plainKeys := false, apart := false }
def AtomsNilSaid : Prop := atomsNilRow.holds Try.pinned (OpenSpec.ofChange atomsNilSpec)

/-- ITS FALSE NEIGHBOUR: 'it returns false'. Refute it at one input. -/
def atomsNilWrong : ChangeSpec := { name := "atomsNil", fn := fun _ => fun
  | [d1, d2] => { results := [.lit (.bool false)], args := [d1, d2] }
  | _ => none }
def AtomsNilWrongFalsely : Prop := atomsNilRow.holds Try.pinned (OpenSpec.ofChange atomsNilWrong)

/-- 'cooperlaw11.AtomsRow': WHATEVER THE INPUT: true; the input reads as it did. -/
def atomsRowSpec : ChangeSpec := { name := "atomsRow", fn := fun _ => fun
  | [d1, d2] => { results := [.lit (.bool true)], args := [d1, d2] }
  | _ => none }
def atomsRowRow : OpenClaim := { program := "ytapconhgcoefeaa", sum := "018dbb9918967b2a7410ffff7245040f31da811f5a8ef005e8f6fe88df184a00", func := "cooper/cooperlaw11.AtomsRow", spec := "atomsRow", plainKeys := false, apart := false }
def AtomsRowSaid : Prop := atomsRowRow.holds Try.pinned (OpenSpec.ofChange atomsRowSpec)

/-- ITS FALSE NEIGHBOUR: 'it returns false'. Refute it at one input. -/
def atomsRowWrong : ChangeSpec := { name := "atomsRow", fn := fun _ => fun
  | [d1, d2] => { results := [.lit (.bool false)], args := [d1, d2] }
  | _ => none }
def AtomsRowWrongFalsely : Prop := atomsRowRow.holds Try.pinned (OpenSpec.ofChange atomsRowWrong)

/-- 'cooperlaw17.HeapNil': WHATEVER THE INPUT: true; the input reads as it did. -/
def heapNilSpec : ChangeSpec := { name := "heapNil", fn := fun _ => fun
  | [d1, d2] => { results := [.lit (.bool true)], args := [d1, d2] }
  | _ => none }
def heapNilRow : OpenClaim := { program := "ytapconhgcoefeaa", sum := "018dbb9918967b2a7410ffff7245040f31da811f5a8ef005e8f6fe88df184a00", func := "cooper/cooperlaw17.HeapNil", spec := "heapNil", plainKeys := false, apart := false }
def HeapNilSaid : Prop := heapNilRow.holds Try.pinned (OpenSpec.ofChange heapNilSpec)

/-- ITS FALSE NEIGHBOUR: 'it returns false'. Refute it at one input. -/
def heapNilWrong : ChangeSpec := { name := "heapNil", fn := fun _ => fun
  | [d1, d2] => { results := [.lit (.bool false)], args := [d1, d2] }
  | _ => none }
def HeapNilWrongFalsely : Prop := heapNilRow.holds Try.pinned (OpenSpec.ofChange heapNilWrong)

/-- 'cooperlaw17.HeapAll': WHATEVER THE INPUT: true; the input reads as it did. -/
def heapAllSpec : ChangeSpec := { name := "heapAll", fn := fun _ => fun
  | [d] => { results := [.lit (.bool true)], args := [d] }
  | _ => none }
def heapAllRow : OpenClaim := { program := "ytapconhgcoefeaa", sum := "018dbb9918967b2a7410ffff7245040f31da811f5a8ef005e8f6fe88df184a00", func := "cooper/cooperlaw17.HeapAll", spec := "heapAll", plainKeys := false, apart := false }
def HeapAllSaid : Prop := heapAllRow.holds Try.pinned (OpenSpec.ofChange heapAllSpec)

/-- ITS FALSE NEIGHBOUR: 'it returns false'. Refute it at one input. -/
def heapAllWrong : ChangeSpec := { name := "heapAll", fn := fun _ => fun
  | [d] => { results := [.lit (.bool false)], args := [d] }
  | _ => none }
def HeapAllWrongFalsely : Prop := heapAllRow.holds Try.pinned (OpenSpec.ofChange heapAllWrong)

/-- 'cooperlaw17.HeapAgain': WHATEVER THE INPUT: true; the input reads as it did. -/
def heapAgainSpec : ChangeSpec := { name := "heapAgain", fn := fun _ => fun
  | [d1, d2] => { results := [.lit (.bool true)], args := [d1, d2] }
  | _ => none }
def heapAgainRow : OpenClaim := { program := "ytapconhgcoefeaa", sum := "018dbb9918967b2a7410ffff7245040f31da811f5a8ef005e8f6fe88df184a00", func := "cooper/cooperlaw17.HeapAgain", spec := "heapAgain", plainKeys := false, apart := false }
def HeapAgainSaid : Prop := heapAgainRow.holds Try.pinned (OpenSpec.ofChange heapAgainSpec)

/-- ITS FALSE NEIGHBOUR: 'it returns false'. Refute it at one input. -/
def heapAgainWrong : ChangeSpec := { name := "heapAgain", fn := fun _ => fun
  | [d1, d2] => { results := [.lit (.bool false)], args := [d1, d2] }
  | _ => none }
def HeapAgainWrongFalsely : Prop := heapAgainRow.holds Try.pinned (OpenSpec.ofChange heapAgainWrong)

/-- 'cooperlaw17.HeapPlays': WHATEVER THE INPUT: true; the input reads as it did. -/
def heapPlaysSpec : ChangeSpec := { name := "heapPlays", fn := fun _ => fun
  | [d1, d2] => { results := [.lit (.bool true)], args := [d1, d2] }
  | _ => none }
def heapPlaysRow : OpenClaim := { program := "ytapconhgcoefeaa", sum := "018dbb9918967b2a7410ffff7245040f31da811f5a8ef005e8f6fe88df184a00", func := "cooper/cooperlaw17.HeapPlays", spec := "heapPlays", plainKeys := false, apart := false }
def HeapPlaysSaid : Prop := heapPlaysRow.holds Try.pinned (OpenSpec.ofChange heapPlaysSpec)

/-- ITS FALSE NEIGHBOUR: 'it returns false'. Refute it at one input. -/
def heapPlaysWrong : ChangeSpec := { name := "heapPlays", fn := fun _ => fun
  | [d1, d2] => { results := [.lit (.bool false)], args := [d1, d2] }
  | _ => none }
def HeapPlaysWrongFalsely : Prop := heapPlaysRow.holds Try.pinned (OpenSpec.ofChange heapPlaysWrong)

/-- 'cooperlaw04.VariantNames': WHATEVER THE INPUT: true; the input reads as it did. -/
def variantNamesSpec : ChangeSpec := { name := "variantNames", fn := fun _ => fun
  | [d] => { results := [.lit (.bool true)], args := [d] }
  | _ => none }
def variantNamesRow : OpenClaim := { program := "ytapconhgcoefeaa", sum := "018dbb9918967b2a7410ffff7245040f31da811f5a8ef005e8f6fe88df184a00", func := "cooper/cooperlaw04.VariantNames", spec := "variantNames", unfollowed := true, recurses := true, plainKeys := false, apart := false }
def VariantNamesSaid : Prop := variantNamesRow.holds Try.pinned (OpenSpec.ofChange variantNamesSpec)

/-- ITS FALSE NEIGHBOUR: 'it returns false'. Refute it at one input. -/
def variantNamesWrong : ChangeSpec := { name := "variantNames", fn := fun _ => fun
  | [d] => { results := [.lit (.bool false)], args := [d] }
  | _ => none }
def VariantNamesWrongFalsely : Prop := variantNamesRow.holds Try.pinned (OpenSpec.ofChange variantNamesWrong)

/- THE SECOND FORM. 'bulk': how many values and letters a reading holds, each counted each time it is reached (what is shared counts as often as it is met; a slice's spare places count too). A statement '..UptoSaid' is the law's where the arguments, and the package variables that the reading takes, are together of bulk at most 1048576: NARROWER than '..Said'. Prove '..Said' where nothing that the law and all that it calls make is longer than what came in: it says more and counts as full. Else prove '..UptoSaid'. A law counts once. -/
mutual
def uptoBulk {H : Type} : DataW H → Nat
  | .lit (.string bytes) => bytes.length + 1
  | .lit _ => 1
  | .nil => 1
  | .ptr d => uptoBulk d + 1
  | .slice elems spare => uptoBulkAll elems + uptoBulkAll spare + 1
  | .agg parts => uptoBulkAll parts + 1
  | .iface _ d => uptoBulk d + 1
  | .map entries => uptoBulkEntries entries + 1
  | .held _ => 1
def uptoBulkAll {H : Type} : List (DataW H) → Nat
  | [] => 0
  | d :: r => uptoBulk d + uptoBulkAll r
def uptoBulkEntries {H : Type} : List (Lit × DataW H) → Nat
  | [] => 0
  | x :: r => uptoBulkEntry x + uptoBulkEntries r
def uptoBulkEntry {H : Type} : Lit × DataW H → Nat
  | (.string bytes, d) => bytes.length + uptoBulk d + 1
  | (_, d) => uptoBulk d + 1
 end
def uptoSmall : (H : Type) → List (DataW H) → Bool := fun _ ds => decide (uptoBulkAll ds ≤ 1048576)
def OpenSpec.upto (s : _root_.Go.ChangeSpec) : _root_.Go.OpenSpec := { _root_.Go.OpenSpec.ofChange s with cond := some uptoSmall }

/-- 'cooperlaw20.LubyNil', WHERE WHAT IT READS IS OF BULK AT MOST 1048576: true; the input reads as it did. -/
def lubyNilUptoRow : OpenClaim := { program := "ytapconhgcoefeaa", sum := "018dbb9918967b2a7410ffff7245040f31da811f5a8ef005e8f6fe88df184a00", func := "cooper/cooperlaw20.LubyNil", spec := "lubyNil", plainKeys := false, apart := false, narrowed := true }
def LubyNilUptoSaid : Prop := lubyNilUptoRow.holds Try.pinned (OpenSpec.upto lubyNilSpec)

/-- 'cooperlaw20.LubySums', WHERE WHAT IT READS IS OF BULK AT MOST 1048576: true; the input reads as it did. -/
def lubySumsUptoRow : OpenClaim := { program := "ytapconhgcoefeaa", sum := "018dbb9918967b2a7410ffff7245040f31da811f5a8ef005e8f6fe88df184a00", func := "cooper/cooperlaw20.LubySums", spec := "lubySums", plainKeys := false, apart := false, narrowed := true }
def LubySumsUptoSaid : Prop := lubySumsUptoRow.holds Try.pinned (OpenSpec.upto lubySumsSpec)

/-- 'cooperlaw20.LubyRow', WHERE WHAT IT READS IS OF BULK AT MOST 1048576: true; the input reads as it did. -/
def lubyRowUptoRow : OpenClaim := { program := "ytapconhgcoefeaa", sum := "018dbb9918967b2a7410ffff7245040f31da811f5a8ef005e8f6fe88df184a00", func := "cooper/cooperlaw20.LubyRow", spec := "lubyRow", plainKeys := false, apart := false, narrowed := true }
def LubyRowUptoSaid : Prop := lubyRowUptoRow.holds Try.pinned (OpenSpec.upto lubyRowSpec)

/-- 'cooperlaw20.LubyPace', WHERE WHAT IT READS IS OF BULK AT MOST 1048576: true; the input reads as it did. -/
def lubyPaceUptoRow : OpenClaim := { program := "ytapconhgcoefeaa", sum := "018dbb9918967b2a7410ffff7245040f31da811f5a8ef005e8f6fe88df184a00", func := "cooper/cooperlaw20.LubyPace", spec := "lubyPace", plainKeys := false, apart := false, narrowed := true }
def LubyPaceUptoSaid : Prop := lubyPaceUptoRow.holds Try.pinned (OpenSpec.upto lubyPaceSpec)

/-- 'cooperlaw20.LubyForget', WHERE WHAT IT READS IS OF BULK AT MOST 1048576: true; the input reads as it did. -/
def lubyForgetUptoRow : OpenClaim := { program := "ytapconhgcoefeaa", sum := "018dbb9918967b2a7410ffff7245040f31da811f5a8ef005e8f6fe88df184a00", func := "cooper/cooperlaw20.LubyForget", spec := "lubyForget", unfollowed := true, recurses := true, plainKeys := false, apart := false, narrowed := true }
def LubyForgetUptoSaid : Prop := lubyForgetUptoRow.holds Try.pinned (OpenSpec.upto lubyForgetSpec)

/-- 'cooperlaw11.AtomsNil', WHERE WHAT IT READS IS OF BULK AT MOST 1048576: true; the input reads as it did. -/
def atomsNilUptoRow : OpenClaim := { program := "ytapconhgcoefeaa", sum := "018dbb9918967b2a7410ffff7245040f31da811f5a8ef005e8f6fe88df184a00", func := "cooper/cooperlaw11.AtomsNil", spec := "atomsNil", plainKeys := false, apart := false, narrowed := true }
def AtomsNilUptoSaid : Prop := atomsNilUptoRow.holds Try.pinned (OpenSpec.upto atomsNilSpec)

/-- 'cooperlaw11.AtomsRow', WHERE WHAT IT READS IS OF BULK AT MOST 1048576: true; the input reads as it did. -/
def atomsRowUptoRow : OpenClaim := { program := "ytapconhgcoefeaa", sum := "018dbb9918967b2a7410ffff7245040f31da811f5a8ef005e8f6fe88df184a00", func := "cooper/cooperlaw11.AtomsRow", spec := "atomsRow", plainKeys := false, apart := false, narrowed := true }
def AtomsRowUptoSaid : Prop := atomsRowUptoRow.holds Try.pinned (OpenSpec.upto atomsRowSpec)

/-- 'cooperlaw17.HeapNil', WHERE WHAT IT READS IS OF BULK AT MOST 1048576: true; the input reads as it did. -/
def heapNilUptoRow : OpenClaim := { program := "ytapconhgcoefeaa", sum := "018dbb9918967b2a7410ffff7245040f31da811f5a8ef005e8f6fe88df184a00", func := "cooper/cooperlaw17.HeapNil", spec := "heapNil", plainKeys := false, apart := false, narrowed := true }
def HeapNilUptoSaid : Prop := heapNilUptoRow.holds Try.pinned (OpenSpec.upto heapNilSpec)

/-- 'cooperlaw17.HeapAll', WHERE WHAT IT READS IS OF BULK AT MOST 1048576: true; the input reads as it did. -/
def heapAllUptoRow : OpenClaim := { program := "ytapconhgcoefeaa", sum := "018dbb9918967b2a7410ffff7245040f31da811f5a8ef005e8f6fe88df184a00", func := "cooper/cooperlaw17.HeapAll", spec := "heapAll", plainKeys := false, apart := false, narrowed := true }
def HeapAllUptoSaid : Prop := heapAllUptoRow.holds Try.pinned (OpenSpec.upto heapAllSpec)

/-- 'cooperlaw17.HeapAgain', WHERE WHAT IT READS IS OF BULK AT MOST 1048576: true; the input reads as it did. -/
def heapAgainUptoRow : OpenClaim := { program := "ytapconhgcoefeaa", sum := "018dbb9918967b2a7410ffff7245040f31da811f5a8ef005e8f6fe88df184a00", func := "cooper/cooperlaw17.HeapAgain", spec := "heapAgain", plainKeys := false, apart := false, narrowed := true }
def HeapAgainUptoSaid : Prop := heapAgainUptoRow.holds Try.pinned (OpenSpec.upto heapAgainSpec)

/-- 'cooperlaw17.HeapPlays', WHERE WHAT IT READS IS OF BULK AT MOST 1048576: true; the input reads as it did. -/
def heapPlaysUptoRow : OpenClaim := { program := "ytapconhgcoefeaa", sum := "018dbb9918967b2a7410ffff7245040f31da811f5a8ef005e8f6fe88df184a00", func := "cooper/cooperlaw17.HeapPlays", spec := "heapPlays", plainKeys := false, apart := false, narrowed := true }
def HeapPlaysUptoSaid : Prop := heapPlaysUptoRow.holds Try.pinned (OpenSpec.upto heapPlaysSpec)

/-- 'cooperlaw04.VariantNames', WHERE WHAT IT READS IS OF BULK AT MOST 1048576: true; the input reads as it did. -/
def variantNamesUptoRow : OpenClaim := { program := "ytapconhgcoefeaa", sum := "018dbb9918967b2a7410ffff7245040f31da811f5a8ef005e8f6fe88df184a00", func := "cooper/cooperlaw04.VariantNames", spec := "variantNames", unfollowed := true, recurses := true, plainKeys := false, apart := false, narrowed := true }
def VariantNamesUptoSaid : Prop := variantNamesUptoRow.holds Try.pinned (OpenSpec.upto variantNamesSpec)

end Rows
end Go.Proofs.Ytapconhgcoefeaa
