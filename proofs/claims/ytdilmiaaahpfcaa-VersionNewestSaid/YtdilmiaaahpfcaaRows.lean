/-
  No cell of these rows narrows 'for every input' (looked for: loops, veiled, ifaces, maps, wideKeys, modest, calm, conditions, laid).
  DERIVED. THE GIVEN ROWS OF THIS SEAT. 3 by the template 'for every input the law returns true; each argument reads behind the call as it read before'; 0 by the template 'total and deterministic' (their statements: YtdilmiaaahpfcaaTotals.lean).
  GIVEN WITH THE SEED: the statements are not yours to turn. If you find one false, say at which input.
  Laid BY PROGRAM, IN A SANDBOX (cutbox-rows.mjs): the forced cells as the released guide's own fill.sh prints them over the translation 76b729d3c8e846e4… (all of the seat's roots in one cut). By AI agents, Wed Nov 11 2026. No macro, syntax, notation, axiom, sorry.
-/
import Derived.Test.YtdilmiaaahpfcaaChecked
import GoSem.Claim
import GoSem.ClaimJoined
import GoSem.ClaimMapViews
import Derived.JoinedTies
import Derived.KernelRfl
namespace Go.Proofs.Ytdilmiaaahpfcaa
/- THE CELL 'sum', in the pinned program and in every row, IS THE sha256 OF THE DUMP (.gsa) THAT YtdilmiaaahpfcaaProg.lean LOADS. Nothing in Lean hashes anything: it is a label: what it is worth is what the hold of that sum in a sandbox is worth. -/
noncomputable def Try.pinned : Pinned := { name := "ytdilmiaaahpfcaa", sum := "76b729d3c8e846e4a272db3e34dc019b97b6b0990ce9a8b8532d49a0ed470b19", checked := Try.checked }
namespace Rows
def none {H : Type} : Left H := { results := [], args := [] }

/-- 'cooperlaw01.VersionMay': WHATEVER THE INPUT: true; the input reads as it did. -/
def versionMaySpec : ChangeSpec := { name := "versionMay", fn := fun _ => fun
  | [d] => { results := [.lit (.bool true)], args := [d] }
  | _ => none }
def versionMayRow : OpenClaim := { program := "ytdilmiaaahpfcaa", sum := "76b729d3c8e846e4a272db3e34dc019b97b6b0990ce9a8b8532d49a0ed470b19", func := "cooper/cooperlaw01.VersionMay", spec := "versionMay", inPlace := ["internal/bytealg.IndexByteString", "internal/bytealg.IndexString", "internal/bytealg.abigen_runtime_cmpstring"], unfollowed := true, recurses := true, named := ["internal/bytealg.MaxLen"], apart := false }
def VersionMaySaid : Prop := versionMayRow.holds Try.pinned (OpenSpec.ofChange versionMaySpec)

/-- ITS FALSE NEIGHBOUR: 'it returns false'. Refute it at one input. -/
def versionMayWrong : ChangeSpec := { name := "versionMay", fn := fun _ => fun
  | [d] => { results := [.lit (.bool false)], args := [d] }
  | _ => none }
def VersionMayWrongFalsely : Prop := versionMayRow.holds Try.pinned (OpenSpec.ofChange versionMayWrong)

/-- 'cooperlaw01.VersionCompare': WHATEVER THE INPUT: true; the input reads as it did. -/
def versionCompareSpec : ChangeSpec := { name := "versionCompare", fn := fun _ => fun
  | [d1, d2, d3] => { results := [.lit (.bool true)], args := [d1, d2, d3] }
  | _ => none }
def versionCompareRow : OpenClaim := { program := "ytdilmiaaahpfcaa", sum := "76b729d3c8e846e4a272db3e34dc019b97b6b0990ce9a8b8532d49a0ed470b19", func := "cooper/cooperlaw01.VersionCompare", spec := "versionCompare", inPlace := ["internal/bytealg.IndexByteString", "internal/bytealg.IndexString", "internal/bytealg.abigen_runtime_cmpstring"], unfollowed := true, recurses := true, named := ["internal/bytealg.MaxLen"], apart := false }
def VersionCompareSaid : Prop := versionCompareRow.holds Try.pinned (OpenSpec.ofChange versionCompareSpec)

/-- ITS FALSE NEIGHBOUR: 'it returns false'. Refute it at one input. -/
def versionCompareWrong : ChangeSpec := { name := "versionCompare", fn := fun _ => fun
  | [d1, d2, d3] => { results := [.lit (.bool false)], args := [d1, d2, d3] }
  | _ => none }
def VersionCompareWrongFalsely : Prop := versionCompareRow.holds Try.pinned (OpenSpec.ofChange versionCompareWrong)

/-- 'cooperlaw01.VersionNewest': WHATEVER THE INPUT: true; the input reads as it did. -/
def versionNewestSpec : ChangeSpec := { name := "versionNewest", fn := fun _ => fun
  | [d] => { results := [.lit (.bool true)], args := [d] }
  | _ => none }
def versionNewestRow : OpenClaim := { program := "ytdilmiaaahpfcaa", sum := "76b729d3c8e846e4a272db3e34dc019b97b6b0990ce9a8b8532d49a0ed470b19", func := "cooper/cooperlaw01.VersionNewest", spec := "versionNewest", inPlace := ["internal/bytealg.IndexByteString", "internal/bytealg.IndexString", "internal/bytealg.abigen_runtime_cmpstring"], unfollowed := true, recurses := true, named := ["internal/bytealg.MaxLen"], apart := false }
def VersionNewestSaid : Prop := versionNewestRow.holds Try.pinned (OpenSpec.ofChange versionNewestSpec)

/-- ITS FALSE NEIGHBOUR: 'it returns false'. Refute it at one input. -/
def versionNewestWrong : ChangeSpec := { name := "versionNewest", fn := fun _ => fun
  | [d] => { results := [.lit (.bool false)], args := [d] }
  | _ => none }
def VersionNewestWrongFalsely : Prop := versionNewestRow.holds Try.pinned (OpenSpec.ofChange versionNewestWrong)

/- THE SECOND FORM. 'bulk': how many values and letters a reading holds, each counted each time it is reached (what is shared counts as often as it is met; a slice's spare places count too). A statement '..UptoSaid' is the law's where the arguments, and the package variables that the reading takes, are together of bulk at most 1048576: NARROWER than '..Said'. Prove '..Said' where nothing that the law and all that it calls make is longer than what came in: it says more and counts as full. Else prove '..UptoSaid'. A law counts once. -/
mutual
def uptoBulk {H : Type} : DataW H → Nat
  | .lit (.string bytes) => bytes.length + 1
  | .lit _ => 1
  | .nil => 1
  | .ptr d => uptoBulk d + 1
  | .slice elems spare => uptoBulkAll elems + uptoBulkAll spare + 1
  | .agg parts => uptoBulkAll parts + 1
  | .iface _ d => uptoBulk d + 1
  | .map entries => uptoBulkEntries entries + 1
  | .held _ => 1
def uptoBulkAll {H : Type} : List (DataW H) → Nat
  | [] => 0
  | d :: r => uptoBulk d + uptoBulkAll r
def uptoBulkEntries {H : Type} : List (Lit × DataW H) → Nat
  | [] => 0
  | x :: r => uptoBulkEntry x + uptoBulkEntries r
def uptoBulkEntry {H : Type} : Lit × DataW H → Nat
  | (.string bytes, d) => bytes.length + uptoBulk d + 1
  | (_, d) => uptoBulk d + 1
 end
def uptoSmall : (H : Type) → List (DataW H) → Bool := fun _ ds => decide (uptoBulkAll ds ≤ 1048576)
def OpenSpec.upto (s : _root_.Go.ChangeSpec) : _root_.Go.OpenSpec := { _root_.Go.OpenSpec.ofChange s with cond := some uptoSmall }

/-- 'cooperlaw01.VersionMay', WHERE WHAT IT READS IS OF BULK AT MOST 1048576: true; the input reads as it did. -/
def versionMayUptoRow : OpenClaim := { program := "ytdilmiaaahpfcaa", sum := "76b729d3c8e846e4a272db3e34dc019b97b6b0990ce9a8b8532d49a0ed470b19", func := "cooper/cooperlaw01.VersionMay", spec := "versionMay", inPlace := ["internal/bytealg.IndexByteString", "internal/bytealg.IndexString", "internal/bytealg.abigen_runtime_cmpstring"], unfollowed := true, recurses := true, named := ["internal/bytealg.MaxLen"], apart := false, narrowed := true }
def VersionMayUptoSaid : Prop := versionMayUptoRow.holds Try.pinned (OpenSpec.upto versionMaySpec)

/-- 'cooperlaw01.VersionCompare', WHERE WHAT IT READS IS OF BULK AT MOST 1048576: true; the input reads as it did. -/
def versionCompareUptoRow : OpenClaim := { program := "ytdilmiaaahpfcaa", sum := "76b729d3c8e846e4a272db3e34dc019b97b6b0990ce9a8b8532d49a0ed470b19", func := "cooper/cooperlaw01.VersionCompare", spec := "versionCompare", inPlace := ["internal/bytealg.IndexByteString", "internal/bytealg.IndexString", "internal/bytealg.abigen_runtime_cmpstring"], unfollowed := true, recurses := true, named := ["internal/bytealg.MaxLen"], apart := false, narrowed := true }
def VersionCompareUptoSaid : Prop := versionCompareUptoRow.holds Try.pinned (OpenSpec.upto versionCompareSpec)

/-- 'cooperlaw01.VersionNewest', WHERE WHAT IT READS IS OF BULK AT MOST 1048576: true; the input reads as it did. -/
def versionNewestUptoRow : OpenClaim := { program := "ytdilmiaaahpfcaa", sum := "76b729d3c8e846e4a272db3e34dc019b97b6b0990ce9a8b8532d49a0ed470b19", func := "cooper/cooperlaw01.VersionNewest", spec := "versionNewest", inPlace := ["internal/bytealg.IndexByteString", "internal/bytealg.IndexString", "internal/bytealg.abigen_runtime_cmpstring"], unfollowed := true, recurses := true, named := ["internal/bytealg.MaxLen"], apart := false, narrowed := true }
def VersionNewestUptoSaid : Prop := versionNewestUptoRow.holds Try.pinned (OpenSpec.upto versionNewestSpec)

end Rows
end Go.Proofs.Ytdilmiaaahpfcaa
