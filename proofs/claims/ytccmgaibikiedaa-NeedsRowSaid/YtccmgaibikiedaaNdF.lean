/- What may be needed: the chapter's example. -/
import Derived.Test.YtccmgaibikiedaaNdD
namespace Go.Proofs.Ytccmgaibikiedaa.Dc
open Go.RowKit
set_option linter.unusedVariables false
set_option linter.unusedSimpArgs false
def bA : ByteArray := ⟨#[97]⟩
def bB : ByteArray := ⟨#[98]⟩
def bC : ByteArray := ⟨#[99]⟩
def bX : ByteArray := ⟨#[120]⟩
def bOn : ByteArray := ⟨#[111, 110]⟩
def nB : ByteArray := ⟨#[]⟩
def pk0 (nm : ByteArray) (l : List Dep) : Pk := ⟨nm, 0, [], [], [], l, [], []⟩
def exD : Dep := ⟨⟨bB, [], []⟩, ⟨nB, [], [(bX, bOn)]⟩, 0⟩
def exX : Rc := ⟨[pk0 bC [], pk0 bB [], pk0 bA [exD]], []⟩
def exQ : List Rt := [⟨⟨bA, [], []⟩, 0⟩]
abbrev nS : Value := .slice none 0 0
abbrev e0 : Array Value := #[.string bX, .string bOn]
abbrev e1 (w : World) : Array Value := #[.string bB, nS, nS, .string nB, nS, .slice (some ⟨w.heap.size, 0, none⟩) 1 1, .int .i64 0]
abbrev e2 (w : World) : Array Value := #[.string bC, .int .i64 0, nS, nS, nS, nS, nS, nS, .string bB, .int .i64 0, nS, nS, nS, nS, nS, nS, .string bA, .int .i64 0, nS, nS, nS, .slice (some ⟨w.heap.size + 1, 0, none⟩) 1 1, nS, nS]
abbrev e3 (w : World) : Array Value := #[.slice (some ⟨w.heap.size + 1 + 1, 0, none⟩) 3 3, nS]
abbrev e4 : Array Value := #[.string bA, nS, nS, .int .i64 0]
theorem blk_get {w : World} {b : Nat} {cs : Array Value} {t : TypeId} {fr : Nat × Nat} (j : Nat) (h : w.heap[b]? = some (.cells cs t fr)) : w.cell? ⟨b, j, none⟩ = cs[j]? := by simp [World.cell?, h]
theorem small {s : ByteArray} (h : s.size ≤ 2) : s.size ≤ maxLen := by unfold maxLen; omega
section
variable {w W : World} (h : Bxs w [(e0, 75), (e1 w, 77), (e2 w, 45), (e3 w, 25), (e4, 72)] W)
include h
theorem ex_sets : sliceD 2 pr2D W W.heap.size [.slice (some ⟨w.heap.size, 0, none⟩) 1 1] [(bX, bOn)] := by
  refine ⟨_, _, _, rfl, rfl, Nat.le_refl _, by unfold maxLen; omega, .inr ⟨w.heap.size, 0, rfl, lt_of_block (h.box 0 _ rfl), fun j y hj => ?_⟩⟩
  match j, hj with
  | 0, hj =>
    obtain rfl := Option.some.inj hj
    refine ⟨[.string bX, .string bOn], rfl, fun i hi => ?_, rfl, ⟨rfl, small (by decide)⟩, ⟨rfl, small (by decide)⟩⟩
    rw [blk_get (b := w.heap.size) _ (h.box 0 _ rfl)]
    match i, hi with
    | 0, _ => rfl
    | 1, _ => rfl
theorem ex_deps : sliceD 7 depD W W.heap.size [.slice (some ⟨w.heap.size + 1, 0, none⟩) 1 1] [exD] := by
  refine ⟨_, _, _, rfl, rfl, Nat.le_refl _, by unfold maxLen; omega, .inr ⟨w.heap.size + 1, 0, rfl, lt_of_block (h.box 1 _ rfl), fun j y hj => ?_⟩⟩
  match j, hj with
  | 0, hj =>
    obtain rfl := Option.some.inj hj
    refine ⟨(e1 w).toList, rfl, fun i hi => ?_, rfl, ⟨rfl, ⟨rfl, small (by decide)⟩, nil_slice, nil_slice⟩, ⟨rfl, ⟨rfl, small (by decide)⟩, nil_slice, ex_sets h⟩, ⟨rfl, by decide, by decide⟩⟩
    rw [blk_get (b := w.heap.size + 1) _ (h.box 1 _ rfl)]
    match i, hi with
    | 0, _ => rfl
    | 1, _ => rfl
    | 2, _ => rfl
    | 3, _ => rfl
    | 4, _ => rfl
    | 5, _ => rfl
    | 6, _ => rfl
theorem ex_rc : rcD W W.heap.size [.slice (some ⟨w.heap.size + 1 + 1, 0, none⟩) 3 3, .slice none 0 0] exX := by
  refine ⟨rfl, ⟨_, _, _, rfl, rfl, Nat.le_refl _, by unfold maxLen; omega, .inr ⟨w.heap.size + 1 + 1, 0, rfl, lt_of_block (h.box 2 _ rfl), fun j y hj => ?_⟩⟩, nil_slice⟩
  have hb := h.box 2 _ rfl
  match j, hj with
  | 0, hj =>
    obtain rfl := Option.some.inj hj
    refine ⟨[.string bC, .int .i64 0, nS, nS, nS, nS, nS, nS], rfl, fun i hi => ?_, rfl, ⟨rfl, small (by decide)⟩, ⟨rfl, by decide, by decide⟩, nil_slice, nil_slice, nil_slice, nil_slice, nil_slice, nil_slice⟩
    rw [blk_get (b := w.heap.size + 1 + 1) _ hb]
    match i, hi with
    | 0, _ => rfl
    | 1, _ => rfl
    | 2, _ => rfl
    | 3, _ => rfl
    | 4, _ => rfl
    | 5, _ => rfl
    | 6, _ => rfl
    | 7, _ => rfl
  | 1, hj =>
    obtain rfl := Option.some.inj hj
    refine ⟨[.string bB, .int .i64 0, nS, nS, nS, nS, nS, nS], rfl, fun i hi => ?_, rfl, ⟨rfl, small (by decide)⟩, ⟨rfl, by decide, by decide⟩, nil_slice, nil_slice, nil_slice, nil_slice, nil_slice, nil_slice⟩
    rw [blk_get (b := w.heap.size + 1 + 1) _ hb]
    match i, hi with
    | 0, _ => rfl
    | 1, _ => rfl
    | 2, _ => rfl
    | 3, _ => rfl
    | 4, _ => rfl
    | 5, _ => rfl
    | 6, _ => rfl
    | 7, _ => rfl
  | 2, hj =>
    obtain rfl := Option.some.inj hj
    refine ⟨[.string bA, .int .i64 0, nS, nS, nS, .slice (some ⟨w.heap.size + 1, 0, none⟩) 1 1, nS, nS], rfl, fun i hi => ?_, rfl, ⟨rfl, small (by decide)⟩, ⟨rfl, by decide, by decide⟩, nil_slice, nil_slice, nil_slice, ex_deps h, nil_slice, nil_slice⟩
    rw [blk_get (b := w.heap.size + 1 + 1) _ hb]
    match i, hi with
    | 0, _ => rfl
    | 1, _ => rfl
    | 2, _ => rfl
    | 3, _ => rfl
    | 4, _ => rfl
    | 5, _ => rfl
    | 6, _ => rfl
    | 7, _ => rfl
theorem ex_rq : rqD W W.heap.size [.slice (some ⟨w.heap.size + 1 + 1 + 1 + 1, 0, none⟩) 1 1] exQ := by
  refine ⟨rfl, ⟨_, _, _, rfl, rfl, Nat.le_refl _, by unfold maxLen; omega, .inr ⟨w.heap.size + 1 + 1 + 1 + 1, 0, rfl, lt_of_block (h.box 4 _ rfl), fun j y hj => ?_⟩⟩⟩
  match j, hj with
  | 0, hj =>
    obtain rfl := Option.some.inj hj
    refine ⟨e4.toList, rfl, fun i hi => ?_, rfl, ⟨rfl, ⟨rfl, small (by decide)⟩, nil_slice, nil_slice⟩, ⟨rfl, by decide, by decide⟩⟩
    rw [blk_get (b := w.heap.size + 1 + 1 + 1 + 1) _ (h.box 4 _ rfl)]
    match i, hi with
    | 0, _ => rfl
    | 1, _ => rfl
    | 2, _ => rfl
    | 3, _ => rfl
end
theorem eqB_no {a b : ByteArray} (h : a ≠ b) : eqB a b = false := by
  cases e : eqB a b with
  | false => rfl
  | true => exact absurd ((eqB_iff _ _).1 e) h
theorem ne_ba {a b : Array UInt8} (h : a ≠ b) : (⟨a⟩ : ByteArray) ≠ ⟨b⟩ := fun e => h (by injection e)
theorem ex_whole : wholeF exX exQ = [2, 1] := by
  have ca : eqB bC bA = false := eqB_no (ne_ba (by decide))
  have ba : eqB bB bA = false := eqB_no (ne_ba (by decide))
  have cb : eqB bC bB = false := eqB_no (ne_ba (by decide))
  have aa : eqB bA bA = true := (eqB_iff _ _).2 rfl
  have bb : eqB bB bB = true := (eqB_iff _ _).2 rfl
  have fa : findF exX.packs bA = 2 := by simp [findF, findG, nmB, exX, pk0, ca, ba, aa]
  have fb : findF exX.packs bB = 1 := by simp [findF, findG, nmB, exX, pk0, cb, bb]
  have ta : tgtF exX bA = [2] := by unfold tgtF; rw [fa]; rfl
  have tb : tgtF exX bB = [1] := by unfold tgtF; rw [fb]; rfl
  have r : rootsF exX exQ = [2] := by
    show seeF exX [] bA = [2]
    unfold seeF; rw [ta]; rfl
  have b1 : bfsF exX [2] 1 = [2, 1] := by
    show depsL exX [2] [exD] = [2, 1]
    show seeF exX [2] bB = [2, 1]
    unfold seeF; rw [tb]; rfl
  have b2 : bfsF exX [2] 2 = [2, 1] := by
    have e : (bfsF exX [2] 1)[1]? = some 1 := by rw [b1]; rfl
    rw [bfs_next e, b1]; rfl
  have b3 : bfsF exX [2] 3 = [2, 1] := (bfs_stop (x := exX) (L0 := [2]) (i := 2) (by rw [b2]; exact Nat.le_refl _) 1).trans b2
  unfold wholeF
  rw [r]
  exact b3
theorem ex_clos : closF exX exQ = [1, 2] := by
  unfold closF
  rw [ex_whole]
  rw [mergeSort_of_perm_i (List.Perm.swap (2 : Int) 1 []).symm]
  exact List.mergeSort_of_pairwise (by decide)

end Go.Proofs.Ytccmgaibikiedaa.Dc
