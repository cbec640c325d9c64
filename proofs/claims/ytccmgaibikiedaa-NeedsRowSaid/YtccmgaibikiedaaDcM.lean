/- Recipes: the example. -/
import Derived.Test.YtccmgaibikiedaaDcL
import Derived.RegionTactic
import Derived.Deep.RegionWith
import Derived.Deep.RegionHeld3
namespace Go.Proofs.Ytccmgaibikiedaa.Dc
open Go.RowKit
set_option linter.unusedVariables false
set_option linter.unusedSimpArgs false
def exB : ByteArray := ⟨#[97]⟩
def exP : Pk := ⟨exB, 3, [], [], [], [], [], []⟩
def exR : Rc := ⟨[exP], []⟩
theorem nil_slice {α : Type} {k : Nat} {D : Dec α} {w : World} {B : Nat} : sliceD k D w B [.slice none 0 0] [] := ⟨none, 0, 0, rfl, rfl, Nat.le_refl _, Nat.zero_le _, .inl rfl⟩
abbrev exV : Array Value := #[.string exB, .int .i64 3, .slice none 0 0, .slice none 0 0, .slice none 0 0, .slice none 0 0, .slice none 0 0, .slice none 0 0]
theorem ex_dec (w : World) : rcD (w.alloc (.cells exV 45)) (w.heap.size + 1) [.slice (some ⟨w.heap.size, 0, none⟩) 1 1, .slice none 0 0] exR := by
  refine ⟨rfl, ⟨_, _, _, rfl, rfl, Nat.le_refl _, by unfold maxLen; omega, .inr ⟨w.heap.size, 0, rfl, Nat.lt_succ_self _, fun j y hj => ?_⟩⟩, nil_slice⟩
  match j, hj with
  | 0, hj =>
    simp only [exR, List.getElem?_cons_zero, Option.some.injEq] at hj
    subst hj
    refine ⟨exV.toList, rfl, fun i hi => ?_, rfl, ⟨rfl, by unfold maxLen; decide⟩, ⟨rfl, by decide, by decide⟩, nil_slice, nil_slice, nil_slice, nil_slice, nil_slice, nil_slice⟩
    rw [Nat.zero_mul, Nat.add_zero, Nat.zero_add]
    have h := heap_alloc_new w (.cells exV 45)
    match i, hi with
    | 0, _ => exact blk_cell h rfl
    | 1, _ => exact blk_cell h rfl
    | 2, _ => exact blk_cell h rfl
    | 3, _ => exact blk_cell h rfl
    | 4, _ => exact blk_cell h rfl
    | 5, _ => exact blk_cell h rfl
    | 6, _ => exact blk_cell h rfl
    | 7, _ => exact blk_cell h rfl
set_option maxHeartbeats 1000000 in
set_option maxRecDepth 100000 in
theorem fixed_any (w : World) : Calls Try.prog 9 #[] w fun e w' => e = .returned (.bool true) ∧ Below w.heap.size w w' := by
  have C1 := Lib.hid (recipe_norel (ex_dec w) (by simp) (by decide) (by decide) (p := exP) rfl (by show (if eqB exB exB then ((0 : Nat) : Int) else _) = 0; rw [if_pos ((eqB_iff _ _).2 rfl)]; rfl) rfl rfl)
  have B0 : Hid (Below w.heap.size w (w.alloc (.cells exV 45))) := Lib.hid ((Below.refl _ _).alloc (Nat.le_refl _) _)
  go_enter Try.func9, Try.ntmps9
  go_wp2_with (go_at_call 10; refine C1.out.mono ?_; rintro e w1 ⟨rfl, hb1⟩; have BZ := Lib.hid (B0.out.trans (hb1.mono B0.out.size)); clear hb1)
  go_ret
  exact ⟨rfl, BZ.out⟩

end Go.Proofs.Ytccmgaibikiedaa.Dc
