/- The law on recipes' first problems: walked. -/
import Derived.Test.YtccmgaibikiedaaDeH
import Derived.Test.YtccmgaibikiedaaDcN
import Derived.Laws.StructEq
namespace Go.Proofs.Ytccmgaibikiedaa.Dc
open Go.RowKit
set_option linter.unusedVariables false
set_option linter.unusedSimpArgs false
/-- one box. -/
structure One (w : World) (c0 : Array Value) (t0 : TypeId) (W : World) : Prop where
  b0 : W.heap[w.heap.size]? = some (.cells c0 t0 (0, 0))
  below : Below w.heap.size w W
theorem One.start (w : World) (c0 : Array Value) (t0 : TypeId) : One w c0 t0 (w.alloc (.cells c0 t0)) := ⟨heap_alloc_new w _, (Below.refl _ _).alloc (Nat.le_refl _) _⟩
theorem One.step {w W W' : World} {c0 : Array Value} {t0 : TypeId} (h : One w c0 t0 W) (hb : Below W.heap.size W W') : One w c0 t0 W' :=
  ⟨(hb.block _ (lt_of_block h.b0)).trans h.b0, h.below.trans (hb.mono h.below.size)⟩
theorem One.drew {w W : World} {c0 : Array Value} {t0 : TypeId} (h : One w c0 t0 W) : One w c0 t0 W.drew := h.step (Below.refl _ _).drew
set_option maxRecDepth 100000 in
theorem eq_prob (z z' : Nat) (l l' : Int) (w : World) : (binOp .eql 29 (probV z l) (probV z' l')).run Try.prog w = .ok (.bool ((z : Int) == (z' : Int) && l == l')) w := by
  have u3 := Try.underlying3
  have u8 := Try.underlying5
  have hS : Try.prog.underlying 29 = some (.struct (Try.prog.fieldsOf 29)) := by kernel_rfl
  have hp : Try.prog.stoodInHeld 29 = false := by kernel_rfl
  rw [run_eql_struct, show (10000 : Nat) = 9999 + 1 from rfl, run_equalIn_agg w 9999 29 _ _ hS hp]
  simp only [Program.fieldsOf, Try.underlying29]
  go_simp
  by_cases h0 : (z : Int) = (z' : Int) <;> by_cases h1 : l = l' <;> simp [h0, h1]
set_option maxRecDepth 100000 in
theorem eq_prob_self (z : Nat) (l : Int) (w : World) : (binOp .eql 29 (probV z l) (probV z l)).run Try.prog w = .ok (.bool true) w := by
  rw [eq_prob]
  simp
set_option maxHeartbeats 8000000 in
set_option maxRecDepth 100000 in
theorem recipe_law {w : World} {x : Rc} {cs : List Value} (h : rcD w w.heap.size cs x) : Calls Try.prog 3 #[.agg cs.toArray] w fun e w' => e = .returned (.bool true) ∧ Below w.heap.size w w' := by
  obtain ⟨A1, n1, c1, A2, n2, c2, hcs, s1, s2⟩ := rc_cells h
  have R := Lib.hid (One.start w #[.slice A1 n1 c1, .slice A2 n2 c2] 25)
  have KC : Hid (∀ W, One w #[.slice A1 n1 c1, .slice A2 n2 c2] 25 W → W.cell? ⟨w.heap.size, 0, none⟩ = some (.slice A1 n1 c1) ∧ W.cell? ⟨w.heap.size, 1, none⟩ = some (.slice A2 n2 c2)) := Lib.hid (fun W hR => ⟨blk_cell (j := 0) hR.b0 rfl, blk_cell (j := 1) hR.b0 rfl⟩)
  have DR : Hid (∀ W, One w #[.slice A1 n1 c1, .slice A2 n2 c2] 25 W → rcD W w.heap.size [.slice A1 n1 c1, .slice A2 n2 c2] x ∧ w.heap.size ≤ W.heap.size) := Lib.hid (fun W hR => by
    have h3 := rc_stays _ _ _ _ _ _ h (Nat.le_refl _) hR.below
    rw [hcs] at h3
    exact ⟨h3, hR.below.size⟩)
  obtain ⟨g, hg⟩ : ∃ g, g = gRc x := ⟨_, rfl⟩
  have C0 : Hid (∀ W, One w #[.slice A1 n1 c1, .slice A2 n2 c2] 25 W → Calls Try.prog 8 #[.agg #[.slice A1 n1 c1, .slice A2 n2 c2]] W fun e w' => e = .returned (.bool g) ∧ Below W.heap.size W w') := Lib.hid (fun W hR => by
    rw [hg]; exact great_any (DR.out W hR).1 (DR.out W hR).2)
  have FX : Hid (∀ W, One w #[.slice A1 n1 c1, .slice A2 n2 c2] 25 W → Calls Try.prog 9 #[] W fun e w' => e = .returned (.bool true) ∧ Below W.heap.size W w') := Lib.hid (fun W _ => fixed_any W)
  have HL : Hid (g = false → x.packs.length ≤ 1000) := Lib.hid (fun e => by have := gRc_len (hg.symm.trans e); omega)
  obtain ⟨z, hz⟩ : ∃ z : Nat, z = (recF x).1 := ⟨_, rfl⟩
  obtain ⟨zl, hzl⟩ : ∃ z : Int, z = (recF x).2 := ⟨_, rfl⟩
  have C1 : Hid (g = false → ∀ W, One w #[.slice A1 n1 c1, .slice A2 n2 c2] 25 W → Calls Try.prog 10 #[.agg #[.slice A1 n1 c1, .slice A2 n2 c2]] W fun e w' => e = .returned (probV z zl) ∧ Below W.heap.size W w') := Lib.hid (fun e W hR => by
    rw [hz, hzl]; exact recipe_any (DR.out W hR).1 (DR.out W hR).2 (HL.out e))
  have C2 : Hid (g = false → ∀ W, One w #[.slice A1 n1 c1, .slice A2 n2 c2] 25 W → Calls Try.prog 11 #[.agg #[.slice A1 n1 c1, .slice A2 n2 c2]] W fun e w' => e = .returned (probV z zl) ∧ Below W.heap.size W w') := Lib.hid (fun e W hR => by
    rw [hz, hzl]; exact rrecipe_any (DR.out W hR).1 (DR.out W hR).2 (HL.out e))
  rw [hcs]
  clear h s1 s2 hcs hg hz hzl HL
  obtain ⟨k0, k1⟩ := KC.out _ R.out
  show Calls Try.prog _ #[.agg #[.slice A1 n1 c1, .slice A2 n2 c2]] w _
  cases g
  case true =>
    go_enter Try.func3, Try.ntmps3
    go_wp2_with (first | (go_at_call 8; (with_reducible refine (C0.out _ R.out).mono ?_); rintro e v1 ⟨rfl, hb⟩; have R := Lib.hid (R.out.step hb); clear hb; obtain ⟨k0, k1⟩ := KC.out _ R.out) | (go_at_call 9; (with_reducible refine (FX.out _ R.out).mono ?_); rintro e v1 ⟨rfl, hb⟩; have R := Lib.hid (R.out.step hb); clear hb; obtain ⟨k0, k1⟩ := KC.out _ R.out))
    go_ret
    exact ⟨rfl, R.out.below⟩
  have C3 := Lib.hid (C1.out rfl)
  have C4 := Lib.hid (C2.out rfl)
  have EQ := eq_prob_self z zl
  clear C1 C2
  go_enter Try.func3, Try.ntmps3
  go_wp2_with (go_at_call 8; (with_reducible refine (C0.out _ R.out).mono ?_); rintro e v1 ⟨rfl, hb⟩; have R := Lib.hid (R.out.step hb); clear hb; obtain ⟨k0, k1⟩ := KC.out _ R.out)
  have R := Lib.hid R.out.drew
  go_region_held3 (fun W => W.cell? ⟨w.heap.size, 0, none⟩ = some (.slice A1 n1 c1) ∧ W.cell? ⟨w.heap.size, 1, none⟩ = some (.slice A2 n2 c2))
    (first | exact KC.out _ R.out | go_keep)
    (first | (go_at_call 9; (with_reducible refine (FX.out _ R.out).mono ?_); rintro e v1 ⟨rfl, hb⟩; have R := Lib.hid (R.out.step hb); clear hb; obtain ⟨k0, k1⟩ := KC.out _ R.out) | (go_at_call 10; (with_reducible refine (C3.out _ R.out).mono ?_); rintro e v1 ⟨rfl, hb⟩; have R := Lib.hid (R.out.step hb); clear hb; obtain ⟨k0, k1⟩ := KC.out _ R.out) | (go_at_call 11; (with_reducible refine (C4.out _ R.out).mono ?_); rintro e v1 ⟨rfl, hb⟩; have R := Lib.hid (R.out.step hb); clear hb; obtain ⟨k0, k1⟩ := KC.out _ R.out))
  go_wp2_with fail
  go_ret
  exact ⟨rfl, R.out.below⟩

end Go.Proofs.Ytccmgaibikiedaa.Dc
