/- Counts: the chapter's example, whole. -/
import Derived.Test.YtcjcnhnpjcgcmaaTotB
import Derived.Test.YtcjcnhnpjcgcmaaCnfK
namespace Go.Proofs.Ytcjcnhnpjcgcmaa.Tot
set_option linter.unusedVariables false
set_option linter.unusedSimpArgs false
open Go.RowKit Go.Maps
open Go.Proofs.Ytcjcnhnpjcgcmaa.Order (IRow ERow add_at)
open Go.Proofs.Ytcjcnhnpjcgcmaa.Cnf (Bd bstep ret_bool)

theorem box_facts {w w1 : World} {o : Obj} {x : Int} (h : w1 = (w.alloc o).alloc (.cells #[.int .i64 x] 3)) : w1.cell? ⟨w.heap.size + 1, 0, none⟩ = some (.int .i64 x) ∧ w.heap.size + 1 < w1.heap.size ∧ Below w.heap.size w w1 := by
  subst h
  refine ⟨?_, by simp, ((Below.refl _ _).alloc (Nat.le_refl _) _).alloc (by simp) _⟩
  have h := heap_alloc_new (w.alloc o) (.cells #[.int .i64 x] 3)
  rw [World.size_alloc] at h
  exact blk_cell (j := 0) h rfl
set_option maxHeartbeats 2000000 in
set_option maxRecDepth 100000 in
theorem Count_one {w : World} (pt pb : Addr) (r : Nat) (hr : r < w.heap.size) (h0 : w.cell? ⟨r, 0, none⟩ = some (.int .i64 1)) :
    Calls Try.prog 21 #[.pointer (some pt), .pointer (some pb), .slice (some ⟨r, 0, none⟩) 1 1, .int .i64 5] w fun e w' => ∃ s, e = .returned (.slice (some ⟨s, 0, none⟩) 1 1) ∧ w'.cell? ⟨s, 0, none⟩ = some (.int .i64 1) ∧ s < w'.heap.size ∧ Below w.heap.size w w' := by
  have hl : IRow w w.heap.size (some ⟨r, 0, none⟩) [1] := by
    refine .inr ⟨r, 0, rfl, hr, fun j hj => ?_⟩
    match j, hj with
    | 0, _ => exact h0
  have C1 : Hid (Calls Try.prog 40 #[.slice (some ⟨r, 0, none⟩) 1 1, .int .i64 0] w fun e w' => e = .returned (.bool false) ∧ w = w') := Lib.hid (Cnf.contains_any (some ⟨r, 0, none⟩) [1] 1 1 0 w hl rfl (by unfold maxLen; omega))
  have C2 : Hid (Calls Try.prog 40 #[.slice (some ⟨r, 0, none⟩) 1 1, .int .i64 (-9223372036854775808)] w fun e w' => e = .returned (.bool false) ∧ w = w') := Lib.hid (Cnf.contains_any (some ⟨r, 0, none⟩) [1] 1 1 (-9223372036854775808) w hl rfl (by unfold maxLen; omega))
  have HR := Lib.hid hr
  have HC := Lib.hid h0
  clear hl h0
  go_enter Try.func21, Try.ntmps21
  go_wp2_with fail
  refine C1.out.mono ?_
  rintro e w' ⟨rfl, rfl⟩
  go_wp2_with fail
  refine C2.out.mono ?_
  rintro e w' ⟨rfl, rfl⟩
  go_wp2_with fail
  have CN := fun (c : Value) (o : Obj) => count_one (W := w.alloc o) c (some ⟨r, 0, none⟩) 1 r rfl 1 (((Below.refl w.heap.size w).alloc (Nat.le_refl _) o).cell (p := ⟨r, 0, none⟩) HR.out |>.trans HC.out)
  refine (CN _ _).mono ?_
  rintro e w1 ⟨rfl, hw1⟩
  have R : Hid (w1.cell? ⟨w.heap.size + 1, 0, none⟩ = some (.int .i64 1) ∧ w.heap.size + 1 < w1.heap.size ∧ Below w.heap.size w w1) := Lib.hid (box_facts hw1)
  clear hw1 CN C1 C2
  go_wp2_with fail
  go_ret
  exact ⟨w.heap.size + 1, by simp, R.out⟩

set_option maxHeartbeats 2000000 in
set_option maxRecDepth 100000 in
theorem fixed_any (w : World) : Calls Try.prog 16 #[] w fun e w' => e = .returned (.bool true) ∧ Below w.heap.size w w' := by
  go_enter Try.func16, Try.ntmps16
  go_wp2_with fail
  refine (new5 w).mono ?_
  rintro e w1 ⟨rfl, ht1, ho1, hb1⟩
  have T1 := Lib.hid ht1
  have O1 := Lib.hid ho1
  have B1 := Lib.hid hb1
  clear ht1 ho1 hb1
  go_wp2_with fail
  refine (Cnf.new_any w1).mono ?_
  rintro e w2 ⟨rfl, hbd, hb2⟩
  have T2 : Hid (Tab w2 w.heap.size (.slice none 0 0)) := Lib.hid ((hb2.block _ (lt_of_block T1.out)).trans T1.out)
  have O2 : Hid (Om w2 w.heap.size 0 (.map [])) := Lib.hid (O1.out.kept (row := none) ⟨hb2.os, hb2.tape, hb2.output, hb2.size, fun k hk _ => hb2.block k hk⟩ (by simp))
  have B2 := Lib.hid (B1.out.trans (hb2.mono B1.out.size))
  have G2 := Lib.hid hbd.blk
  have L1 : Hid (w.heap.size + 1 < w1.heap.size) := Lib.hid (lt_of_block T1.out)
  have L2 : Hid (w1.heap.size < w2.heap.size) := Lib.hid hbd.lt.1
  have HF := Lib.hid (help_first T2.out O2.out)
  clear hbd hb2
  go_wp2_with fail
  refine HF.out.mono ?_
  rintro e w3 ⟨rfl, _, hb3, hfr⟩
  have G3 := Lib.hid ((hfr w1.heap.size L2.out (by have := L1.out; omega) (by have := L1.out; omega)).trans G2.out)
  have B3 : Hid (Below w.heap.size w w3) := Lib.hid (B2.out.trans hb3)
  have CO : Hid (Calls Try.prog 21 #[.pointer (some ⟨w.heap.size + 1, 0, none⟩), .pointer (some ⟨w1.heap.size, 0, none⟩), .slice (some ⟨w3.heap.size, 0, none⟩) 1 1, .int .i64 5] (w3.alloc (.cells #[.int .i64 1] 3)) fun e w' => ∃ s, e = .returned (.slice (some ⟨s, 0, none⟩) 1 1) ∧ w'.cell? ⟨s, 0, none⟩ = some (.int .i64 1) ∧ s < w'.heap.size ∧ Below (w3.alloc (.cells #[.int .i64 1] 3)).heap.size (w3.alloc (.cells #[.int .i64 1] 3)) w') := Lib.hid
    (Count_one _ _ w3.heap.size (by simp) (blk_cell (j := 0) (heap_alloc_new w3 _) rfl))
  clear hb3 hfr HF
  go_wp2_with fail
  refine CO.out.mono ?_
  rintro e w4 ⟨s, rfl, hs, hsz, hb4⟩
  have b34 : Below w3.heap.size w3 w4 := ((Below.refl w3.heap.size w3).alloc (Nat.le_refl _) _).trans (hb4.mono (by simp))
  have G4 := (b34.block w1.heap.size (lt_of_block G3.out)).trans G3.out
  have BD : Bd w.heap.size w1.heap.size none 0 0 [] [] false false w4 := ⟨G4, by have := L1.out; omega, World.ownsRow_nil _ _ _ _, rfl, by simp [Value.ownBlock], fun i => by simp, fun i hi => absurd hi (Nat.not_lt_zero _)⟩
  have CL := Lib.hid (Cnf.clauses_any BD (by omega))
  have B4 := Lib.hid (B3.out.trans (b34.mono B3.out.size))
  clear b34 G4 BD hb4 CO hsz
  go_wp2_with fail
  refine CL.out.mono ?_
  rintro e w5 ⟨rfl, _, hb5⟩
  have B5 := Lib.hid (B4.out.trans (hb5.mono B4.out.size))
  clear hb5
  go_wp2_with fail
  go_ret
  exact ⟨rfl, B5.out⟩

end Go.Proofs.Ytcjcnhnpjcgcmaa.Tot
