/- Texts of clauses: the head's two numbers. -/
import Derived.Test.YtlgakejjakeomaaDoorRdN
namespace Go.Proofs.YtlgakejjakeomaaDoor.Rd
set_option linter.unusedVariables false
set_option linter.unusedSimpArgs false
open Go.RowKit

/-- what a head is read as. -/
def HeadEnd (s : ByteArray) (w : World) (e : Ending) (w' : World) : Prop :=
  Below w.heap.size w w' ∧ ∃ (a c : Int) (ok : Bool), e = .returned (.tuple #[.int .i64 a, .int .i64 c, .bool ok]) ∧ -9223372036854775808 ≤ a ∧ a ≤ 9223372036854775807 ∧ -9223372036854775808 ≤ c ∧ c ≤ 9223372036854775807 ∧
    (ok = true → s.data.toList = [112, 32, 99, 110, 102, 32] ++ Lib.itoa a ++ 32 :: Lib.itoa c ∧ 0 ≤ a)
theorem head_no {s : ByteArray} {w w' : World} (hb : Below w.heap.size w w') : HeadEnd s w (.returned (.tuple #[.int .i64 0, .int .i64 0, .bool false])) w' :=
  ⟨hb, 0, 0, false, rfl, by omega, by omega, by omega, by omega, fun h => by cases h⟩
set_option maxHeartbeats 2000000 in
set_option maxRecDepth 100000 in
theorem head_any {B : Nat} {w : World} (h : LV B w) (hB : B ≤ w.heap.size) (s : ByteArray) (hs : s.size ≤ 3000) : Calls Tryd.prog 29 #[.string s] w (HeadEnd s w) := by
  have SP := Lib.hid (split_any s 32 hs w)
  have HV := Lib.hid h
  have HB := Lib.hid hB
  have HJ := Lib.hid (split_join 32 (Lib.countB s ⟨#[32]⟩) s)
  have HS := Lib.hid hs
  generalize Lib.splitB ⟨#[32]⟩ 0 (Lib.countB s ⟨#[32]⟩) s = Fs at SP HJ
  clear h hB hs
  go_enter Tryd.func29, Tryd.ntmps29
  go_wp2_with fail
  go_at_call 41; refine SP.out.mono ?_
  rintro e w1 ⟨N, rfl, hN, hw1⟩
  have B1 : Hid (Below w.heap.size w w1) := Lib.hid (by rw [hw1]; exact (Below.refl _ _).alloc (Nat.le_refl _) _)
  by_cases h4 : N = 4
  · subst h4
    obtain ⟨f0, f1, f2, f3, rfl⟩ : ∃ f0 f1 f2 f3, Fs = [f0, f1, f2, f3] := by
      match Fs, hN with
      | [f0, f1, f2, f3], _ => exact ⟨f0, f1, f2, f3, rfl⟩
    have blk : w1.heap[w.heap.size]? = some (.cells #[.string f0, .string f1, .string f2, .string f3] 9 (0, 0)) := by rw [hw1]; exact heap_alloc_new w _
    have c0 : w1.cell? ⟨w.heap.size, 0, none⟩ = some (.string f0) := blk_cell blk rfl
    have c1 : w1.cell? ⟨w.heap.size, 1, none⟩ = some (.string f1) := blk_cell blk rfl
    have c2 : w1.cell? ⟨w.heap.size, 2, none⟩ = some (.string f2) := blk_cell blk rfl
    have BLK := Lib.hid blk
    have J : Hid (s.data.toList = f0.data.toList ++ 32 :: (f1.data.toList ++ 32 :: (f2.data.toList ++ 32 :: f3.data.toList))) := Lib.hid HJ.out.symm
    have SZ : Hid (f2.size ≤ 3000 ∧ f3.size ≤ 3000) := Lib.hid (by
      have h := congrArg List.length J.out
      simp only [List.length_append, List.length_cons] at h
      rw [← size_l, ← size_l, ← size_l, ← size_l, ← size_l] at h
      have := HS.out
      omega)
    clear hN hw1 blk SP HJ
    have R : Hid (HeadEnd s w (.returned (.tuple #[.int .i64 0, .int .i64 0, .bool false])) w1) := Lib.hid (head_no B1.out)
    by_cases e0 : f0.toList = [112]
    · have g0 : (f0.toList == [112]) = true := by rw [e0]; rfl
      have E0 := Lib.hid e0
      by_cases e1 : f1.toList = [99, 110, 102]
      · have g1 : (f1.toList == [99, 110, 102]) = true := by rw [e1]; rfl
        have E1 := Lib.hid e1
        clear e0 e1 R
        have N2 := Lib.hid (num_any (HV.out.below (B1.out.mono HB.out)) (Nat.le_trans HB.out B1.out.size) f2 SZ.out.1)
        go_wp2_with fail
        go_at_call 42; refine N2.out.mono ?_
        rintro e w2 ⟨hb2, a, oa, rfl, a0, a1, ha⟩
        have B2 : Hid (Below w.heap.size w w2) := Lib.hid (B1.out.trans (hb2.mono B1.out.size))
        have c3 : w2.cell? ⟨w.heap.size, 3, none⟩ = some (.string f3) := blk_cell ((hb2.block _ (lt_of_block BLK.out)).trans BLK.out) rfl
        have N3 := Lib.hid (num_any (HV.out.below (B2.out.mono HB.out)) (Nat.le_trans HB.out B2.out.size) f3 SZ.out.2)
        have HA := Lib.hid ha
        have HA0 := Lib.hid (And.intro a0 a1)
        clear hb2 ha N2 c0 c1 c2
        go_wp2_with fail
        go_at_call 42; refine N3.out.mono ?_
        rintro e w3 ⟨hb3, c, oc, rfl, b0, b1, hc⟩
        have B3 : Hid (Below w.heap.size w w3) := Lib.hid (B2.out.trans (hb3.mono B2.out.size))
        have HC := Lib.hid hc
        have HC0 := Lib.hid (And.intro b0 b1)
        clear hb3 hc N3 c3
        have R : ∀ ok : Bool, (ok = true → oa = true ∧ oc = true ∧ 0 ≤ a) → HeadEnd s w (.returned (.tuple #[.int .i64 a, .int .i64 c, .bool ok])) w3 := fun ok hk => by
          refine ⟨B3.out, a, c, ok, rfl, HA0.out.1, HA0.out.2, HC0.out.1, HC0.out.2, fun ht => ?_⟩
          obtain ⟨k1, k2, k3⟩ := hk ht
          refine ⟨?_, k3⟩
          rw [J.out, HA.out k1, HC.out k2]
          have e0 := E0.out
          have e1 := E1.out
          rw [Lib.toList_data] at e0 e1
          rw [e0, e1]
          simp
        by_cases ha0 : 0 ≤ a
        · have R1 := Lib.hid (R true)
          have R0 := Lib.hid (R false)
          have AP := Lib.hid ha0
          clear R
          cases oa
          · go_wp2_with fail
            go_ret3
            exact R0.out (fun h => by cases h)
          · cases oc
            · go_wp2_with fail
              go_ret3
              exact R0.out (fun h => by cases h)
            · go_wp2_with fail
              go_ret3
              exact R1.out (fun _ => by first | exact ⟨rfl, rfl, AP.out⟩ | exact ⟨trivial, trivial, AP.out⟩)
        · have R0 := Lib.hid (R false)
          have hd : decide (0 ≤ a) = false := decide_eq_false ha0
          clear R
          cases oa
          · go_wp2_with fail
            go_ret3
            exact R0.out (fun h => by cases h)
          · cases oc
            · go_wp2_with fail
              go_ret3
              exact R0.out (fun h => by cases h)
            · go_wp2_with fail
              go_ret3
              exact R0.out (fun h => by cases h)
      · have g1 : (f1.toList == [99, 110, 102]) = false := beq_eq_false_iff_ne.2 e1
        clear e0 e1
        go_wp2_with fail
        go_ret3
        exact R.out
    · have g0 : (f0.toList == [112]) = false := beq_eq_false_iff_ne.2 e0
      clear e0
      go_wp2_with fail
      go_ret3
      exact R.out
  · have h4' : ¬ (N : Int) = 4 := by omega
    have h4'' : ((N : Int) != 4) = true := by rw [bne_iff_ne]; exact h4'
    have R : Hid (HeadEnd s w (.returned (.tuple #[.int .i64 0, .int .i64 0, .bool false])) w1) := Lib.hid (head_no B1.out)
    clear hN hw1
    go_wp2_with fail
    go_ret3
    exact R.out

end Go.Proofs.YtlgakejjakeomaaDoor.Rd
