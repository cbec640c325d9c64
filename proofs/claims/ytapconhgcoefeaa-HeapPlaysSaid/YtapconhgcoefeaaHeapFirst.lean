/- The document's own choice of the first one. -/
import Derived.Test.YtapconhgcoefeaaHeapPlays
namespace Go.Proofs.Ytapconhgcoefeaa.Heap
set_option linter.unusedVariables false
open Go.RowKit

set_option maxHeartbeats 8000000 in
set_option maxRecDepth 100000 in
theorem first_any {w : World} {gi gs n : Nat} {sc : List Nat} {inn : Nat → Bool} (h1 : w.heap[gi]? = some (.cells (bools n inn).toArray 4 (0, 0))) (h2 : w.heap[gs]? = some (.cells (scrs n sc).toArray 56 (0, 0))) (hn : n ≤ 300) :
    Calls Try.prog 42 #[.slice (some ⟨gi, 0, none⟩) n n, .slice (some ⟨gs, 0, none⟩) n n] w (Firsts n sc inn w) := by
  have b : ∀ i, i < n → w.cell? ⟨gi, i, none⟩ = some (.bool (inn (i + 1))) := fun i hi => blk_cell h1 (by simpa using bools_at n inn i hi)
  have s : ∀ i, i < n → w.cell? ⟨gs, i, none⟩ = some (.int .u64 (sc.getD (i + 1) 0 : Nat)) := fun i hi => blk_cell h2 (by simpa using scrs_at n sc i hi)
  have HB := Lib.hid b
  have HS := Lib.hid s
  have hst : FHead w n sc inn (.int .i64 (-1)) (.int .i64 0) w := ⟨0, rfl, Nat.zero_le _, .inl ⟨rfl, fun i h => by omega⟩, 0, rfl⟩
  have HST := Lib.hid hst
  clear b s h1 h2 hst
  go_enter Try.func42, Try.ntmps42
  go_wp2_with fail
  go_loopw [5, 6, 9] (fun a _ iv wr => FHead w n sc inn a iv wr) (fun _ _ iv _ => n - (intOf iv).toNat)
  case atStart => exact HST.out
  case round =>
    clear HST
    obtain ⟨j, rfl, hj, hat, m, rfl⟩ := hrel
    by_cases hlt : j < n
    · have cb := HB.out j hlt
      have cs := HS.out j hlt
      cases hin : inn (j + 1)
      · rw [hin] at cb
        have hend : ∀ m', FHead w n sc inn u5 (.int .i64 ((j : Int) + 1)) ((w.drewN m).drewN m') := by
          intro m'
          refine ⟨j + 1, by go_num, by omega, ?_, m + m', by simp⟩
          rcases hat with ⟨e, h⟩ | ⟨a, e, h1, h2, h3⟩
          · refine .inl ⟨e, fun i hi => ?_⟩
            by_cases x : i = j
            · subst x; exact hin
            · exact h i (by omega)
          · refine .inr ⟨a, e, by omega, h2, fun i hi h4 => ?_⟩
            by_cases x : i = j
            · subst x; rw [hin] at h4; simp at h4
            · exact h3 i (by omega) h4
        have HEND := Lib.hid hend
        clear hend hat hin
        go_wp2_with fail
        go_quiet (fail)
        go_wp2_with fail
        go_roundw
        case rel => have := HEND.out; simpa using this _
        case measure => simp [intOf]; omega
      · rw [hin] at cb
        have hbt1 : ¬ bt sc (j + 1) (j + 1) := bt_irr _ _
        have HIN := Lib.hid hin
        clear hin
        rcases hat with ⟨rfl, h⟩ | ⟨a, rfl, h1, h2, h3⟩
        · have hend : ∀ m', FHead w n sc inn (.int .i64 (j : Int)) (.int .i64 ((j : Int) + 1)) ((w.drewN m).drewN m') := by
            intro m'
            refine ⟨j + 1, by go_num, by omega, .inr ⟨j, rfl, by omega, HIN.out, fun i hi h4 => ?_⟩, m + m', by simp⟩
            by_cases x : i = j
            · subst x; exact hbt1
            · rw [h i (by omega)] at h4; simp at h4
          have HEND := Lib.hid hend
          clear hend h hbt1
          go_wp2_with fail
          go_quiet (fail)
          go_wp2_with fail
          go_roundw
          case rel => have := HEND.out; simpa using this _
          case measure => simp [intOf]; omega
        · have ca := HS.out a (by omega)
          have hb : bt sc (j + 1) (a + 1) ↔ sc.getD (a + 1) 0 < sc.getD (j + 1) 0 := by unfold bt; omega
          have hend1 : bt sc (j + 1) (a + 1) → ∀ m', FHead w n sc inn (.int .i64 (j : Int)) (.int .i64 ((j : Int) + 1)) ((w.drewN m).drewN m') := by
            intro hx m'
            refine ⟨j + 1, by go_num, by omega, .inr ⟨j, rfl, by omega, HIN.out, fun i hi h4 => ?_⟩, m + m', by simp⟩
            by_cases x : i = j
            · subst x; exact hbt1
            · exact nbt_trans (h3 i (by omega) h4) (bt_asym hx)
          have hend2 : ¬ bt sc (j + 1) (a + 1) → ∀ m', FHead w n sc inn (.int .i64 (a : Int)) (.int .i64 ((j : Int) + 1)) ((w.drewN m).drewN m') := by
            intro hx m'
            refine ⟨j + 1, by go_num, by omega, .inr ⟨a, rfl, by omega, h2, fun i hi h4 => ?_⟩, m + m', by simp⟩
            by_cases x : i = j
            · subst x; exact hx
            · exact h3 i (by omega) h4
          have H1 := Lib.hid hend1
          have H2 := Lib.hid hend2
          have HBT := Lib.hid hb
          have ha0 : (0 : Int) ≤ (a : Int) := by omega
          have hneg : decide ((a : Int) < 0) = false := by simp
          clear hend1 hend2 hb h2 h3 hbt1
          generalize sc.getD (a + 1) 0 = x at ca HBT
          generalize sc.getD (j + 1) 0 = y at cs HBT
          by_cases hxy : x < y
          · have hd : decide (x < y) = true := by simp [hxy]
            have HEND := Lib.hid (H1.out (HBT.out.2 hxy))
            go_wp2_with fail
            go_quiet (fail)
            go_wp2_with fail
            go_roundw
            case rel => have := HEND.out; simpa using this _
            case measure => simp [intOf]; omega
          · have hd : decide (x < y) = false := by simp; omega
            have HEND := Lib.hid (H2.out (fun t => hxy (HBT.out.1 t)))
            go_wp2_with fail
            go_quiet (fail)
            go_wp2_with fail
            go_roundw
            case rel => have := HEND.out; simpa using this _
            case measure => simp [intOf]; omega
    · obtain rfl : j = n := by omega
      rcases hat with ⟨rfl, h⟩ | ⟨a, rfl, h1, h2, h3⟩
      · have HZ := Lib.hid (cin_zero h)
        clear h
        go_wp2_with fail
        go_ret
        exact ⟨⟨m, rfl⟩, .inl ⟨HZ.out, rfl⟩⟩
      · have hbest : Best j sc inn (a + 1) := ⟨by omega, by omega, h2, fun b b1 b2 b3 => by
          obtain ⟨b', rfl⟩ : ∃ b', b = b' + 1 := ⟨b - 1, by omega⟩
          exact h3 b' (by omega) b3⟩
        have HBE := Lib.hid hbest
        clear h2 h3 hbest
        go_wp2_with fail
        go_ret
        exact ⟨⟨m, rfl⟩, .inr ⟨a + 1, HBE.out, rfl⟩⟩

end Go.Proofs.Ytapconhgcoefeaa.Heap
