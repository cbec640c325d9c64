/- The chapter's example of the heap, and a nil heap. -/
import Derived.Test.YtapconhgcoefeaaHeapNew
import Derived.OpenShut
namespace Go.Proofs.Ytapconhgcoefeaa.Heap
set_option linter.unusedVariables false
open Go.RowKit

theorem Popped.some {I : Ids} {n : Nat} {sc : List Nat} {inn : Nat → Bool} {w : World} {e : Ending} {w' : World} (h : Popped I n sc inn w e w') {a : Nat} (hb : Best n sc inn a) :
    e = .returned (.int .i64 (a : Nat)) ∧ Is w' I n sc (fun x => inn x && decide (x ≠ a)) ∧ Sm I.has w w' := by
  obtain ⟨hs, h | ⟨b, h1, h2, h3⟩⟩ := h
  · have := cin_pos hb.lo hb.hi hb.mem
    omega
  · have e := h1.unique hb
    subst e
    exact ⟨h2, h3, hs⟩
theorem Popped.none {I : Ids} {n : Nat} {sc : List Nat} {inn : Nat → Bool} {w : World} {e : Ending} {w' : World} (h : Popped I n sc inn w e w') (hb : cin inn n = 0) :
    e = .returned (.int .i64 0) ∧ Is w' I n sc inn ∧ Sm I.has w w' := by
  obtain ⟨hs, h | ⟨b, h1, h2, h3⟩⟩ := h
  · exact ⟨h.2.1, h.2.2, hs⟩
  · have := cin_pos h1.lo h1.hi h1.mem
    omega

def b0 : Nat → Bool := fun _ => true
def b1 : Nat → Bool := fun x => b0 x && decide (x ≠ 2)
def b2 : Nat → Bool := fun x => b1 x && decide (x ≠ 1)
def b3 : Nat → Bool := fun x => b2 x && decide (x ≠ 3)
theorem scores3 : Heap.bump 65 (zeros 3) 2 5 = [0, 0, 5, 0] := by decide +kernel
theorem best1 : Best 3 [0, 0, 5, 0] b0 2 := ⟨by omega, by omega, rfl, fun b h1 h2 _ => by
  have : b = 1 ∨ b = 2 ∨ b = 3 := by omega
  rcases this with rfl | rfl | rfl <;> decide⟩
theorem best2 : Best 3 [0, 0, 5, 0] b1 1 := ⟨by omega, by omega, rfl, fun b h1 h2 h3 => by
  have : b = 1 ∨ b = 2 ∨ b = 3 := by omega
  rcases this with rfl | rfl | rfl
  · decide
  · simp [b1, b0] at h3
  · decide⟩
theorem best3 : Best 3 [0, 0, 5, 0] b2 3 := ⟨by omega, by omega, rfl, fun b h1 h2 h3 => by
  have : b = 1 ∨ b = 2 ∨ b = 3 := by omega
  rcases this with rfl | rfl | rfl
  · simp [b2, b1, b0] at h3
  · simp [b2, b1, b0] at h3
  · decide⟩
theorem none4 : cin b3 3 = 0 := by decide

set_option maxHeartbeats 4000000 in
set_option maxRecDepth 100000 in
theorem fixed_any (w : World) :
    Calls Try.prog 35 #[] w fun e w' => e = .returned (.bool true) ∧ Below w.heap.size w w' := by
  go_enter Try.func35, Try.ntmps35
  go_wp2_with fail
  refine (new_nat 3 (by omega) _).mono ?_
  rintro e wa ⟨I, rfl, ha, hids, hba⟩
  have HA := Lib.hid ha; clear ha
  go_wp2_with fail
  refine (bump_yes HA.out 2 5 (by omega) (by omega) (by omega)).mono ?_
  rintro e wb ⟨rfl, hb, sb⟩
  rw [scores3] at hb
  have HB := Lib.hid hb; clear hb
  go_wp2_with fail
  refine (pop_any HB.out).mono ?_
  rintro e wc hc
  obtain ⟨rfl, hc, s1⟩ := hc.some best1
  have HC := Lib.hid (show Is wc I 3 [0, 0, 5, 0] b1 from hc); clear hc
  go_wp2_with fail
  refine (pop_any HC.out).mono ?_
  rintro e wd hd
  obtain ⟨rfl, hd, s2⟩ := hd.some best2
  have HD := Lib.hid (show Is wd I 3 [0, 0, 5, 0] b2 from hd); clear hd
  go_wp2_with fail
  refine (pop_any HD.out).mono ?_
  rintro e we he
  obtain ⟨rfl, he, s3⟩ := he.some best3
  have HE := Lib.hid (show Is we I 3 [0, 0, 5, 0] b3 from he); clear he
  go_wp2_with fail
  refine (pop_any HE.out).mono ?_
  rintro e wf hf
  obtain ⟨rfl, hf, s4⟩ := hf.none none4
  have HF := Lib.hid hf; clear hf
  go_wp2_with fail
  go_ret
  exact ⟨rfl, hba.trans (((((sb.trans s1).trans s2).trans s3).trans s4).below hba.size hids)⟩

set_option maxHeartbeats 400000 in
theorem bump_nil (a b : Int) (w : World) :
    Calls Try.prog 33 #[.pointer none, .int .i64 a, .int .u64 b] w fun e w' => e = .returned (.tuple #[]) ∧ w = w' := by
  go_enter Try.func33, Try.ntmps33
  go_wp2_with go_in
  refine bodyPost_ret (results_none rfl _ _ _) rfl ?_
  exact ⟨rfl, rfl⟩
set_option maxHeartbeats 400000 in
theorem halve_nil (w : World) :
    Calls Try.prog 34 #[.pointer none] w fun e w' => e = .returned (.tuple #[]) ∧ w = w' := by
  go_enter Try.func34, Try.ntmps34
  go_wp2_with go_in
  refine bodyPost_ret (results_none rfl _ _ _) rfl ?_
  exact ⟨rfl, rfl⟩

set_option maxHeartbeats 4000000 in
set_option maxRecDepth 100000 in
theorem law_nil (a0 a1 : Int) (w : World) :
    Calls Try.prog 10 #[.int .i64 a0, .int .u64 a1] w fun e w' => e = .returned (.bool true) ∧ Below w.heap.size w w' := by
  go_enter Try.func10, Try.ntmps10
  go_wp2_with (first | (go_at_call 35; refine (fixed_any _).mono ?_; rintro e w' ⟨rfl, hbel⟩) | (go_at_call 33; refine (bump_nil _ _ _).mono ?_; rintro e w' ⟨rfl, rfl⟩) | (go_at_call 34; refine (halve_nil _).mono ?_; rintro e w' ⟨rfl, rfl⟩) | go_in)
  go_ret
  exact ⟨rfl, hbel⟩

end Go.Proofs.Ytapconhgcoefeaa.Heap
