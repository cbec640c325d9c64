/- Any row of operations is answered, and leaves the heap, as the document says. -/
import Derived.Test.YtapconhgcoefeaaHeapDoc
import Derived.RegionTactic
import Derived.Deep.OwnRows
import Derived.Deep.Cut
import Derived.Deep.CutRange
import Derived.Deep.CutBlock
import Derived.Deep.DeepCutAuto
namespace Go.Proofs.Ytapconhgcoefeaa.Heap
set_option linter.unusedVariables false
open Go.RowKit Go.Deep

/-- a row of operations that came in. -/
def IsOps (w : World) (a : Option Addr) (len : Nat) : Prop :=
  ∃ bx ox, ∀ j, j < len → ∃ kd at_ by_ : Int, a = some ⟨bx, ox, none⟩ ∧ w.cell? ⟨bx, ox + j * 3, none⟩ = some (.int .i64 kd) ∧ w.cell? ⟨bx, ox + j * 3 + 1, none⟩ = some (.int .i64 at_) ∧
    w.cell? ⟨bx, ox + j * 3 + 2, none⟩ = some (.int .u64 by_) ∧ bx < w.heap.size ∧ (-9223372036854775808 ≤ at_ ∧ at_ ≤ 9223372036854775807) ∧ 0 ≤ by_ ∧ by_ ≤ 18446744073709551615

/-- the heap, and the document's two slices beside it. -/
structure PS (w0 : World) (I : Ids) (gi gs n : Nat) (sc : List Nat) (inn : Nat → Bool) (w : World) : Prop where
  is : Is w I n sc inn
  ins : w.heap[gi]? = some (.cells (bools n inn).toArray 4 (0, 0))
  scr : w.heap[gs]? = some (.cells (scrs n sc).toArray 56 (0, 0))
  ne : gi ≠ gs ∧ ¬ I.has gi ∧ ¬ I.has gs
  lo : (∀ k, I.has k → w0.heap.size ≤ k) ∧ w0.heap.size ≤ gi ∧ w0.heap.size ≤ gs
  bel : Below w0.heap.size w0 w

theorem PS.start {w0 : World} {I : Ids} {gi gs n : Nat} {sc : List Nat} {inn : Nat → Bool} {w : World} (h : PS w0 I gi gs n sc inn w) (op : Array Value) :
    PQ w0 I gi gs w.heap.size n op sc inn sc inn (w.alloc (.cells op 70)) := by
  have l1 := lt_of_block h.ins
  have l2 := lt_of_block h.scr
  have hs : Sm (fun _ => False) w (w.alloc (.cells op 70)) := (Sm.refl _ _).alloc _
  refine ⟨h.is.keep hs (fun _ _ x => x), ?_, ?_, heap_alloc_new _ _, ⟨h.ne.1, by omega, by omega⟩, ⟨h.ne.2.1, h.ne.2.2, fun x => by have := h.is.lt _ x; omega⟩, ⟨h.lo.1, h.lo.2.1, h.lo.2.2, h.bel.size⟩, h.bel.alloc h.bel.size _⟩
  · rw [Below.heap_alloc _ _ _ l1]; exact h.ins
  · rw [Below.heap_alloc _ _ _ l2]; exact h.scr
theorem PQ.ps {w0 : World} {I : Ids} {gi gs ob n : Nat} {op : Array Value} {sc : List Nat} {inn : Nat → Bool} {w : World} (h : PQ w0 I gi gs ob n op sc inn sc inn w) : PS w0 I gi gs n sc inn w :=
  ⟨h.is, h.ins, h.scr, ⟨h.ne.1, h.out.1, h.out.2.1⟩, ⟨h.lo.1, h.lo.2.1, h.lo.2.2.1⟩, h.bel⟩

theorem PS.drewN {w0 : World} {I : Ids} {gi gs n : Nat} {sc : List Nat} {inn : Nat → Bool} {w : World} (h : PS w0 I gi gs n sc inn w) (m : Nat) : PS w0 I gi gs n sc inn (w.drewN m) :=
  ⟨h.is.drewN m, h.ins, h.scr, h.ne, h.lo, drewN_below h.bel m⟩
theorem PS.has {w0 : World} {I : Ids} {gi gs n : Nat} {sc : List Nat} {inn : Nat → Bool} {w : World} (h : PS w0 I gi gs n sc inn w) (q : Nat) (hq : q < n) (m : Nat) :
    Calls Try.prog 38 #[.pointer (some ⟨I.hb, 0, none⟩), .int .i64 ((q : Int) + 1)] (w.drewN m) fun e w' => e = .returned (.bool (inn (q + 1))) ∧ w' = w.drewN m := by
  obtain ⟨pl, rw, k⟩ := (h.drewN m).is
  have e : (q : Int) + 1 = ((q + 1 : Nat) : Int) := by omega
  rw [e]
  exact (has_yes k (q + 1) (by omega) (by omega)).mono fun _ _ ⟨a, b⟩ => ⟨a, b.symm⟩
theorem PS.score {w0 : World} {I : Ids} {gi gs n : Nat} {sc : List Nat} {inn : Nat → Bool} {w : World} (h : PS w0 I gi gs n sc inn w) (q : Nat) (hq : q < n) (m : Nat) :
    Calls Try.prog 40 #[.pointer (some ⟨I.hb, 0, none⟩), .int .i64 ((q : Int) + 1)] (w.drewN m) fun e w' => e = .returned (.int .u64 (sc.getD (q + 1) 0 : Nat)) ∧ w' = w.drewN m := by
  obtain ⟨pl, rw, k⟩ := (h.drewN m).is
  have e : (q : Int) + 1 = ((q + 1 : Nat) : Int) := by omega
  rw [e]
  exact (score_yes k (q + 1) (by omega) (by omega)).mono fun _ _ ⟨a, b⟩ => ⟨a, b.symm⟩
theorem PS.lens {w0 : World} {I : Ids} {gi gs n : Nat} {sc : List Nat} {inn : Nat → Bool} {w : World} (h : PS w0 I gi gs n sc inn w) :
    Calls Try.prog 39 #[.pointer (some ⟨I.hb, 0, none⟩)] w fun e w' => e = .returned (.int .i64 (cin inn n : Nat)) ∧ w = w' := by
  obtain ⟨pl, rw, k⟩ := h.is
  have := len_at k
  rw [k.cnt] at this
  exact this
theorem PS.hasnot {w0 : World} {I : Ids} {gi gs n : Nat} {sc : List Nat} {inn : Nat → Bool} {w : World} (h : PS w0 I gi gs n sc inn w) (a : Int) (ha : a < 1 ∨ (n : Int) < a) :
    Calls Try.prog 38 #[.pointer (some ⟨I.hb, 0, none⟩), .int .i64 a] w fun e w' => e = .returned (.bool false) ∧ w = w' := by
  obtain ⟨pl, rw, k⟩ := h.is
  exact has_no k a ha
theorem PS.scorenot {w0 : World} {I : Ids} {gi gs n : Nat} {sc : List Nat} {inn : Nat → Bool} {w : World} (h : PS w0 I gi gs n sc inn w) (a : Int) (ha : a < 1 ∨ (n : Int) < a) :
    Calls Try.prog 40 #[.pointer (some ⟨I.hb, 0, none⟩), .int .i64 a] w fun e w' => e = .returned (.int .u64 0) ∧ w = w' := by
  obtain ⟨pl, rw, k⟩ := h.is
  exact score_no k a ha
theorem cin_true {inn : Nat → Bool} {q : Nat} (h : inn (q + 1) = true) : ((cin inn (q + 1) : Nat) : Int) = ((cin inn q : Nat) : Int) + 1 := by
  show (((cin inn q + if inn (q + 1) then 1 else 0 : Nat)) : Int) = _
  rw [h, if_pos rfl]
  omega
theorem cin_false {inn : Nat → Bool} {q : Nat} (h : inn (q + 1) = false) : cin inn (q + 1) = cin inn q := by
  show cin inn q + (if inn (q + 1) then 1 else 0) = _
  rw [h]
  simp
theorem Is.tops {w : World} {I : Ids} {n : Nat} {sc : List Nat} {inn : Nat → Bool} (h : Is w I n sc inn) : ∀ a, sc.getD a 0 ≤ most := by
  obtain ⟨_, _, h⟩ := h
  exact h.top
theorem Is.bumpno {w : World} {I : Ids} {n : Nat} {sc : List Nat} {inn : Nat → Bool} (h : Is w I n sc inn) (a b : Int) (h1 : a < 1 ∨ (n : Int) < a) :
    Calls Try.prog 33 #[.pointer (some ⟨I.hb, 0, none⟩), .int .i64 a, .int .u64 b] w fun e w' => e = .returned (.tuple #[]) ∧ w = w' := by
  obtain ⟨_, _, h⟩ := h
  exact bump_no h a b h1
theorem Is.pushno1 {w : World} {I : Ids} {n : Nat} {sc : List Nat} {inn : Nat → Bool} (h : Is w I n sc inn) (a : Int) (h1 : a < 1 ∨ (n : Int) < a) :
    Calls Try.prog 36 #[.pointer (some ⟨I.hb, 0, none⟩), .int .i64 a] w fun e w' => e = .returned (.bool false) ∧ w = w' := by
  obtain ⟨_, _, h⟩ := h
  exact push_no1 h a h1
theorem Is.pushno2 {w : World} {I : Ids} {n : Nat} {sc : List Nat} {inn : Nat → Bool} (h : Is w I n sc inn) (a : Nat) (h1 : 1 ≤ a) (h2 : a ≤ n) (hi : inn a = true) :
    Calls Try.prog 36 #[.pointer (some ⟨I.hb, 0, none⟩), .int .i64 a] w fun e w' => e = .returned (.bool false) ∧ w = w' := by
  obtain ⟨_, _, h⟩ := h
  exact push_no2 h a h1 h2 hi
theorem Is.pushyes {w : World} {I : Ids} {n : Nat} {sc : List Nat} {inn : Nat → Bool} (h : Is w I n sc inn) (a : Nat) (h1 : 1 ≤ a) (h2 : a ≤ n) (hi : inn a = false) :
    Calls Try.prog 36 #[.pointer (some ⟨I.hb, 0, none⟩), .int .i64 a] w fun e w' => e = .returned (.bool true) ∧ Is w' I n sc (fun x => inn x || decide (x = a)) ∧ Sm I.has w w' := by
  obtain ⟨_, _, h⟩ := h
  exact push_yes h a h1 h2 hi
/-- the document's loop of halving, and the one round it. -/
def SLoop (w0 : World) (I : Ids) (gi gs ob n : Nat) (op : Array Value) (scH scD : List Nat) (inn : Nat → Bool) (v : Value) (wq : World) : Prop :=
  ∃ q : Nat, v = .int .i64 q ∧ q ≤ n ∧ PQ w0 I gi gs ob n op scH inn (halfTo (q + 1) scD) inn wq
def BLoop (w0 : World) (I : Ids) (gi gs ob n : Nat) (op : Array Value) (a : Nat) (goal : List Nat) (inn : Nat → Bool) (v : Value) (wq : World) : Prop :=
  ∃ (f c : Nat) (scD : List Nat), v = .int .u64 c ∧ c < 18446744073709551616 ∧ c < 2 ^ f ∧ Heap.bump (f + 1) scD a c = goal ∧ scD.length = n + 1 ∧ (∀ y, scD.getD y 0 ≤ most) ∧ PQ w0 I gi gs ob n op goal inn scD inn wq

/-- the count of those that are in. -/
def QHead (w0 : World) (I : Ids) (gi gs n : Nat) (sc : List Nat) (inn : Nat → Bool) (c v : Value) (wr : World) : Prop :=
  ∃ q : Nat, v = .int .i64 q ∧ q ≤ n ∧ c = .int .i64 (cin inn q : Nat) ∧ PS w0 I gi gs n sc inn wr

def OHead (w0 : World) (I : Ids) (gi gs n len : Nat) (v : Value) (wr : World) : Prop :=
  ∃ (j : Nat) (sc : List Nat) (inn : Nat → Bool), v = .int .i64 j ∧ j ≤ len ∧ PS w0 I gi gs n sc inn wr

theorem made_bools (n : Nat) : madeCells #[.bool false] n = (bools n (fun _ => false)).toArray := by
  rw [show madeCells #[.bool false] n = (List.replicate n (.bool false)).toArray from by rw [← toList_madeCells_one, Array.toArray_toList]]
  congr 1
  apply List.ext_getElem?
  intro k
  unfold bools
  rw [List.getElem?_map, List.getElem?_replicate]
  rcases Nat.lt_or_ge k n with h | h
  · rw [List.getElem?_range h, if_pos h]; rfl
  · rw [List.getElem?_eq_none (by simpa using h), if_neg (by omega)]; rfl
theorem made_scrs (n : Nat) : madeCells #[.int .u64 0] n = (scrs n (zeros n)).toArray := by
  rw [show madeCells #[.int .u64 0] n = (List.replicate n (.int .u64 0)).toArray from by rw [← toList_madeCells_one, Array.toArray_toList]]
  congr 1
  apply List.ext_getElem?
  intro k
  unfold scrs
  rw [List.getElem?_map, List.getElem?_replicate]
  rcases Nat.lt_or_ge k n with h | h
  · rw [List.getElem?_range h, if_pos h]; simp only [Option.map_some, zeros_at]; rfl
  · rw [List.getElem?_eq_none (by simpa using h), if_neg (by omega)]; rfl

/-- the first loop: which ones are in. -/
structure P0 (w0 : World) (I : Ids) (gi gs n j : Nat) (w : World) : Prop where
  is : Is w I n (zeros n) (fun _ => true)
  ins : w.heap[gi]? = some (.cells (bools n (fun x => decide (x ≤ j))).toArray 4 (0, 0))
  scr : w.heap[gs]? = some (.cells (scrs n (zeros n)).toArray 56 (0, 0))
  ne : gi ≠ gs ∧ ¬ I.has gi ∧ ¬ I.has gs
  lo : (∀ k, I.has k → w0.heap.size ≤ k) ∧ w0.heap.size ≤ gi ∧ w0.heap.size ≤ gs
  bel : Below w0.heap.size w0 w

theorem P0.step {w0 : World} {I : Ids} {gi gs n j : Nat} {w : World} (h : P0 w0 I gi gs n j w) : P0 w0 I gi gs n (j + 1) (w.setCell ⟨gi, j, none⟩ (.bool true)) := by
  refine ⟨?_, ?_, ?_, h.ne, h.lo, h.bel.setCell h.lo.2.1 _⟩
  · exact h.is.keep (S := fun k => k = gi) ((Sm.refl _ _).set _ _ rfl) (fun k hk e => h.ne.2.1 (by rw [← e]; exact hk))
  · rw [blk_set _ _ h.ins]
    have := bools_set n (fun x => decide (x ≤ j)) (fun x => decide (x ≤ j + 1)) j true (fun _ => by simp) (fun x _ _ hx => by rw [decide_eq_decide]; omega)
    rw [← this]
    simp
  · rw [set_other _ _ _ _ _ (fun e => h.ne.1 e.symm)]; exact h.scr
theorem P0.done {w0 : World} {I : Ids} {gi gs n : Nat} {w : World} (h : P0 w0 I gi gs n n w) : PS w0 I gi gs n (zeros n) (fun _ => true) w := by
  refine ⟨h.is, ?_, h.scr, h.ne, h.lo, h.bel⟩
  rw [h.ins]
  have e : bools n (fun x => decide (x ≤ n)) = bools n (fun _ => true) := by
    unfold bools
    apply List.map_congr_left
    intro i hi
    rw [List.mem_range] at hi
    simp; omega
  rw [e]
def I0Head (w0 : World) (I : Ids) (gi gs n : Nat) (v : Value) (w : World) : Prop := ∃ j : Nat, v = .int .i64 j ∧ j ≤ n ∧ P0 w0 I gi gs n j w

theorem two (w : World) (a b : Obj) : ((w.alloc a).alloc b).heap[w.heap.size]? = some a ∧ ((w.alloc a).alloc b).heap[w.heap.size + 1]? = some b := by
  refine ⟨?_, ?_⟩
  · rw [Below.heap_alloc _ _ _ (by simp), heap_alloc_new]
  · have := heap_alloc_new (w.alloc a) b
    rw [show (w.alloc a).heap.size = w.heap.size + 1 from by simp] at this
    exact this

theorem p0_start {w0 w wr : World} {I : Ids} {gi gs n : Nat} (hI : Is w I n (zeros n) (fun _ => true)) (hids : ∀ k, I.has k → w0.heap.size ≤ k) (hb : Below w0.heap.size w0 w) (hw : Below w.heap.size w wr)
    (h1 : wr.heap[gi]? = some (.cells (madeCells #[.bool false] n) 4 (0, 0))) (h2 : wr.heap[gs]? = some (.cells (madeCells #[.int .u64 0] n) 56 (0, 0)))
    (hg : w.heap.size ≤ gi ∧ w.heap.size ≤ gs ∧ gi ≠ gs) : I0Head w0 I gi gs n (.int .i64 0) wr := by
  have hsz := hb.size
  refine ⟨0, rfl, Nat.zero_le _, hI.fixed hw, ?_, ?_, ⟨hg.2.2, fun h => by have := hI.lt _ h; omega, fun h => by have := hI.lt _ h; omega⟩, ⟨hids, by omega, by omega⟩, hb.trans (hw.mono hsz)⟩
  · rw [h1, made_bools]
    have e : bools n (fun _ => false) = bools n (fun x => decide (x ≤ 0)) := by
      unfold bools
      apply List.map_congr_left
      intro i _
      simp
    rw [e]
  · rw [h2, made_scrs]

set_option maxHeartbeats 40000000 in
set_option maxRecDepth 100000 in
theorem loop_plays (a0 : Int) (a1 : Option Addr) (len1 cap1 : Nat) (w : World) (h0 : a0 ≤ 300) (hops : IsOps w a1 len1) (hlen : len1 ≤ 500) :
    Calls Try.prog 13 #[.int .i64 a0, .slice a1 len1 cap1] w fun e w' => e = .returned (.bool true) ∧ Below w.heap.size w w' := by
  obtain ⟨N, hNm⟩ : ∃ N : Nat, max 0 a0 = (N : Int) := ⟨(max 0 a0).toNat, by omega⟩
  have hN : (if 0 < a0 then a0 else 0) = (N : Int) := by split <;> omega
  have hN2 : N ≤ 300 := by omega
  obtain ⟨bx, ox, hcell⟩ := hops
  have HC := Lib.hid hcell
  have hd1 : ¬ (300 < a0) := by omega
  have hd2 : ¬ (500 < (len1 : Int)) := by omega
  have m1 := fun (wq : World) => run_make_row' 67 4 (.bool false) 1 Try.underlying67 info_bool rfl .i64 .i64 N (by omega) (by omega) wq
  have m2 := fun (wq : World) => run_make_row' 68 56 (.int .u64 0) 8 Try.underlying68 info_u64 rfl .i64 .i64 N (by omega) (by omega) wq
  have HNM := Lib.hid hNm
  have HN := Lib.hid hN
  clear hcell hN hNm
  go_enter Try.func13, Try.ntmps13
  go_wp2_with fail
  refine (new_all a0 N HNM.out (by omega) _).mono ?_
  rintro e wa ⟨I, rfl, ha, hids, hba⟩
  have HA := Lib.hid ha
  have HID := Lib.hid hids
  have HBA := Lib.hid hba
  clear ha hids hba
  go_upto_region 5 with (fail)
  rw [HN.out]
  go_cut [7, 8] (fun v7 v8 wx => ∃ gi gs : Nat, v7 = .slice (some ⟨gi, 0, none⟩) N N ∧ v8 = .slice (some ⟨gs, 0, none⟩) N N ∧ I0Head w I gi gs N (.int .i64 0) wx)
  case first =>
    have B2 : ∀ (a b : Obj), Below wa.heap.size wa ((wa.alloc a).alloc b).drew := fun a b => (((Below.refl _ wa).alloc (Nat.le_refl _) a).alloc (by simp) b).drew
    go_region
    all_goals
      clear m1 m2
      go_wp2_with fail
      go_meet
      first
        | exact ⟨wa.heap.size, wa.heap.size + 1, rfl, rfl, p0_start HA.out HID.out HBA.out (B2 _ _) (two wa _ _).1 (two wa _ _).2 (by omega)⟩
        | exact ⟨wa.heap.size + 1, wa.heap.size, rfl, rfl, p0_start HA.out HID.out HBA.out (B2 _ _) (two wa _ _).2 (two wa _ _).1 (by omega)⟩
  case rest =>
    clear m1 m2
    obtain ⟨gi, gs, rfl, rfl, hst⟩ := hcut
    have HST := Lib.hid hst
    clear hst
    go_wp2_with fail
    go_loopw [9, 38] (fun _ v wr => I0Head w I gi gs N v wr) (fun _ v _ => N - (intOf v).toNat)
    case atStart => exact HST.out
    case round =>
      clear HST
      obtain ⟨j, rfl, hj, hP⟩ := hrel
      by_cases hlt : j < N
      · have cb : wr.cell? ⟨gi, j, none⟩ = some (.bool (decide (j + 1 ≤ j))) := blk_cell hP.ins (by simpa using bools_at N (fun x => decide (x ≤ j)) j hlt)
        have fb := blk_free j hP.ins
        have HP := Lib.hid hP.step
        clear hP
        go_wp2_with fail
        go_roundw
        case rel => exact ⟨j + 1, by go_num, by omega, HP.out⟩
        case measure => simp [intOf]; omega
      · obtain rfl : j = N := by omega
        have hst : OHead w I gi gs j len1 (.int .i64 0) wr := ⟨0, zeros j, fun _ => true, rfl, Nat.zero_le _, hP.done⟩
        have HST := Lib.hid hst
        clear hP hst
        go_wp2_with fail
        go_loopw [11, 12, 13, 14, 15, 16, 17, 18, 19, 47] (fun _ _ _ _ _ _ _ _ _ v wr => OHead w I gi gs j len1 v wr) (fun _ _ _ _ _ _ _ _ _ v _ => len1 - (intOf v).toNat)
        case atStart => exact HST.out
        case round =>
          clear HST
          obtain ⟨i, sc, inn, rfl, hi, hP⟩ := hrel
          by_cases hlt2 : i < len1
          · obtain ⟨kd, at_, by_, rfl, c0, c1, c2, hbx, hb1, hb2, hb3⟩ := HC.out i hlt2
            have d0 := (hP.bel.cell (p := ⟨bx, ox + i * 3, none⟩) hbx).trans c0
            have d1 := (hP.bel.cell (p := ⟨bx, ox + i * 3 + 1, none⟩) hbx).trans c1
            have d2 := (hP.bel.cell (p := ⟨bx, ox + i * 3 + 2, none⟩) hbx).trans c2
            have hQ := hP.start #[.int .i64 kd, .int .i64 at_, .int .u64 by_]
            obtain ⟨wo, rfl⟩ : ∃ wo : World, wo = wr := ⟨_, rfl⟩
            by_cases his : 1 ≤ at_ ∧ at_ ≤ j
            · obtain ⟨h1, h2⟩ := his
              obtain ⟨a, rfl⟩ : ∃ a : Nat, at_ = (a : Int) + 1 := ⟨(at_ - 1).toNat, by omega⟩
              obtain ⟨b, rfl⟩ := Int.eq_ofNat_of_zero_le hb2
              have haj : a < j := by omega
              have HQ := Lib.hid hQ
              clear c0 c1 c2 hP hQ
              go_upto_block 4 with (fail)
              clear d0 d1 d2
              go_cut [4, 13, 14, 15, 16] (fun _ _ _ _ _ wx => ∃ (sc' : List Nat) (inn' : Nat → Bool), PS w I gi gs j sc' inn' wx)
              case first =>
                by_cases z0 : kd = 0
                · as_aux_lemma =>
                    subst z0
                    have hbump := bump_yes HQ.out.is (a + 1) b (by omega) (by omega) (by omega)
                    rw [show ((a + 1 : Nat) : Int) = (a : Int) + 1 from by omega] at hbump
                    have HBUMP := Lib.hid hbump
                    have hlen0 := HQ.out.is.len
                    have htop0 := HQ.out.is.tops
                    have HT0 := Lib.hid htop0
                    clear hbump htop0
                    go_wp2_with fail
                    refine HBUMP.out.mono ?_
                    rintro e w2 ⟨rfl, h2, s2⟩
                    have hst : BLoop w I gi gs wo.heap.size j #[.int .i64 0, .int .i64 ((a : Int) + 1), .int .u64 b] (a + 1) (Heap.bump 65 sc (a + 1) b) inn (.int .u64 b) w2 :=
                      ⟨64, b, sc, rfl, by omega, by omega, rfl, hlen0, HT0.out, HQ.out.heap h2 s2⟩
                    have k1 := blk_cell (j := 1) (HQ.out.heap h2 s2).obj rfl
                    have k2 := blk_cell (j := 2) (HQ.out.heap h2 s2).obj rfl
                    obtain ⟨goal, hgoal⟩ : ∃ goal, goal = Heap.bump 65 sc (a + 1) b := ⟨_, rfl⟩
                    rw [← hgoal] at hst
                    have HST := Lib.hid hst
                    clear hst h2 s2 hgoal HBUMP hlen0 HT0
                    go_wp2_with fail
                    go_loopw [13, 14] (fun v _ wq => BLoop w I gi gs wo.heap.size j #[.int .i64 0, .int .i64 ((a : Int) + 1), .int .u64 b] (a + 1) goal inn v wq) (fun v _ _ => (intOf v).toNat)
                    case atStart => exact HST.out
                    case round =>
                      clear HST k1 k2
                      obtain ⟨f, c, scD, rfl, hc64, hcf, hg, hld, htd, hQ2⟩ := hrel
                      have cs := hQ2.score a (by omega)
                      have fs := hQ2.fs a
                      have k1 := blk_cell (j := 1) hQ2.obj rfl
                      have hx0 := htd (a + 1)
                      obtain ⟨x, ex⟩ : ∃ x, x = scD.getD (a + 1) 0 := ⟨_, rfl⟩
                      rw [← ex] at cs hx0
                      have hx : x ≤ 4611686018427387904 := hx0
                      by_cases hgo : 4611686018427387904 - x < c
                      · have hg2 : Heap.bump (f + 1) scD (a + 1) c = Heap.bump f (halved scD) (a + 1) (c / 2) := by
                          conv => lhs; unfold Heap.bump
                          rw [if_pos (by rw [← ex]; exact hgo)]
                        rw [hg2] at hg
                        have hend : ∀ wq, PQ w I gi gs wo.heap.size j #[.int .i64 0, .int .i64 ((a : Int) + 1), .int .u64 b] goal inn (halved scD) inn wq → BLoop w I gi gs wo.heap.size j #[.int .i64 0, .int .i64 ((a : Int) + 1), .int .u64 b] (a + 1) goal inn (.int .u64 ((c : Int) / 2)) wq := by
                          intro wq hq
                          cases f with
                          | zero => simp at hcf; omega
                          | succ f =>
                            rw [Nat.pow_succ] at hcf
                            exact ⟨f, c / 2, halved scD, by rw [show ((c / 2 : Nat) : Int) = (c : Int) / 2 from by omega], by omega, by omega, hg, by rw [halved_len]; exact hld, fun y => by rw [halved_at]; have := htd y; omega, hq⟩
                        have hin0 : SLoop w I gi gs wo.heap.size j #[.int .i64 0, .int .i64 ((a : Int) + 1), .int .u64 b] goal scD inn (.int .i64 0) wr := ⟨0, rfl, Nat.zero_le _, hQ2.half0⟩
                        have HEND := Lib.hid hend
                        have HIN := Lib.hid hin0
                        have HTD := Lib.hid htd
                        clear hend hin0 hg2 hg hcf hld htd hQ2 ex hx0
                        by_cases hbig : 4611686018427387904 < c
                        all_goals
                          try (have hbig2 : ¬ (4611686018427387904 : Int) < (c : Int) := by omega)
                          try (have hxx : (4611686018427387904 : Int) - (c : Int) < (x : Int) := by omega)
                          go_wp2_with fail
                          go_loopw [14, 102] (fun _ v wq => SLoop w I gi gs wo.heap.size j #[.int .i64 0, .int .i64 ((a : Int) + 1), .int .u64 b] goal scD inn v wq) (fun _ v _ => j - (intOf v).toNat)
                          case atStart => exact HIN.out
                          case round =>
                            clear HIN
                            obtain ⟨q, rfl, hq, hQ3⟩ := hrel
                            by_cases hlt3 : q < j
                            · have cq := hQ3.score q hlt3
                              rw [halfTo_get, if_neg (by omega)] at cq
                              have fq := hQ3.fs q
                              have hy := HTD.out (q + 1)
                              have hstep := hQ3.half
                              obtain ⟨y, ey⟩ : ∃ y, y = scD.getD (q + 1) 0 := ⟨_, rfl⟩
                              rw [← ey] at cq hy hstep
                              have hy2 : y ≤ 4611686018427387904 := hy
                              rw [show ((y / 2 : Nat) : Int) = (y : Int) / 2 from by omega] at hstep
                              have HSTEP := Lib.hid hstep
                              clear hstep hQ3 ey hy
                              go_wp2_with fail
                              go_roundw
                              case rel => exact ⟨q + 1, by go_num, by omega, HSTEP.out⟩
                              case measure => simp [intOf]; omega
                            · obtain rfl : q = j := by omega
                              have HE2 := Lib.hid (HEND.out _ hQ3.halfAll)
                              clear hQ3
                              go_wp2_with fail
                              go_roundw
                              case rel => exact HE2.out
                              case measure => simp [intOf]; omega
                      · have hg2 : Heap.bump (f + 1) scD (a + 1) c = scD.set (a + 1) (x + c) := by
                          unfold Heap.bump
                          rw [if_neg (by rw [← ex]; exact hgo), ← ex]
                        rw [hg2] at hg
                        have hbig2 : ¬ (4611686018427387904 : Int) < (c : Int) := by omega
                        have hxx : ¬ (4611686018427387904 : Int) - (c : Int) < (x : Int) := by omega
                        have hset := hQ2.setSc (scD' := goal) a (x + c) (fun _ => by rw [← hg, getD_set, if_pos ⟨rfl, by omega⟩]) (fun z z1 z2 z3 => by rw [← hg, getD_set, if_neg (fun t => z3 t.1.symm)])
                        rw [show ((x + c : Nat) : Int) = (x : Int) + (c : Int) from by omega] at hset
                        have HSET := Lib.hid hset.ps
                        clear hset hg2 hg hcf hld htd hQ2 ex hx0
                        go_wp2_with fail
                        go_meet
                        exact ⟨goal, inn, HSET.out⟩
                · by_cases z1 : kd = 1
                  · as_aux_lemma =>
                      subst z1
                      have hhalf := halve_any HQ.out.is
                      have HHALF := Lib.hid hhalf
                      have HTD := Lib.hid HQ.out.is.tops
                      clear hhalf
                      go_wp2_with fail
                      refine HHALF.out.mono ?_
                      rintro e w2 ⟨rfl, h2, s2⟩
                      have hin0 : SLoop w I gi gs wo.heap.size j #[.int .i64 1, .int .i64 ((a : Int) + 1), .int .u64 b] (halved sc) sc inn (.int .i64 0) w2 := ⟨0, rfl, Nat.zero_le _, (HQ.out.heap h2 s2).half0⟩
                      have HIN := Lib.hid hin0
                      clear hin0 h2 s2 HHALF
                      go_wp2_with fail
                      go_loopw [15, 129] (fun _ v wq => SLoop w I gi gs wo.heap.size j #[.int .i64 1, .int .i64 ((a : Int) + 1), .int .u64 b] (halved sc) sc inn v wq) (fun _ v _ => j - (intOf v).toNat)
                      case atStart => exact HIN.out
                      case round =>
                        clear HIN
                        obtain ⟨q, rfl, hq, hQ3⟩ := hrel
                        by_cases hlt3 : q < j
                        · have cq := hQ3.score q hlt3
                          rw [halfTo_get, if_neg (by omega)] at cq
                          have fq := hQ3.fs q
                          have hy := HTD.out (q + 1)
                          have hstep := hQ3.half
                          obtain ⟨y, ey⟩ : ∃ y, y = sc.getD (q + 1) 0 := ⟨_, rfl⟩
                          rw [← ey] at cq hy hstep
                          have hy2 : y ≤ 4611686018427387904 := hy
                          rw [show ((y / 2 : Nat) : Int) = (y : Int) / 2 from by omega] at hstep
                          have HSTEP := Lib.hid hstep
                          clear hstep hQ3 ey hy
                          go_wp2_with fail
                          go_roundw
                          case rel => exact ⟨q + 1, by go_num, by omega, HSTEP.out⟩
                          case measure => simp [intOf]; omega
                        · obtain rfl : q = j := by omega
                          have HE2 := Lib.hid hQ3.halfAll.ps
                          clear hQ3
                          go_wp2_with fail
                          go_meet
                          exact ⟨halved sc, inn, HE2.out⟩
                  · by_cases z2 : kd = 2
                    · as_aux_lemma =>
                        subst z2
                        cases hin : inn (a + 1)
                        · have hpush := HQ.out.is.pushyes (a + 1) (by omega) (by omega) hin
                          rw [show ((a + 1 : Nat) : Int) = (a : Int) + 1 from by omega] at hpush
                          have HPUSH := Lib.hid hpush
                          have HIN := Lib.hid hin
                          clear hpush hin
                          go_wp2_with fail
                          refine HPUSH.out.mono ?_
                          rintro e w2 ⟨rfl, h2, s2⟩
                          have hQ2 := HQ.out.heap h2 s2
                          have cb := hQ2.bit a (by omega)
                          rw [HIN.out] at cb
                          have fb := hQ2.fi a
                          have k1 := blk_cell (j := 1) hQ2.obj rfl
                          have hfin := (hQ2.setIn (innD' := fun x => inn x || decide (x = a + 1)) a true (fun _ => by simp) (fun x _ _ hx => by simp [hx])).ps
                          have HFIN := Lib.hid hfin
                          clear hfin hQ2 h2 s2 HPUSH
                          go_wp2_with fail
                          go_meet
                          exact ⟨sc, _, HFIN.out⟩
                        · have hpush := HQ.out.is.pushno2 (a + 1) (by omega) (by omega) hin
                          rw [show ((a + 1 : Nat) : Int) = (a : Int) + 1 from by omega] at hpush
                          have HPUSH := Lib.hid hpush
                          have HIN := Lib.hid hin
                          clear hpush hin
                          go_wp2_with fail
                          refine HPUSH.out.mono ?_
                          rintro e w2 ⟨rfl, rfl⟩
                          have hQ2 := HQ.out
                          have cb := hQ2.bit a (by omega)
                          rw [HIN.out] at cb
                          have fb := hQ2.fi a
                          have hfin := (hQ2.setIn (innD' := inn) a true (fun _ => HIN.out) (fun x _ _ _ => rfl)).ps
                          have HFIN := Lib.hid hfin
                          clear hfin hQ2 HPUSH
                          go_wp2_with fail
                          go_meet
                          exact ⟨sc, _, HFIN.out⟩
                    · as_aux_lemma =>
                        have q0 : (kd == 0) = false := by simpa using z0
                        have q1 : (kd == 1) = false := by simpa using z1
                        have q2 : (kd == 2) = false := by simpa using z2
                        have hfirst := first_any HQ.out.ins HQ.out.scr hN2
                        have HFIRST := Lib.hid hfirst
                        clear hfirst z0 z1 z2
                        go_wp2_with fail
                        refine HFIRST.out.mono ?_
                        rintro e w2 ⟨⟨m, rfl⟩, hf⟩
                        have hpop := pop_any (HQ.out.drewN m).is
                        have HPOP := Lib.hid hpop
                        clear hpop HFIRST
                        rcases hf with ⟨hz, rfl⟩ | ⟨x, hbest, rfl⟩
                        · go_wp2_with fail
                          refine HPOP.out.mono ?_
                          rintro e w3 h
                          obtain ⟨rfl, h3, s3⟩ := h.none hz
                          have HP := Lib.hid ((HQ.out.drewN m).heap h3 s3).ps
                          clear h h3 s3 HPOP
                          go_wp2_with fail
                          go_meet
                          exact ⟨sc, inn, HP.out⟩
                        · have hx1 := hbest.lo
                          have hx2 := hbest.hi
                          obtain ⟨y, rfl⟩ : ∃ y, x = y + 1 := ⟨x - 1, by omega⟩
                          have HBEST := Lib.hid hbest
                          clear hbest
                          go_wp2_with fail
                          refine HPOP.out.mono ?_
                          rintro e w3 h
                          obtain ⟨rfl, h3, s3⟩ := h.some HBEST.out
                          have hQ2 := (HQ.out.drewN m).heap h3 s3
                          have cb := hQ2.bit y (by omega)
                          have fb := hQ2.fi y
                          have hfin := (hQ2.setIn (innD' := fun t => inn t && decide (t ≠ y + 1)) y false (fun _ => by simp) (fun t _ _ ht => by rw [decide_eq_true ht, Bool.and_true])).ps
                          have HFIN := Lib.hid hfin
                          generalize inn (y + 1) = bb at cb
                          clear hfin hQ2 h h3 s3 HPOP
                          go_wp2_with fail
                          go_meet
                          exact ⟨sc, _, HFIN.out⟩
              case rest => as_aux_lemma =>
                obtain ⟨sc', inn', hP2⟩ := hcut
                have hQH : QHead w I gi gs j sc' inn' (.int .i64 0) (.int .i64 0) wc := ⟨0, rfl, Nat.zero_le _, rfl, hP2⟩
                have HQH := Lib.hid hQH
                clear hQH hP2
                go_wp2_with fail
                go_loopw [17, 18, 19, 164] (fun c _ _ q wr => QHead w I gi gs j sc' inn' c q wr) (fun _ _ _ q _ => j - (intOf q).toNat)
                case atStart => exact HQH.out
                case round =>
                  clear HQH
                  obtain ⟨q, rfl, hq, rfl, hP3⟩ := hrel
                  have hcl := cin_le inn' q
                  by_cases hlt3 : q < j
                  · have cb : wr.cell? ⟨gi, q, none⟩ = some (.bool (inn' (q + 1))) := blk_cell hP3.ins (by simpa using bools_at j inn' q hlt3)
                    have cs : wr.cell? ⟨gs, q, none⟩ = some (.int .u64 (sc'.getD (q + 1) 0 : Nat)) := blk_cell hP3.scr (by simpa using scrs_at j sc' q hlt3)
                    have hhas := hP3.has q hlt3
                    have hsco := hP3.score q hlt3
                    have hend : ∀ m, QHead w I gi gs j sc' inn' (.int .i64 (cin inn' (q + 1) : Nat)) (.int .i64 ((q : Int) + 1)) (wr.drewN m) := fun m => ⟨q + 1, by go_num, by omega, rfl, hP3.drewN m⟩
                    have HHAS := Lib.hid hhas
                    have HSCO := Lib.hid hsco
                    generalize sc'.getD (q + 1) 0 = y at cs HSCO
                    cases hin : inn' (q + 1)
                    · rw [hin] at cb HHAS
                      have e : cin inn' (q + 1) = cin inn' q := cin_false hin
                      rw [e] at hend
                      have HEND := Lib.hid hend
                      clear hend hP3 hhas hsco hin e
                      go_wp2_with fail
                      go_quiet ((first | (go_at_call 38; exact Calls.quiet_of_same (HHAS.out _)) | (go_at_call 40; exact Calls.quiet_of_same (HSCO.out _))))
                      go_wp2_with fail
                      go_roundw
                      case rel => exact HEND.out _
                      case measure => simp [intOf]; omega
                    · rw [hin] at cb HHAS
                      have e : ((cin inn' (q + 1) : Nat) : Int) = ((cin inn' q : Nat) : Int) + 1 := cin_true hin
                      rw [e] at hend
                      have HEND := Lib.hid hend
                      clear hend hP3 hhas hsco hin e
                      go_wp2_with fail
                      go_quiet ((first | (go_at_call 38; exact Calls.quiet_of_same (HHAS.out _)) | (go_at_call 40; exact Calls.quiet_of_same (HSCO.out _))))
                      go_wp2_with fail
                      go_roundw
                      case rel => exact HEND.out _
                      case measure => simp [intOf]; omega
                  · obtain rfl : q = j := by omega
                    have hend : OHead w I gi gs q len1 (.int .i64 ((i : Int) + 1)) wr := ⟨i + 1, sc', inn', by go_num, by omega, hP3⟩
                    have HEND := Lib.hid hend
                    have HLEN := Lib.hid hP3.lens
                    have HH0 := Lib.hid (hP3.hasnot 0 (by omega))
                    have HHN := Lib.hid (hP3.hasnot ((q : Int) + 1) (by omega))
                    have HS1 := Lib.hid (hP3.scorenot (-1) (by omega))
                    clear hend hP3
                    go_wp2_with fail
                    refine HLEN.out.mono ?_
                    rintro e w' ⟨rfl, rfl⟩
                    go_wp2_with fail
                    refine HH0.out.mono ?_
                    rintro e w' ⟨rfl, rfl⟩
                    go_wp2_with fail
                    refine HHN.out.mono ?_
                    rintro e w' ⟨rfl, rfl⟩
                    go_wp2_with fail
                    refine HS1.out.mono ?_
                    rintro e w' ⟨rfl, rfl⟩
                    clear HLEN HH0 HHN HS1
                    go_wp2_with fail
                    go_roundw
                    case rel => exact HEND.out
                    case measure => simp [intOf]; omega
            · obtain ⟨b, rfl⟩ := Int.eq_ofNat_of_zero_le hb2
              have HQ := Lib.hid hQ
              clear c0 c1 c2 hP hQ
              have hor : at_ < 1 ∨ (j : Int) < at_ := by omega
              by_cases h1 : 1 ≤ at_
              all_goals
                try (have h2 : ¬ at_ ≤ (j : Int) := by omega)
                try (have h3 : decide (at_ ≤ (j : Int)) = false := by simp; omega)
                try (have h4 : decide (1 ≤ at_) = false := by simp; omega)
                clear his
                go_upto_block 4 with (fail)
                clear d0 d1 d2
                go_cut [4, 13, 14, 15, 16] (fun _ _ _ _ _ wx => ∃ (sc' : List Nat) (inn' : Nat → Bool), PS w I gi gs j sc' inn' wx)
                case first =>
                  by_cases z0 : kd = 0
                  · as_aux_lemma =>
                      subst z0
                      have hbump := HQ.out.is.bumpno at_ (b : Int) (by omega)
                      have HBUMP := Lib.hid hbump
                      clear hbump
                      go_wp2_with fail
                      refine HBUMP.out.mono ?_
                      rintro e w2 ⟨rfl, rfl⟩
                      have HP := Lib.hid HQ.out.ps
                      go_wp2_with fail
                      go_meet
                      exact ⟨sc, inn, HP.out⟩
                  · by_cases z1 : kd = 1
                    · as_aux_lemma =>
                        subst z1
                        have hhalf := halve_any HQ.out.is
                        have HHALF := Lib.hid hhalf
                        have HTD := Lib.hid HQ.out.is.tops
                        clear hhalf
                        go_wp2_with fail
                        refine HHALF.out.mono ?_
                        rintro e w2 ⟨rfl, h2, s2⟩
                        have hin0 : SLoop w I gi gs wo.heap.size j #[.int .i64 1, .int .i64 at_, .int .u64 b] (halved sc) sc inn (.int .i64 0) w2 := ⟨0, rfl, Nat.zero_le _, (HQ.out.heap h2 s2).half0⟩
                        have HIN := Lib.hid hin0
                        clear hin0 h2 s2 HHALF
                        go_wp2_with fail
                        go_loopw [15, 129] (fun _ v wq => SLoop w I gi gs wo.heap.size j #[.int .i64 1, .int .i64 at_, .int .u64 b] (halved sc) sc inn v wq) (fun _ v _ => j - (intOf v).toNat)
                        case atStart => exact HIN.out
                        case round =>
                          clear HIN
                          obtain ⟨q, rfl, hq, hQ3⟩ := hrel
                          by_cases hlt3 : q < j
                          · have cq := hQ3.score q hlt3
                            rw [halfTo_get, if_neg (by omega)] at cq
                            have fq := hQ3.fs q
                            have hy := HTD.out (q + 1)
                            have hstep := hQ3.half
                            obtain ⟨y, ey⟩ : ∃ y, y = sc.getD (q + 1) 0 := ⟨_, rfl⟩
                            rw [← ey] at cq hy hstep
                            have hy2 : y ≤ 4611686018427387904 := hy
                            rw [show ((y / 2 : Nat) : Int) = (y : Int) / 2 from by omega] at hstep
                            have HSTEP := Lib.hid hstep
                            clear hstep hQ3 ey hy
                            go_wp2_with fail
                            go_roundw
                            case rel => exact ⟨q + 1, by go_num, by omega, HSTEP.out⟩
                            case measure => simp [intOf]; omega
                          · obtain rfl : q = j := by omega
                            have HE2 := Lib.hid hQ3.halfAll.ps
                            clear hQ3
                            go_wp2_with fail
                            go_meet
                            exact ⟨halved sc, inn, HE2.out⟩
                    · by_cases z2 : kd = 2
                      · as_aux_lemma =>
                          subst z2
                          have hpush := HQ.out.is.pushno1 at_ (by omega)
                          have HPUSH := Lib.hid hpush
                          clear hpush
                          go_wp2_with fail
                          refine HPUSH.out.mono ?_
                          rintro e w2 ⟨rfl, rfl⟩
                          have HP := Lib.hid HQ.out.ps
                          clear HPUSH
                          go_wp2_with fail
                          go_meet
                          exact ⟨sc, inn, HP.out⟩
                      · as_aux_lemma =>
                          have q0 : (kd == 0) = false := by simpa using z0
                          have q1 : (kd == 1) = false := by simpa using z1
                          have q2 : (kd == 2) = false := by simpa using z2
                          have hfirst := first_any HQ.out.ins HQ.out.scr hN2
                          have HFIRST := Lib.hid hfirst
                          clear hfirst z0 z1 z2
                          go_wp2_with fail
                          refine HFIRST.out.mono ?_
                          rintro e w2 ⟨⟨m, rfl⟩, hf⟩
                          have hpop := pop_any (HQ.out.drewN m).is
                          have HPOP := Lib.hid hpop
                          clear hpop HFIRST
                          rcases hf with ⟨hz, rfl⟩ | ⟨x, hbest, rfl⟩
                          · go_wp2_with fail
                            refine HPOP.out.mono ?_
                            rintro e w3 h
                            obtain ⟨rfl, h3, s3⟩ := h.none hz
                            have HP := Lib.hid ((HQ.out.drewN m).heap h3 s3).ps
                            clear h h3 s3 HPOP
                            go_wp2_with fail
                            go_meet
                            exact ⟨sc, inn, HP.out⟩
                          · have hx1 := hbest.lo
                            have hx2 := hbest.hi
                            obtain ⟨y, rfl⟩ : ∃ y, x = y + 1 := ⟨x - 1, by omega⟩
                            have HBEST := Lib.hid hbest
                            clear hbest
                            go_wp2_with fail
                            refine HPOP.out.mono ?_
                            rintro e w3 h
                            obtain ⟨rfl, h3, s3⟩ := h.some HBEST.out
                            have hQ2 := (HQ.out.drewN m).heap h3 s3
                            have cb := hQ2.bit y (by omega)
                            have fb := hQ2.fi y
                            have hfin := (hQ2.setIn (innD' := fun t => inn t && decide (t ≠ y + 1)) y false (fun _ => by simp) (fun t _ _ ht => by rw [decide_eq_true ht, Bool.and_true])).ps
                            have HFIN := Lib.hid hfin
                            generalize inn (y + 1) = bb at cb
                            clear hfin hQ2 h h3 s3 HPOP
                            go_wp2_with fail
                            go_meet
                            exact ⟨sc, _, HFIN.out⟩
                case rest => as_aux_lemma =>
                  obtain ⟨sc', inn', hP2⟩ := hcut
                  have hQH : QHead w I gi gs j sc' inn' (.int .i64 0) (.int .i64 0) wc := ⟨0, rfl, Nat.zero_le _, rfl, hP2⟩
                  have HQH := Lib.hid hQH
                  clear hQH hP2
                  go_wp2_with fail
                  go_loopw [17, 18, 19, 164] (fun c _ _ q wr => QHead w I gi gs j sc' inn' c q wr) (fun _ _ _ q _ => j - (intOf q).toNat)
                  case atStart => exact HQH.out
                  case round =>
                    clear HQH
                    obtain ⟨q, rfl, hq, rfl, hP3⟩ := hrel
                    have hcl := cin_le inn' q
                    by_cases hlt3 : q < j
                    · have cb : wr.cell? ⟨gi, q, none⟩ = some (.bool (inn' (q + 1))) := blk_cell hP3.ins (by simpa using bools_at j inn' q hlt3)
                      have cs : wr.cell? ⟨gs, q, none⟩ = some (.int .u64 (sc'.getD (q + 1) 0 : Nat)) := blk_cell hP3.scr (by simpa using scrs_at j sc' q hlt3)
                      have hhas := hP3.has q hlt3
                      have hsco := hP3.score q hlt3
                      have hend : ∀ m, QHead w I gi gs j sc' inn' (.int .i64 (cin inn' (q + 1) : Nat)) (.int .i64 ((q : Int) + 1)) (wr.drewN m) := fun m => ⟨q + 1, by go_num, by omega, rfl, hP3.drewN m⟩
                      have HHAS := Lib.hid hhas
                      have HSCO := Lib.hid hsco
                      generalize sc'.getD (q + 1) 0 = y at cs HSCO
                      cases hin : inn' (q + 1)
                      · rw [hin] at cb HHAS
                        have e : cin inn' (q + 1) = cin inn' q := cin_false hin
                        rw [e] at hend
                        have HEND := Lib.hid hend
                        clear hend hP3 hhas hsco hin e
                        go_wp2_with fail
                        go_quiet ((first | (go_at_call 38; exact Calls.quiet_of_same (HHAS.out _)) | (go_at_call 40; exact Calls.quiet_of_same (HSCO.out _))))
                        go_wp2_with fail
                        go_roundw
                        case rel => exact HEND.out _
                        case measure => simp [intOf]; omega
                      · rw [hin] at cb HHAS
                        have e : ((cin inn' (q + 1) : Nat) : Int) = ((cin inn' q : Nat) : Int) + 1 := cin_true hin
                        rw [e] at hend
                        have HEND := Lib.hid hend
                        clear hend hP3 hhas hsco hin e
                        go_wp2_with fail
                        go_quiet ((first | (go_at_call 38; exact Calls.quiet_of_same (HHAS.out _)) | (go_at_call 40; exact Calls.quiet_of_same (HSCO.out _))))
                        go_wp2_with fail
                        go_roundw
                        case rel => exact HEND.out _
                        case measure => simp [intOf]; omega
                    · obtain rfl : q = j := by omega
                      have hend : OHead w I gi gs q len1 (.int .i64 ((i : Int) + 1)) wr := ⟨i + 1, sc', inn', by go_num, by omega, hP3⟩
                      have HEND := Lib.hid hend
                      have HLEN := Lib.hid hP3.lens
                      have HH0 := Lib.hid (hP3.hasnot 0 (by omega))
                      have HHN := Lib.hid (hP3.hasnot ((q : Int) + 1) (by omega))
                      have HS1 := Lib.hid (hP3.scorenot (-1) (by omega))
                      clear hend hP3
                      go_wp2_with fail
                      refine HLEN.out.mono ?_
                      rintro e w' ⟨rfl, rfl⟩
                      go_wp2_with fail
                      refine HH0.out.mono ?_
                      rintro e w' ⟨rfl, rfl⟩
                      go_wp2_with fail
                      refine HHN.out.mono ?_
                      rintro e w' ⟨rfl, rfl⟩
                      go_wp2_with fail
                      refine HS1.out.mono ?_
                      rintro e w' ⟨rfl, rfl⟩
                      clear HLEN HH0 HHN HS1
                      go_wp2_with fail
                      go_roundw
                      case rel => exact HEND.out
                      case measure => simp [intOf]; omega
          · obtain rfl : i = len1 := by omega
            have HB := Lib.hid hP.bel
            clear hP
            go_wp2_with fail
            refine (fixed_any _).mono ?_
            rintro e w2 ⟨rfl, hb2⟩
            have HB2 := Lib.hid (HB.out.trans (hb2.mono HB.out.size))
            clear hb2
            go_wp2_with fail
            go_ret
            exact ⟨rfl, HB2.out⟩

end Go.Proofs.Ytapconhgcoefeaa.Heap
