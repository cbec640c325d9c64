/- All atoms come out of a heap once, by falling scores, of the same the lower number first. -/
import Derived.Test.YtapconhgcoefeaaHeapFixed
namespace Go.Proofs.Ytapconhgcoefeaa.Heap
set_option linter.unusedVariables false
open Go.RowKit

/-- what is known of a slice of integers that came in. -/
def IsRow (k : IntKind) (w : World) (a : Option Addr) (len cap : Nat) (zs : List Int) : Prop :=
  (a = none ∧ len = 0 ∧ cap = 0 ∧ zs = []) ∨
  ∃ x, a = some x ∧ len ≤ cap ∧ cap ≤ maxLen ∧ zs.length = cap ∧ (∀ i, i < zs.length → w.cell? (x.add i) = some (.int k (zs.getD i 0))) ∧ ∀ n ∈ zs, (Lit.int k n).wf = true

/-- its cells, as numbers that are not negative. -/
theorem isrow_u32 {w : World} {a : Option Addr} {len cap : Nat} {zs : List Int} (h : IsRow .u32 w a len cap zs) :
    ∃ (bx ox : Nat) (z : Nat → Nat), ∀ j, j < len → a = some ⟨bx, ox, none⟩ ∧ w.cell? ⟨bx, ox + j, none⟩ = some (.int .u32 (z j : Nat)) ∧ bx < w.heap.size ∧ z j ≤ 4294967295 := by
  rcases h with ⟨rfl, rfl, _⟩ | ⟨x, rfl, hl, _, hz, hc, hw⟩
  · exact ⟨0, 0, fun _ => 0, fun j hj => by omega⟩
  · refine ⟨x.block, x.off, fun j => (zs.getD j 0).toNat, fun j hj => ?_⟩
    have h0 := hc 0 (by omega)
    have hs : x.spot = none := by simpa [Addr.add] using World.cell?_spot h0
    obtain ⟨b, o, s⟩ := x
    simp at hs
    subst hs
    have h := hc j (by omega)
    have e : (⟨b, o, none⟩ : Addr).add j = ⟨b, o + j, none⟩ := by
      unfold Addr.add
      split
      · rename_i e; subst e; rfl
      · rfl
    rw [e] at h
    have hb := bounds_u32 (hw (zs.getD j 0) (by
      rw [List.getD_eq_getElem?_getD, List.getElem?_eq_getElem (by omega)]
      exact List.getElem_mem _))
    refine ⟨rfl, ?_, (World.block_lt_of_cell? w ⟨b, o + j, none⟩ h : b < w.heap.size), by show (zs.getD j 0).toNat ≤ _; omega⟩
    have e2 : (((zs.getD j 0).toNat : Nat) : Int) = zs.getD j 0 := Int.toNat_of_nonneg hb.1
    rw [e2]
    exact h

theorem Sm.of_below {w w' : World} (h : Below w.heap.size w w') : Sm (fun _ => False) w w' := ⟨h.os, h.tape, h.output, h.size, fun k hk _ => h.block k hk⟩
theorem Is.fixed {w w' : World} {I : Ids} {n : Nat} {sc : List Nat} {inn : Nat → Bool} (h : Is w I n sc inn) (k : Below w.heap.size w w') : Is w' I n sc inn := h.keep (Sm.of_below k) (fun _ _ h => h)

theorem bump_first {sc : List Nat} {a b : Nat} (h : sc.getD a 0 = 0) (hb : b ≤ most) : Heap.bump 65 sc a b = sc.set a b := by
  unfold Heap.bump
  rw [h, if_neg (by omega), Nat.zero_add]

/-- the scores of the first j atoms are told. -/
def Told (z : Nat → Nat) (j : Nat) (sc : List Nat) : Prop := (∀ i, i < j → sc.getD (i + 1) 0 = z i) ∧ ∀ i, j ≤ i → sc.getD (i + 1) 0 = 0
theorem Told.zeros (z : Nat → Nat) (n : Nat) : Told z 0 (zeros n) := ⟨fun i h => by omega, fun i _ => zeros_at n (i + 1)⟩
theorem Told.step {z : Nat → Nat} {j : Nat} {sc : List Nat} (h : Told z j sc) (hl : j + 1 < sc.length) : Told z (j + 1) (sc.set (j + 1) (z j)) := by
  constructor
  · intro i hi
    rw [getD_set]
    by_cases e : j = i
    · subst e; rw [if_pos ⟨rfl, hl⟩]
    · rw [if_neg (fun t => e (by have := t.1; omega))]
      exact h.1 i (by omega)
  · intro i hi
    rw [getD_set, if_neg (fun t => by have := t.1; omega)]
    exact h.2 i (by omega)

def F1 (I : Ids) (n : Nat) (z : Nat → Nat) (w : World) (v : Value) (wr : World) : Prop :=
  ∃ (j : Nat) (sc : List Nat), v = .int .i64 j ∧ j ≤ n ∧ Told z j sc ∧ Is wr I n sc (fun _ => true) ∧ Below w.heap.size w wr

/-- what was popped last stands ahead of all that are in. -/
def Behind (n : Nat) (sc : List Nat) (inn : Nat → Bool) (last : Nat) : Prop := last = 0 ∨ (1 ≤ last ∧ last ≤ n ∧ ∀ b, 1 ≤ b → b ≤ n → inn b = true → bt sc last b)
theorem Behind.step {n : Nat} {sc : List Nat} {inn : Nat → Bool} {a : Nat} (h : Best n sc inn a) : Behind n sc (fun x => inn x && decide (x ≠ a)) a := by
  refine .inr ⟨h.lo, h.hi, fun b h1 h2 h3 => ?_⟩
  simp only [Bool.and_eq_true, decide_eq_true_eq] at h3
  rcases bt_total (sc := sc) h3.2 with x | x
  · exact absurd x (h.all b h1 h2 h3.1)
  · exact x
theorem cin_pop {n : Nat} {inn : Nat → Bool} {a : Nat} (h1 : 1 ≤ a) (h2 : a ≤ n) (h : inn a = true) : cin (fun x => inn x && decide (x ≠ a)) n + 1 = cin inn n :=
  (cin_more (f := fun x => inn x && decide (x ≠ a)) (g := inn) h1 h2 (by simp) h (fun x _ _ hx => by rw [decide_eq_true hx, Bool.and_true])).symm

def F2 (I : Ids) (n : Nat) (z : Nat → Nat) (w : World) (lv v : Value) (wr : World) : Prop :=
  ∃ (j last : Nat) (sc : List Nat) (inn : Nat → Bool), v = .int .i64 j ∧ lv = .int .i64 last ∧ j ≤ n ∧ Told z n sc ∧ Is wr I n sc inn ∧ cin inn n + j = n ∧ Behind n sc inn last ∧ Below w.heap.size w wr

theorem Is.drewN {w : World} {I : Ids} {n : Nat} {sc : List Nat} {inn : Nat → Bool} (h : Is w I n sc inn) (m : Nat) : Is (w.drewN m) I n sc inn := by
  obtain ⟨pl, rw, h⟩ := h
  exact ⟨pl, rw, h.mem.drewN m, h.pla, h.ord, h.isin, h.cnt, h.top⟩
theorem F2.drewN {I : Ids} {n : Nat} {z : Nat → Nat} {w : World} {lv v : Value} {wr : World} (h : F2 I n z w lv v wr) (m : Nat) : F2 I n z w lv v (wr.drewN m) := by
  obtain ⟨j, last, sc, inn, h1, h2, h3, h4, h5, h6, h7, h8⟩ := h
  exact ⟨j, last, sc, inn, h1, h2, h3, h4, h5.drewN m, h6, h7, drewN_below h8 m⟩

set_option maxHeartbeats 4000000 in
set_option maxRecDepth 100000 in
theorem loop_all (a0 : Option Addr) (len0 cap0 : Nat) (z0 : List Int) (w : World) (w0 : IsRow .u32 w a0 len0 cap0 z0) (hlen : len0 ≤ 1000) :
    Calls Try.prog 11 #[.slice a0 len0 cap0] w fun e w' => e = .returned (.bool true) ∧ Below w.heap.size w w' := by
  obtain ⟨bx, ox, z, hcell⟩ := isrow_u32 w0
  have HC := Lib.hid hcell
  have hdec : ¬ (1000 < (len0 : Int)) := by omega
  clear hcell w0
  go_enter Try.func11, Try.ntmps11
  go_wp2_with fail
  refine (new_nat len0 (by omega) _).mono ?_
  rintro e wa ⟨I, rfl, ha, hids, hba⟩
  have hst : F1 I len0 z w (.int .i64 0) wa := ⟨0, zeros len0, rfl, Nat.zero_le _, Told.zeros z len0, ha, hba⟩
  have HST := Lib.hid hst
  clear ha hst hba
  go_wp2_with fail
  go_loopw [4, 5, 17] (fun _ _ v wr => F1 I len0 z w v wr) (fun _ _ v _ => len0 - (intOf v).toNat)
  case atStart => exact HST.out
  case round =>
    clear HST
    obtain ⟨j, sc, rfl, hj, htold, hI, hbel⟩ := hrel
    by_cases hlt : j < len0
    · obtain ⟨rfl, hc0, hbx, hz⟩ := HC.out j hlt
      have hc : wr.cell? ⟨bx, ox + j, none⟩ = some (.int .u32 (z j : Nat)) := (hbel.cell (p := ⟨bx, ox + j, none⟩) hbx).trans hc0
      have hb := bump_yes hI (j + 1) (z j) (by omega) (by omega) (by omega)
      rw [bump_first (htold.2 j (Nat.le_refl _)) (by unfold most; omega)] at hb
      have hl := hI.len
      have hts := htold.step (by omega)
      have HB := Lib.hid hb
      have HTS := Lib.hid hts
      clear hb hI htold hc0 hl hts
      go_wp2_with fail
      refine HB.out.mono ?_
      rintro e w2 ⟨rfl, h2, s2⟩
      have hend : F1 I len0 z w (.int .i64 ((j : Int) + 1)) w2 := ⟨j + 1, _, by go_num, by omega, HTS.out, h2, hbel.trans (s2.below hbel.size hids)⟩
      have HEND := Lib.hid hend
      clear hend h2 s2
      go_wp2_with fail
      go_roundw
      case rel => exact HEND.out
      case measure => simp [intOf]; omega
    · obtain rfl : j = len0 := by omega
      have hst2 : F2 I j z w (.int .i64 0) (.int .i64 0) wr := ⟨0, 0, sc, fun _ => true, rfl, rfl, Nat.zero_le _, htold, hI, by rw [cin_all]; rfl, .inl rfl, hbel⟩
      have HST2 := Lib.hid hst2
      clear hI htold hbel hst2
      go_wp2_with fail
      go_loopw [6, 7, 31] (fun lv _ v wr => F2 I j z w lv v wr) (fun _ _ v _ => j - (intOf v).toNat)
      case atStart => exact HST2.out
      case round =>
        clear HST2
        obtain ⟨i, last, sc, inn, rfl, rfl, hi, htold, hI, hcnt, hbeh, hbel⟩ := hrel
        by_cases hlt2 : i < j
        · have hpop := pop_any hI
          have hlen2 := hI.len
          have HPOP := Lib.hid hpop
          clear hpop hI
          go_wp2_with fail
          refine HPOP.out.mono ?_
          rintro e w2 ⟨s2, h | ⟨a, hbest, rfl, h2⟩⟩
          · omega
          · have hlo := hbest.lo
            have hhi := hbest.hi
            have hmem := hbest.mem
            have hbt := Behind.step hbest
            have hcp := cin_pop hlo hhi hmem
            have hbel2 : Below w.heap.size w w2 := hbel.trans (s2.below hbel.size hids)
            have hall : ∀ l, 1 ≤ l → l ≤ j → Behind j sc inn l → bt sc l a := by
              intro l l1 l2 hb
              rcases hb with e | ⟨_, _, hb⟩
              · omega
              · exact hb a hlo hhi hmem
            have hend : F2 I j z w (.int .i64 a) (.int .i64 ((i : Int) + 1)) w2 := ⟨i + 1, a, sc, _, by go_num, rfl, by omega, htold, h2, by omega, hbt, hbel2⟩
            have HEND := Lib.hid hend
            clear hend h2 hbt hcp hmem hbest HPOP s2
            rcases Nat.eq_zero_or_pos last with e | e
            · subst e
              clear hall hbeh
              go_wp2_with fail
              go_quiet (fail)
              go_wp2_with fail
              go_roundw
              case rel => exact HEND.out.drewN _
              case measure => simp [intOf]; omega
            · have hl2 : last ≤ j := by
                rcases hbeh with x | x
                · omega
                · exact x.2.1
              have hb := hall last e hl2 hbeh
              obtain ⟨a', rfl⟩ : ∃ a', a = a' + 1 := ⟨a - 1, by omega⟩
              obtain ⟨l', rfl⟩ : ∃ l', last = l' + 1 := ⟨last - 1, by omega⟩
              unfold bt at hb
              rw [htold.1 a' (by omega), htold.1 l' (by omega)] at hb
              obtain ⟨rfl, hca, hbx, hza⟩ := HC.out a' (by omega)
              obtain ⟨_, hcl, _, hzl⟩ := HC.out l' (by omega)
              have ca := (hbel2.cell (p := ⟨bx, ox + a', none⟩) hbx).trans hca
              have cl := (hbel2.cell (p := ⟨bx, ox + l', none⟩) hbx).trans hcl
              clear hall hbeh htold hca hcl
              have HBEL := Lib.hid hbel; clear hbel hbel2
              have ha1 : a' + 1 ≤ 1000 := by omega
              have hl1 : l' + 1 ≤ 1000 := by omega
              generalize z a' = x at ca hb hza
              generalize z l' = y at cl hb hzl
              by_cases hxy : x < y
              · have hne : ((x : Int) == (y : Int)) = false := by simp; omega
                have hd : decide (y < x) = false := by simp; omega
                clear hb
                go_wp2_with fail
                go_quiet (fail)
                go_wp2_with fail
                go_roundw
                case rel => exact HEND.out.drewN _
                case measure => simp [intOf]; omega
              · obtain rfl : x = y := by omega
                have hlt3 : l' < a' := by omega
                have hd : decide (a' ≤ l') = false := by simp; omega
                clear hb hxy
                go_wp2_with fail
                go_quiet (fail)
                go_wp2_with fail
                go_roundw
                case rel => exact HEND.out.drewN _
                case measure => simp [intOf]; omega
        · obtain rfl : i = j := by omega
          have hz : cin inn i = 0 := by omega
          have HI := Lib.hid hI
          clear hI
          go_wp2_with fail
          refine (fixed_any _).mono ?_
          rintro e w2 ⟨rfl, hb2⟩
          have hI2 := HI.out.fixed hb2
          have hpop := pop_any hI2
          have HPOP := Lib.hid hpop
          clear hpop hI2
          have hbel2 := hbel.trans (hb2.mono hbel.size)
          have HB := Lib.hid hbel2
          clear hbel hb2 hbel2
          go_wp2_with fail
          refine HPOP.out.mono ?_
          rintro e w3 h
          obtain ⟨rfl, h3, s3⟩ := h.none hz
          have hbel3 : Below w.heap.size w w3 := HB.out.trans (s3.below HB.out.size hids)
          obtain ⟨pl, rw, h3⟩ := h3
          have hl := len_at h3
          rw [h3.cnt, hz] at hl
          have HL := Lib.hid hl
          have HB3 := Lib.hid hbel3
          clear hl h3 s3 hbel3 h HPOP
          go_wp2_with (go_at_call 39; refine HL.out.mono ?_; rintro e w' ⟨rfl, rfl⟩)
          go_ret
          exact ⟨rfl, HB3.out⟩

set_option maxHeartbeats 1000000 in
theorem law_all (a0 : Option Addr) (len0 cap0 : Nat) (z0 : List Int) (w : World) (w0 : IsRow .u32 w a0 len0 cap0 z0) :
    Calls Try.prog 11 #[.slice a0 len0 cap0] w fun e w' => e = .returned (.bool true) ∧ Below w.heap.size w w' := by
  by_cases hlen : len0 ≤ 1000
  · exact loop_all a0 len0 cap0 z0 w w0 hlen
  · have h : (1000 : Int) < (len0 : Int) := by omega
    clear w0 hlen
    go_enter Try.func11, Try.ntmps11
    go_wp2_with (go_at_call 35; refine (fixed_any _).mono ?_; rintro e w' ⟨rfl, hb⟩)
    go_ret
    exact ⟨rfl, hb⟩

end Go.Proofs.Ytapconhgcoefeaa.Heap
