/- Halving all scores of a heap, and making one of them higher. -/
import Derived.Test.YtapconhgcoefeaaHeapPush
namespace Go.Proofs.Ytapconhgcoefeaa.Heap
set_option linter.unusedVariables false
open Go.RowKit

variable {w : World} {I : Ids} {n : Nat} {sc : List Nat} {inn : Nat → Bool} {pl : List Int} {rw : List Nat}

def halfTo (j : Nat) (sc : List Nat) : List Nat := (halved sc).take j ++ sc.drop j
theorem halved_len (sc : List Nat) : (halved sc).length = sc.length := by simp [halved]
theorem halfTo_len (j : Nat) (sc : List Nat) : (halfTo j sc).length = sc.length := by
  simp [halfTo, halved_len]; omega
theorem halfTo_zero (sc : List Nat) : halfTo 0 sc = sc := by simp [halfTo]
theorem halfTo_all (sc : List Nat) : halfTo sc.length sc = halved sc := by
  unfold halfTo
  rw [List.drop_length, List.append_nil, List.take_of_length_le (by rw [halved_len]; exact Nat.le_refl _)]
theorem halfTo_at (j : Nat) (sc : List Nat) (hj : j < sc.length) : (halfTo j sc).getD j 0 = sc.getD j 0 := by
  unfold halfTo
  have h : ((halved sc).take j).length = j := by rw [List.length_take, halved_len]; omega
  simp only [List.getD_eq_getElem?_getD]
  rw [List.getElem?_append_right (by omega), h]
  simp
theorem halfTo_set (j : Nat) (sc : List Nat) (hj : j < sc.length) : (halfTo j sc).set j (sc.getD j 0 / 2) = halfTo (j + 1) sc := by
  apply List.ext_getElem?
  intro i
  unfold halfTo
  have h : ((halved sc).take j).length = j := by rw [List.length_take, halved_len]; omega
  have h' : ((halved sc).take (j + 1)).length = j + 1 := by rw [List.length_take, halved_len]; omega
  rw [List.getElem?_set]
  by_cases e : j = i
  · subst e
    rw [if_pos rfl]
    have hl : j < (List.take j (halved sc) ++ List.drop j sc).length := by rw [List.length_append, h, List.length_drop]; omega
    rw [if_pos hl, List.getElem?_append_left (by omega), List.getElem?_take, if_pos (by omega)]
    simp [halved, List.getD_eq_getElem?_getD, hj]
  · rw [if_neg e]
    by_cases l : i < j
    · rw [List.getElem?_append_left (by omega), List.getElem?_append_left (by omega), List.getElem?_take, List.getElem?_take, if_pos l, if_pos (by omega)]
    · rw [List.getElem?_append_right (by omega), List.getElem?_append_right (by omega), h, h', List.getElem?_drop, List.getElem?_drop]
      congr 1
      omega

def LHead (I : Ids) (n : Nat) (sc : List Nat) (pl : List Int) (rw : List Nat) (w : World) (v : Value) (wr : World) : Prop :=
  ∃ j : Nat, v = .int .i64 j ∧ j ≤ sc.length ∧ HM wr I (halfTo j sc) pl rw ∧ Sm I.has w wr
/-- the index of the second loop, one more: how much is no heap yet. -/
def MHead (I : Ids) (n : Nat) (sc : List Nat) (pl : List Int) (rw : List Nat) (w : World) (v : Value) (wr : World) : Prop :=
  ∃ (L : Nat) (pl' : List Int) (rw' : List Nat), v = .int .i64 ((L : Int) - 1) ∧ L ≤ rw'.length / 2 ∧ HM wr I sc pl' rw' ∧ Places n pl' rw' ∧ HeapFrom sc rw' L ∧ Eqv pl pl' rw rw' ∧ Sm I.has w wr

theorem HeapFrom.half (sc rw : List Nat) : HeapFrom sc rw (rw.length / 2) := fun j h1 h2 h3 => by omega
theorem HeapFrom.less {sc rw : List Nat} {L : Nat} (h : HeapFrom sc rw (L + 1)) : Dn sc rw L L :=
  ⟨Nat.le_refl _, fun j h1 h2 h3 h4 => h j h1 h2 (by omega), fun h1 h2 => by omega⟩

theorem Eqv.trans {pl pl' pl'' : List Int} {rw rw' rw'' : List Nat} (h : Eqv pl pl' rw rw') (k : Eqv pl' pl'' rw' rw'') : Eqv pl pl'' rw rw'' :=
  ⟨k.len.trans h.len, fun a => (k.isin a).trans (h.isin a)⟩

theorem IsAt.same (h : IsAt w I n sc inn pl rw) {w' : World} {sc' : List Nat} {pl' : List Int} {rw' : List Nat} (hm : HM w' I sc' pl' rw') (hp : Places n pl' rw') (ho : HeapFrom sc' rw' 0) (he : Eqv pl pl' rw rw')
    (ht : ∀ a, sc'.getD a 0 ≤ most) : IsAt w' I n sc' inn pl' rw' := by
  refine ⟨hm, hp, ho, fun a h1 h2 => ?_, by rw [he.len, h.cnt], ht⟩
  rw [h.isin a h1 h2, Ne, Ne, he.isin a]

set_option maxHeartbeats 4000000 in
set_option maxRecDepth 100000 in
theorem halve_any (hI : Is w I n sc inn) :
    Calls Try.prog 34 #[.pointer (some ⟨I.hb, 0, none⟩)] w fun e w' => e = .returned (.tuple #[]) ∧ Is w' I n (halved sc) inn ∧ Sm I.has w w' := by
  obtain ⟨pl, rw, h⟩ := hI
  have hls := h.lenS
  have hsm := h.mem.small
  have hro := h.mem.room
  have c0 := h.mem.c0
  have hstart : LHead I n sc pl rw w (.int .i64 0) w := ⟨0, rfl, by omega, by rw [halfTo_zero]; exact h.mem, Sm.refl _ _⟩
  have HSTART := Lib.hid hstart
  have HH := Lib.hid h
  have HT := Lib.hid h.top
  clear hstart h hls
  go_enter Try.func34, Try.ntmps34
  go_wp2_with fail
  go_loopw [2, 11] (fun _ v wr => LHead I n sc pl rw w v wr) (fun _ v _ => sc.length - (intOf v).toNat)
  case atStart => exact HSTART.out
  case round =>
    clear c0 HSTART
    obtain ⟨j, rfl, hj, hm, hs⟩ := hrel
    have HS := Lib.hid hs
    by_cases hlt : j < sc.length
    · have c0 := hm.c0
      have p := hm.score j (by rw [halfTo_len]; exact hlt)
      have f := hm.f1 j
      rw [halfTo_at j sc hlt] at p
      rw [halfTo_len] at c0
      have hx := HT.out j
      have hset := hm.setScore j (sc.getD j 0 / 2)
      rw [halfTo_set j sc hlt] at hset
      obtain ⟨x, ex⟩ : ∃ x, x = sc.getD j 0 := ⟨_, rfl⟩
      rw [← ex] at p hx hset
      have hx2 : x ≤ 4611686018427387904 := hx
      have e1 : (((x / 2 : Nat)) : Int) = (x : Int) / 2 := by omega
      rw [e1] at hset
      have HSET := Lib.hid hset
      clear hset hm ex hs hx e1
      go_wp2_with fail
      go_roundw
      case rel => exact ⟨j + 1, by go_num, by omega, HSET.out, HS.out.set _ _ (.inr (.inl rfl))⟩
      case measure => simp [intOf]; omega
    · obtain rfl : j = sc.length := by omega
      rw [halfTo_all] at hm
      have c2 := hm.c2
      have hst2 : MHead I n (halved sc) pl rw w (.int .i64 (((rw.length : Nat) : Int) / 2 - 1)) wr :=
        ⟨rw.length / 2, pl, rw, by go_num, Nat.le_refl _, hm, HH.out.pla, HeapFrom.half _ _, Eqv.refl _ _, hs⟩
      have HST2 := Lib.hid hst2
      clear hm hs hst2
      go_wp2_with fail
      go_loopw [3] (fun v wr => MHead I n (halved sc) pl rw w v wr) (fun v _ => (intOf v + 1).toNat)
      case atStart => exact HST2.out
      case round =>
        clear c2 HST2
        obtain ⟨L, pl', rw', hv, hL, hm, hp, ho, he, hs⟩ := hrel
        have hrl := hm.room
        have hrs := hm.small
        cases L with
        | zero =>
          have hv' : u3 = .int .i64 (-1) := by rw [hv]; rfl
          subst hv'
          have hfin : Is wr I n (halved sc) inn := ⟨pl', rw', HH.out.same hm hp ho he (fun a => by rw [halved_at]; have := HT.out a; omega)⟩
          have HF := Lib.hid hfin
          clear hm hfin hv
          go_wp2_with fail
          go_end0
          exact ⟨rfl, HF.out, hs⟩
        | succ M =>
          have hv' : u3 = .int .i64 (M : Int) := by rw [hv]; go_num
          subst hv'
          have hM : M < rw'.length := by omega
          have hsk := sink_any hm hp M M hM ho.less
          have HSK := Lib.hid hsk
          have HE := Lib.hid he
          have HS2 := Lib.hid hs
          clear hsk hm hp ho he hs hv
          go_wp2_with fail
          refine HSK.out.mono ?_
          rintro e w2 ⟨rfl, pl2, rw2, h3, h4, h5, h6, h7⟩
          have hl6 := h6.len
          have hend : MHead I n (halved sc) pl rw w (.int .i64 ((M : Int) - 1)) w2 := ⟨M, pl2, rw2, rfl, by omega, h3, h4, h5, HE.out.trans h6, HS2.out.trans h7⟩
          have HEND := Lib.hid hend
          clear hend h3 h4 h5 h6 h7 hl6
          go_wp2_with fail
          go_roundw
          case rel => exact HEND.out
          case measure => simp [intOf]

theorem bt_set_other {sc : List Nat} {a x y v : Nat} (hx : x ≠ a) (hy : y ≠ a) : bt (sc.set a v) x y ↔ bt sc x y := by
  unfold bt
  rw [getD_set, getD_set, if_neg (fun h => hy h.1.symm), if_neg (fun h => hx h.1.symm)]
theorem bt_set_up {sc : List Nat} {a x v : Nat} (hx : x ≠ a) (hl : a < sc.length) (hv : sc.getD a 0 ≤ v) (h : ¬ bt sc x a) : ¬ bt (sc.set a v) x a := by
  unfold bt at *
  rw [getD_set, getD_set, if_pos ⟨rfl, hl⟩, if_neg (fun t => hx t.1.symm)]
  omega
theorem Up.bump {sc rw : List Nat} {pl : List Int} (h : HeapFrom sc rw 0) (hp : Places n pl rw) {i a v : Nat} (hi : i < rw.length) (ha : rw.getD i 0 = a) (hl : a < sc.length) (hv : sc.getD a 0 ≤ v) : Up (sc.set a v) rw i := by
  have ne : ∀ j, j < rw.length → j ≠ i → rw.getD j 0 ≠ a := fun j h1 h2 e => h2 (hp.inj h1 hi (by rw [e, ha]))
  constructor
  · intro j h1 h2 h3
    have hj := h j h1 h2 (Nat.zero_le _)
    unfold ok at *
    by_cases e : (j - 1) / 2 = i
    · rw [e, ha] at hj ⊢
      exact bt_set_up (ne j h2 h3) hl hv hj
    · rw [bt_set_other (ne j h2 h3) (ne _ (by omega) e)]
      exact hj
  · intro c h1 h2 h3 h4
    rw [bt_set_other (ne c h1 (by omega)) (ne _ (by omega) (by omega))]
    have hc := h c h2 h1 (Nat.zero_le _)
    have hpar := h i h4 hi (Nat.zero_le _)
    unfold ok at hc hpar
    rw [h3] at hc
    exact nbt_trans hc hpar
theorem HeapFrom.other {sc rw : List Nat} (h : HeapFrom sc rw 0) {a v : Nat} (hn : ∀ j, j < rw.length → rw.getD j 0 ≠ a) : HeapFrom (sc.set a v) rw 0 := by
  intro j h1 h2 h3
  unfold ok
  rw [bt_set_other (hn j h2) (hn _ (by omega))]
  exact h j h1 h2 h3

theorem bump_stable (f : Nat) : ∀ (g : Nat) (sc : List Nat) (a b : Nat), b < 2 ^ f → b < 2 ^ g → Heap.bump (f + 1) sc a b = Heap.bump (g + 1) sc a b := by
  induction f with
  | zero =>
    intro g sc a b hf hg
    simp at hf
    subst hf
    unfold Heap.bump
    rw [if_neg (by omega), if_neg (by omega)]
  | succ f ih =>
    intro g sc a b hf hg
    cases g with
    | zero =>
      simp at hg
      subst hg
      unfold Heap.bump
      rw [if_neg (by omega), if_neg (by omega)]
    | succ g =>
      conv => lhs; unfold Heap.bump
      conv => rhs; unfold Heap.bump
      split
      · rw [Nat.pow_succ] at hf hg
        exact ih g _ _ _ (by omega) (by omega)
      · rfl

def BHead (I : Ids) (n : Nat) (inn : Nat → Bool) (a : Nat) (goal : List Nat) (w : World) (v : Value) (wr : World) : Prop :=
  ∃ (f b : Nat) (sc' : List Nat), v = .int .u64 b ∧ b < 18446744073709551616 ∧ b < 2 ^ f ∧ Heap.bump (f + 1) sc' a b = goal ∧ Is wr I n sc' inn ∧ Sm I.has w wr

set_option maxHeartbeats 800000 in
theorem bump_no (h : IsAt w I n sc inn pl rw) (a b : Int) (h1 : a < 1 ∨ (n : Int) < a) :
    Calls Try.prog 33 #[.pointer (some ⟨I.hb, 0, none⟩), .int .i64 a, .int .u64 b] w fun e w' => e = .returned (.tuple #[]) ∧ w = w' := by
  have hm := may_no h.mem h.pla a h1
  have HM1 := Lib.hid hm
  clear h hm h1
  go_enter Try.func33, Try.ntmps33
  go_wp2_with (go_at_call 60; refine HM1.out.mono ?_; rintro e w' ⟨rfl, rfl⟩)
  refine bodyPost_ret (results_none rfl _ _ _) rfl ?_
  exact ⟨rfl, rfl⟩

set_option maxHeartbeats 4000000 in
set_option maxRecDepth 100000 in
theorem bump_yes (hI : Is w I n sc inn) (a b : Nat) (h1 : 1 ≤ a) (h2 : a ≤ n) (hb : b < 18446744073709551616) :
    Calls Try.prog 33 #[.pointer (some ⟨I.hb, 0, none⟩), .int .i64 a, .int .u64 b] w fun e w' => e = .returned (.tuple #[]) ∧ Is w' I n (Heap.bump 65 sc a b) inn ∧ Sm I.has w w' := by
  obtain ⟨pl, rw, h⟩ := hI
  have hm := may_yes h.mem h.pla a h1 h2
  have HM1 := Lib.hid hm
  have hstart : BHead I n inn a (Heap.bump 65 sc a b) w (.int .u64 b) w := ⟨64, b, sc, rfl, hb, hb, rfl, ⟨pl, rw, h⟩, Sm.refl _ _⟩
  have HSTART := Lib.hid hstart
  obtain ⟨goal, hgoal⟩ : ∃ goal, goal = Heap.bump 65 sc a b := ⟨_, rfl⟩
  rw [← hgoal] at HSTART ⊢
  have hsm := h.mem.small
  have hls := h.lenS
  have hnb : n ≤ 65536 := by omega
  clear hstart h hm hgoal hls
  go_enter Try.func33, Try.ntmps33
  go_wp2_with (go_at_call 60; refine HM1.out.mono ?_; rintro e w' ⟨rfl, rfl⟩)
  go_loopw [2] (fun v wr => BHead I n inn a goal w v wr) (fun v _ => (intOf v).toNat)
  case atStart => exact HSTART.out
  case round =>
    clear HSTART HM1
    obtain ⟨f, c, sc', rfl, hc, hcf, hg, hI, hs⟩ := hrel
    have hI0 := hI
    obtain ⟨pl, rw, h⟩ := hI
    have hls := h.lenS
    have hpl := h.pla.len
    have c0 := h.mem.c0
    have c1 := h.mem.c1
    have sa := h.mem.score a (by omega)
    have pa := h.mem.place a (by omega)
    have f1 := h.mem.f1 a
    have ht := h.top a
    rw [hls] at c0
    rw [hpl] at c1
    obtain ⟨x, ex⟩ : ∃ x, x = sc'.getD a 0 := ⟨_, rfl⟩
    rw [← ex] at sa ht
    have hx : x ≤ 4611686018427387904 := ht
    have hal : a < n + 1 := by omega
    by_cases hgo : 4611686018427387904 - x < c
    · have hgi : (4611686018427387904 : Int) - (x : Int) < (c : Int) := by omega
      have hhalf := halve_any hI0
      have HHALF := Lib.hid hhalf
      have hg2 : Heap.bump (f + 1) sc' a c = Heap.bump f (halved sc') a (c / 2) := by
        conv => lhs; unfold Heap.bump
        rw [if_pos (by rw [← ex]; exact hgo)]
      rw [hg2] at hg
      have HG := Lib.hid hg
      have HS := Lib.hid hs
      have HCF := Lib.hid hcf
      have e1 : ((c / 2 : Nat) : Int) = (c : Int) / 2 := by omega
      have HE1 := Lib.hid e1
      clear hhalf h hI0 hg2 hg hs ex ht hls hpl hcf e1
      go_wp2_with fail
      refine HHALF.out.mono ?_
      rintro e w2 ⟨rfl, h3, s3⟩
      have hend : BHead I n inn a goal w (.int .u64 ((c : Int) / 2)) w2 := by
        cases f with
        | zero => have := HCF.out; simp at this; omega
        | succ f =>
          refine ⟨f, c / 2, halved sc', by rw [HE1.out], by omega, ?_, HG.out, h3, HS.out.trans s3⟩
          have := HCF.out
          rw [Nat.pow_succ] at this
          omega
      have HEND := Lib.hid hend
      clear hend h3 s3
      go_wp2_with fail
      go_roundw
      case rel => exact HEND.out
      case measure => simp [intOf]; omega
    · have hgi : ¬ (4611686018427387904 : Int) - (x : Int) < (c : Int) := by omega
      have hg2 : Heap.bump (f + 1) sc' a c = sc'.set a (x + c) := by
        unfold Heap.bump
        rw [if_neg (by rw [← ex]; exact hgo), ← ex]
      rw [hg2] at hg
      have hset := h.mem.setScore a (x + c)
      have e1 : (((x + c : Nat)) : Int) = (x : Int) + (c : Int) := by omega
      rw [e1] at hset
      have htop : ∀ y, (sc'.set a (x + c)).getD y 0 ≤ most := by
        intro y
        rw [getD_set]
        split
        · show x + c ≤ 4611686018427387904; omega
        · exact h.top y
      have hhas := has_pre hset h.pla a h1 h2 (h.isin a h1 h2)
      have s2 := hs.set ⟨I.g1, a, none⟩ (.int .u64 ((x : Int) + (c : Int))) (.inr (.inl rfl))
      have HG := Lib.hid hg
      have HS := Lib.hid s2
      have HSET := Lib.hid hset
      have HTOP := Lib.hid htop
      have HHAS := Lib.hid hhas
      have HH := Lib.hid h
      have EX := Lib.hid ex
      have hne := h.mem.apart.1
      have hne2 := h.mem.apart.2.2.2.1
      clear h hI0 hg2 hg hs ex ht hls hpl hcf e1 hset htop hhas s2
      cases hin : inn a
      · rw [hin] at HHAS
        have HIN := Lib.hid hin
        have hfin : Is (wr.setCell ⟨I.g1, a, none⟩ (.int .u64 ((x : Int) + (c : Int)))) I n goal inn := by
          rw [← HG.out]
          refine ⟨pl, rw, HH.out.same HSET.out HH.out.pla (HH.out.ord.other ?_) (Eqv.refl _ _) HTOP.out⟩
          intro j hj e
          have r := HH.out.pla.row j hj
          rw [e] at r
          have := (HH.out.isin a h1 h2).2 (by rw [r.2.2]; omega)
          rw [HIN.out] at this
          simp at this
        have HFIN := Lib.hid hfin
        clear hfin hin
        go_wp2_with (go_at_call 38; refine HHAS.out.mono ?_; rintro e w' ⟨rfl, rfl⟩)
        go_end0
        exact ⟨rfl, HFIN.out, HS.out⟩
      · rw [hin] at HHAS
        obtain ⟨i, hi, hpi⟩ : ∃ i, i < rw.length ∧ pl.getD a (-1) = (i : Int) ∧ rw.getD i 0 = a := by
          rcases HH.out.pla.place a h1 h2 with z | z
          · exact absurd z ((HH.out.isin a h1 h2).1 hin)
          · exact z
        rw [hpi.1] at pa
        have hup := Up.bump HH.out.ord HH.out.pla hi hpi.2 (by rw [HH.out.lenS]; omega) (v := x + c) (by rw [← EX.out]; omega)
        have hrise := rise_any HSET.out HH.out.pla i hi hup
        have HRISE := Lib.hid hrise
        clear hup hrise hpi hin
        go_wp2_with (go_at_call 38; refine HHAS.out.mono ?_; rintro e w' ⟨rfl, rfl⟩)
        refine HRISE.out.mono ?_
        rintro e w2 ⟨rfl, pl2, rw2, h3, h4, h5, h6, h7⟩
        have hfin : Is w2 I n goal inn := by
          rw [← HG.out]
          exact ⟨pl2, rw2, HH.out.same h3 h4 h5 h6 HTOP.out⟩
        have HFIN := Lib.hid hfin
        have HS2 := Lib.hid (HS.out.trans h7)
        clear hfin h3 h4 h5 h6 h7
        go_wp2_with fail
        go_end0
        exact ⟨rfl, HFIN.out, HS2.out⟩

end Go.Proofs.Ytapconhgcoefeaa.Heap
