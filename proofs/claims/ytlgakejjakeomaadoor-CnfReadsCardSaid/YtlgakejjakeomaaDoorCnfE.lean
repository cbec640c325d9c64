/- Clauses: the program's own form. -/
import Derived.Test.YtlgakejjakeomaaDoorCnfD
import Derived.Test.YtlgakejjakeomaaDoorShelf2
import Derived.Shelf.SlSortCmp.NoneTotal
import Derived.Lib.OwnBridge
namespace Go.Proofs.YtlgakejjakeomaaDoor.Cnf
set_option linter.unusedVariables false
set_option linter.unusedSimpArgs false
open Go.RowKit Go.Lib
open Go.Proofs.YtlgakejjakeomaaDoor.Order (IRow ERow add_at)

def atomV (x : Int) : Int := if x < 0 then wrap64 (-x) else x
theorem atomV_rg {x : Int} (h : Rg x) : atomV x = atomW x := by
  obtain ⟨h1, h2⟩ := h
  unfold atomV atomW
  by_cases e : x = -9223372036854775808
  · subst e; rw [if_pos (by omega), if_pos rfl]; exact wmin
  · rw [if_neg e]
    split
    · unfold wrap64; omega
    · omega
set_option maxHeartbeats 400000 in
theorem atomV_any (x : Int) (w : World) : Calls Tryd.prog 32 #[.int .i64 x] w fun e w' => e = .returned (.int .i64 (atomV x)) ∧ w = w' := by
  by_cases h : x < 0
  · have F : Hid (atomV x = wrap64 (-x)) := Lib.hid (by unfold atomV; rw [if_pos h])
    go_enter Tryd.func32, Tryd.ntmps32
    go_wp2_with fail
    go_ret
    exact ⟨ret_int F.out.symm, rfl⟩
  · have F : Hid (atomV x = x) := Lib.hid (by unfold atomV; rw [if_neg h])
    have h' : 0 ≤ x := by omega
    go_enter Tryd.func32, Tryd.ntmps32
    go_wp2_with fail
    go_ret
    exact ⟨ret_int F.out.symm, rfl⟩

def byV (x y : Int) : Int := if Lib.compareInt (atomV x) (atomV y) ≠ 0 then Lib.compareInt (atomV x) (atomV y) else Lib.compareInt x y
set_option maxHeartbeats 400000 in
theorem byV_any (x y : Int) (w : World) : Calls Tryd.prog 59 #[.int .i64 x, .int .i64 y] w fun e w' => e = .returned (.int .i64 (byV x y)) ∧ w = w' := by
  have A1 := Lib.hid (atomV_any x w)
  have A2 := Lib.hid (atomV_any y w)
  have C1 : Hid (Calls Tryd.prog 77 #[.int .i64 (atomV x), .int .i64 (atomV y)] w fun e w' => e = .returned (.int .i64 (Lib.compareInt (atomV x) (atomV y))) ∧ w' = w) := Lib.hid (Tryd.cmp_Compare_int (atomV x) (atomV y) w)
  have C2 : Hid (Calls Tryd.prog 77 #[.int .i64 x, .int .i64 y] w fun e w' => e = .returned (.int .i64 (Lib.compareInt x y)) ∧ w' = w) := Lib.hid (Tryd.cmp_Compare_int x y w)
  have B : Hid (byV x y = if Lib.compareInt (atomV x) (atomV y) ≠ 0 then Lib.compareInt (atomV x) (atomV y) else Lib.compareInt x y) := Lib.hid rfl
  obtain ⟨a, ha⟩ : ∃ a, a = atomV x := ⟨_, rfl⟩
  obtain ⟨b, hb⟩ : ∃ b, b = atomV y := ⟨_, rfl⟩
  obtain ⟨c, hc⟩ : ∃ c, c = Lib.compareInt a b := ⟨_, rfl⟩
  obtain ⟨d, hd⟩ : ∃ d, d = Lib.compareInt x y := ⟨_, rfl⟩
  rw [← ha, ← hb] at C1 B
  rw [← ha] at A1
  rw [← hb] at A2
  rw [← hc] at C1 B
  rw [← hd] at C2 B
  clear ha hb hc hd
  by_cases h0 : c = 0
  · subst h0
    have F : Hid (byV x y = d) := Lib.hid (by rw [B.out]; simp)
    go_enter Tryd.func59, Tryd.ntmps59
    go_wp2_with fail
    refine A1.out.mono ?_
    rintro e w' ⟨rfl, rfl⟩
    go_wp2_with fail
    refine A2.out.mono ?_
    rintro e w' ⟨rfl, rfl⟩
    go_wp2_with fail
    refine C1.out.mono ?_
    rintro e w' ⟨rfl, rfl⟩
    go_wp2_with fail
    refine C2.out.mono ?_
    rintro e w' ⟨rfl, rfl⟩
    go_wp2_with fail
    go_ret
    exact ⟨ret_int F.out.symm, rfl⟩
  · have F : Hid (byV x y = c) := Lib.hid (by rw [B.out, if_pos h0])
    go_enter Tryd.func59, Tryd.ntmps59
    go_wp2_with fail
    refine A1.out.mono ?_
    rintro e w' ⟨rfl, rfl⟩
    go_wp2_with fail
    refine A2.out.mono ?_
    rintro e w' ⟨rfl, rfl⟩
    go_wp2_with fail
    refine C1.out.mono ?_
    rintro e w' ⟨rfl, rfl⟩
    go_wp2_with fail
    go_ret
    exact ⟨ret_int F.out.symm, rfl⟩


def keyV (x y : Int) : Bool := decide (atomV x < atomV y) || (decide (atomV x = atomV y) && decide (x < y))
theorem keyV_iff (x y : Int) : keyV x y = true ↔ (atomV x < atomV y ∨ (atomV x = atomV y ∧ x < y)) := by simp [keyV]
theorem keyV_rg {x y : Int} (hx : Rg x) (hy : Rg y) : keyV x y = keyLt x y := by unfold keyV keyLt; rw [atomV_rg hx, atomV_rg hy]
theorem byV_lt (x y : Int) : ltOf byV x y = keyV x y := by
  rw [Bool.eq_iff_iff, keyV_iff]
  unfold ltOf
  rw [decide_eq_true_eq]
  have h1 := compareInt_lt (atomV x) (atomV y)
  have h2 := compareInt_lt x y
  unfold byV
  split
  · rename_i h; omega
  · rename_i h; simp at h; omega
theorem swoV : Sort.SWO (ltOf byV) where
  irrefl x := by rw [byV_lt, Bool.eq_false_iff]; intro h; rw [keyV_iff] at h; omega
  trans x y z h1 h2 := by rw [byV_lt, keyV_iff] at *; omega
  ntrans x y z h1 h2 := by rw [byV_lt, Bool.eq_false_iff] at *; intro h; apply h1; rw [Ne, keyV_iff] at h2; rw [keyV_iff] at *; omega

abbrev rowV (l : List Int) : List Value := l.map (Value.int .i64)
theorem own_irow {w : World} {base n : Nat} {v : Value} {l : List Int} (h : w.ownsRow base 3 1 v n (rowV l)) :
    ∃ A c, v = .slice A n c ∧ n = l.length ∧ n ≤ c ∧ c ≤ maxLen ∧ IRow w w.heap.size A l ∧ ∀ k, v.ownBlock = some k → base ≤ k ∧ k < w.heap.size := by
  have hl : n = l.length := by have := h.1; simpa using this.symm
  have hb := h.lt
  rcases h.2 with ⟨rfl, hk⟩ | ⟨g, cap, cur, rfl, hb', hh, hc, hm, hs, ht⟩
  · exact ⟨none, 0, by rw [hk], hl, by omega, by unfold maxLen; omega, .inl (List.length_eq_zero_iff.1 (by omega)), hb⟩
  · refine ⟨some ⟨g, 0, none⟩, cap, rfl, hl, hc, hm, .inr ⟨g, 0, rfl, lt_of_block hh, fun j hj => ?_⟩, hb⟩
    rw [Nat.zero_add]
    refine blk_cell hh ?_
    have e : (rowV l)[j]? = some (.int .i64 (l.getD j 0)) := by
      simp [List.getD_eq_getElem?_getD, hj]
    rw [← ht, List.getElem?_take, if_pos (by omega)] at e
    simpa using e

theorem cloneI_any (A : Option Addr) (l : List Int) (n c : Nat) (w : World) (h : IRow w w.heap.size A l) (hn : n = l.length) (hm : n * 8 ≤ 140737488355328) :
    Calls Tryd.prog 39 #[.slice A n c] w fun e w' => ∃ v, e = .returned v ∧ w'.ownsRow w.heap.size 3 1 v n (rowV l) ∧ Below w.heap.size w w' := by
  cases A with
  | none =>
    have e : l = [] := by
      rcases h with h | ⟨_, _, h, _⟩
      · exact h
      · cases h
    subst e
    simp at hn
    subst hn
    exact (Tryd.slices_Clone_int_nil 0 c w).mono fun e w' ⟨h1, h2⟩ => ⟨_, h1, World.ownsRow_nil _ _ _ _, by rw [h2]; exact Below.refl _ _⟩
  | some a =>
    rcases h with h | ⟨b, o, e, hb, hc⟩
    · subst h
      simp at hn
      subst hn
      exact (Tryd.slices_Clone_int_zero a c w).mono fun e w' ⟨v, h1, h2, _, h4⟩ => ⟨v, h1, h2, h4⟩
    · injection e with e
      subst e
      have t := Tryd.slices_Clone_int b o n c l w (by omega) hm hc
      rw [hn, List.take_length, ← hn] at t
      exact t.mono fun e w' ⟨v, h1, h2, _, h4⟩ => ⟨v, h1, h2, h4⟩

theorem grow_below {w : World} (base : Nat) (h : base ≤ w.heap.size) (os : Array Obj) : Below base w (Sort.grow w os) := by
  refine ⟨rfl, rfl, rfl, ?_, fun k hk => ?_⟩
  · show w.heap.size ≤ (w.heap ++ os).size
    simp
  · show (w.heap ++ os)[k]? = _
    rw [Array.getElem?_append_left (by omega)]
theorem grow_grown (w : World) (os : Array Obj) : w.grownBy (Sort.grow w os) none := by
  have h := grow_below (w := w) w.heap.size (Nat.le_refl _) os
  exact ⟨h.os, h.tape, h.output, h.size, fun k hk _ => h.block k hk⟩

theorem sortI_any {w : World} {base n : Nat} {v : Value} {l : List Int} (h : w.ownsRow base 3 1 v n (rowV l)) (hm : n < 4611686018427387904) :
    Calls Tryd.prog 58 #[v, .func (.func 59) #[] #[]] w fun e w' => e = .returned (.tuple #[]) ∧
      ∃ C : List Int, C.Perm l ∧ C.Pairwise (fun x y => keyV y x = false) ∧ w'.ownsRow base 3 1 v n (rowV C) ∧ Below base w w' := by
  have hl : n = l.length := by have := h.1; simpa using this.symm
  rcases Nat.eq_zero_or_pos n with h0 | h0
  · subst h0
    obtain rfl : l = [] := List.length_eq_zero_iff.1 hl.symm
    obtain ⟨A, c, rfl, _⟩ := own_irow h
    have t := AnyF.slices_SortFunc_none (P := Tryd.prog) (ρ := Tryd.sortI_ren) { Tryd.sortI with } A c (.func (.func 59) #[] #[]) w
    exact t.mono fun e w' ⟨he, hw⟩ => ⟨he, [], List.Perm.refl _, List.Pairwise.nil, by rw [hw]; exact h, by rw [hw]; exact Below.refl _ _⟩
  · have hv : v ≠ .slice none 0 0 := by
      intro e
      rcases h.2 with ⟨_, h1⟩ | ⟨g, cap, cur, h1, _⟩
      · omega
      · rw [e] at h1; injection h1 with h1; cases h1
    obtain ⟨g, cap, rfl, hb, hg, hc, hcm, hzl, hH⟩ := holds_of_ownsRow h hv
    have t := Any.slices_SortFunc (P := Tryd.prog) (ρ := Tryd.sortI_ren) Tryd.sortI (Value.int .i64) (fun _ => rfl) byV swoV 59 #[] g 0 cap l.toArray w
      (enters_of Tryd.func59 (by kernel_rfl) rfl) (fun m os dk _ x y => (byV_any x y _).mono fun e w' ⟨h1, h2⟩ => ⟨h1, 0, #[], by rw [← h2, Sort.grow_empty]; rfl⟩) hH hg (by simp; omega)
    rw [show l.toArray.size = n by simp [hl]] at t
    refine t.mono fun e w' ⟨he, d', q, os, hp, hsrt, hw⟩ => ⟨he, d'.toList, ?_, ?_, ?_, ?_⟩
    · have h3 := hp.2.2
      have hsz : d'.size = l.length := by have := hp.1; simpa using this
      have e1 : d'.extract 0 n = d' := by rw [hl, ← hsz]; simp
      have e2 : l.toArray.extract 0 n = l.toArray := by rw [hl]; simp
      rw [e1, e2] at h3
      simpa using h3
    · have hsz : d'.size = l.length := by have := hp.1; simpa using this
      rw [List.pairwise_iff_getElem]
      intro i j hi hj hij
      have hi' : i < d'.size := by simpa using hi
      have hj' : j < d'.size := by simpa using hj
      have := hsrt i j (Nat.zero_le _) hij (by omega)
      rw [byV_lt] at this
      simpa [hi', hj'] using this
    · have hsz : d'.toList.length = n := by have := hp.1; simp at this; simp; omega
      have o1 := ownsRow_putRow (q := q) (ys := d'.toList) (k := n) h hsz (Nat.le_refl _)
      rw [← hsz, List.take_length, hsz] at o1
      rw [hw]
      have o2 := o1.kept (grow_grown _ os) (.inr (by simp [Value.ownBlock]))
      unfold sortWorld
      simpa using o2
    · rw [hw]
      have b1 := below_putRow (enc := Value.int .i64) (q := q) (d := d') (Below.refl base w) hb
      exact b1.trans (grow_below base (Nat.le_trans (by omega) b1.size) os)

theorem compactI_any {w : World} {base n : Nat} {v : Value} {l : List Int} (h : w.ownsRow base 3 1 v n (rowV l)) :
    Calls Tryd.prog 60 #[v] w fun e w' => ∃ v', e = .returned v' ∧ w'.ownsRow base 3 1 v' (Lib.compact l).length (rowV (Lib.compact l)) ∧ Below base w w' := by
  have hl : n = l.length := by have := h.1; simpa using this.symm
  rcases Nat.eq_zero_or_pos n with h0 | h0
  · subst h0
    obtain rfl : l = [] := List.length_eq_zero_iff.1 hl.symm
    obtain ⟨A, c, rfl, _⟩ := own_irow h
    exact (Tryd.slices_Compact_int_empty A c w).mono fun e w' ⟨he, hw⟩ => ⟨_, he, by rw [hw]; exact h, by rw [hw]; exact Below.refl _ _⟩
  · have hv : v ≠ .slice none 0 0 := by
      intro e
      rcases h.2 with ⟨_, h1⟩ | ⟨g, cap, cur, h1, _⟩
      · omega
      · rw [e] at h1; injection h1 with h1; cases h1
    obtain ⟨g, cap, rfl, hb, hg, hc, hcm, hzl, hH⟩ := holds_of_ownsRow h hv
    have t := Tryd.slices_Compact_int g 0 cap l w hH (by unfold maxLen at hcm; omega) (by omega)
    rw [← hl] at t
    refine t.mono fun e w' ⟨he, q, hw⟩ => ⟨_, he, ?_, ?_⟩
    · have hcl : (Lib.compact l).length ≤ n := by
        rw [hl]; unfold Lib.compact compactUpTo
        rw [List.length_map]
        exact Nat.le_trans (List.length_filter_le _ _) (by simp)
      have o1 := ownsRow_putRow (q := q) (ys := Lib.compact l ++ List.replicate (n - (Lib.compact l).length) 0) (k := (Lib.compact l).length) h (by simp; omega) hcl
      rw [List.take_left] at o1
      rw [hw]; exact o1
    · rw [hw]; exact below_putRow (Below.refl base w) hb

end Go.Proofs.YtlgakejjakeomaaDoor.Cnf
