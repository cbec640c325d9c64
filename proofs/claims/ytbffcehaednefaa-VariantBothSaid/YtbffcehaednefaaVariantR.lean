/- Variants: a row of settings sorted by their names. -/
import Derived.Test.YtbffcehaednefaaVariantQ
import Derived.Test.YtbffcehaednefaaShelf2
namespace Go.Proofs.Ytbffcehaednefaa.Variant
set_option linter.unusedVariables false
set_option linter.unusedSimpArgs false
open Go.RowKit

def encT (x : Tr) : List Value := [.string x.1, .string x.2]
def cfT (x y : Tr) : Int := if ltS x.1 y.1 then -1 else 1
theorem lt_cf (x y : Tr) : ltOf cfT x y = ltS x.1 y.1 := by
  unfold ltOf cfT
  cases ltS x.1 y.1 <;> rfl
theorem swoT : Sort.SWO (ltOf cfT) where
  irrefl x := by rw [lt_cf]; exact ltS_irrefl _
  trans x y z h1 h2 := by rw [lt_cf] at *; exact ltS_trans h1 h2
  ntrans x y z h1 h2 := by
    rw [lt_cf] at *
    cases e : ltS x.1 z.1 with
    | false => rfl
    | true =>
      cases e2 : ltS y.1 x.1 with
      | true => have := ltS_trans e2 e; rw [h2] at this; cases this
      | false => rw [ltS_total h1 e2] at e; rw [h2] at e; cases e

set_option maxHeartbeats 1000000 in
theorem cmpT_any (x y : Tr) (W : World) : Calls Try.prog 56 #[.agg (encT x).toArray, .agg (encT y).toArray] W fun e w' => e = .returned (.int .i64 (cfT x y)) ∧ ∃ q os', w' = Sort.grow (W.drewN q) os' := by
  obtain ⟨x1, x2⟩ := x
  obtain ⟨y1, y2⟩ := y
  show Calls Try.prog 56 #[aggT x1 x2, aggT y1 y2] W _
  obtain ⟨a0, a1⟩ := boxT_cells W x1 x2
  obtain ⟨b0, b1⟩ := boxT_cells (boxT W x1 x2) y1 y2
  have hb := (Below.refl (boxT W x1 x2).heap.size (boxT W x1 x2)).alloc (Nat.le_refl _) (.cells #[.string y1, .string y2] 33)
  have a0' := (hb.cell (p := ⟨W.heap.size, 0, none⟩) (by simp)).trans a0
  rw [World.size_alloc] at b0 b1
  have G : Hid (∃ q os', (boxT (boxT W x1 x2) y1 y2) = Sort.grow (W.drewN q) os') := Lib.hid ⟨0, _, by
    show (W.alloc _).alloc _ = _
    rw [Sort.alloc_eq_grow, Sort.alloc_eq_grow, Sort.grow_grow]; rfl⟩
  clear hb a0 a1 b1
  cases h : ltS x1 y1 with
  | true =>
    have F : Hid (cfT (x1, x2) (y1, y2) = -1) := Lib.hid (by simp [cfT, h])
    have h' : Op.bytesLess x1.toList y1.toList = true := h
    rw [F.out]
    clear h
    go_enter Try.func56, Try.ntmps56
    go_wp2_with fail
    go_ret
    exact ⟨rfl, G.out⟩
  | false =>
    have F : Hid (cfT (x1, x2) (y1, y2) = 1) := Lib.hid (by simp [cfT, h])
    have h' : Op.bytesLess x1.toList y1.toList = false := h
    rw [F.out]
    clear h
    go_enter Try.func56, Try.ntmps56
    go_wp2_with fail
    go_ret
    exact ⟨rfl, G.out⟩

theorem below_sort {w : World} {base g n : Nat} {d : Array Tr} {os : Array Obj} (hb : base ≤ g) (hg : g < w.heap.size) : Below base w (sortWorldK encT 2 w g 0 n d os) := by
  refine ⟨rfl, rfl, rfl, ?_, fun k hk => ?_⟩
  · show w.heap.size ≤ ((w.heap.modify g _) ++ os).size
    simp
  · show ((w.heap.modify g _) ++ os)[k]? = _
    rw [Array.getElem?_append_left (by simp; omega), Array.getElem?_modify, if_neg (by omega)]

theorem isAggT : ∀ w, (isAgg 33).run Try.prog w = .ok true w := fun _ => by kernel_rfl
theorem sizeT : ∀ w, (Go.sizeOf 33).run Try.prog w = .ok 2 w := fun _ => by kernel_rfl

set_option maxRecDepth 100000 in
theorem sort_any {w : World} {base k : Nat} {v : Value} {l : List Tr} (h : w.ownsRow base 33 2 v k (flatT l)) (hk : k ≤ 1000) :
    Calls Try.prog 55 #[v, .func (.func 56) #[] #[]] w fun e w' => e = .returned (.tuple #[]) ∧
      ∃ A c C, v = .slice A k c ∧ k = C.length ∧ C.Perm l ∧ C.Pairwise (fun x y => ltS y.1 x.1 = false) ∧ TRow w' w'.heap.size A C ∧ Below base w w' := by
  have hl : k = l.length := by have := h.1; rw [flatT_len] at this; omega
  rcases Nat.eq_zero_or_pos k with h0 | h0
  · subst h0
    obtain rfl : l = [] := List.length_eq_zero_iff.1 hl.symm
    obtain ⟨A, c, rfl, _, _, _, hr⟩ := ownT_row h
    have t := AnyF.slices_SortFunc_none (P := Try.prog) (ρ := Try.sortT_ren) Try.sortT A c (.func (.func 56) #[] #[]) w
    exact t.mono fun e w' ⟨he, hw⟩ => ⟨he, A, c, [], rfl, rfl, List.Perm.refl _, List.Pairwise.nil, by rw [hw]; exact hr, by rw [hw]; exact Below.refl _ _⟩
  · rcases h.2 with ⟨_, hk⟩ | ⟨g, cap, cur, rfl, hb, hh, hc, hm, hs, ht⟩
    · omega
    have hg := lt_of_block hh
    have hH : Sort.HoldsK encT 2 w g 0 l.toArray := by
      intro j hj
      rw [Sort.size_flatK] at hj
      rw [Sort.get_flatK _ _ _ _ hj]
      have hj' : j < l.length * 2 := by simpa using hj
      have hcur : cur[j]? = (flatT l)[j]? := by
        rw [← ht, List.getElem?_take, if_pos (by omega)]; simp
      refine ⟨?_, blk_free _ hh⟩
      refine blk_cell hh ?_
      rw [Nat.zero_add, hcur]
      obtain ⟨i, hi⟩ : ∃ i, j = i * 2 ∨ j = i * 2 + 1 := ⟨j / 2, by omega⟩
      have hget : ∀ i, i < l.length → l.toArray[i]! = l.getD i tr0 := fun i hi => by
        rw [getD_eq l i hi]; simp [hi]
      rcases hi with rfl | rfl
      · rw [(flatT_at l i (by omega)).1, Nat.mul_div_cancel _ (by omega), Nat.mul_mod_left, hget i (by omega)]; rfl
      · rw [(flatT_at l i (by omega)).2, show (i * 2 + 1) / 2 = i by omega, show (i * 2 + 1) % 2 = 1 by omega, hget i (by omega)]; rfl
    have t := AnyQ.slices_SortFunc (P := Try.prog) (ρ := Try.sortT_ren) Try.sortT 2 isAggT sizeT encT (fun _ => rfl) (fun x v hv => by simp [encT] at hv; rcases hv with rfl | rfl <;> rfl) cfT swoT 56 #[] g 0 cap l.toArray w
      (enters_of Try.func56 (by kernel_rfl) rfl) (fun _ _ _ _ x y => cmpT_any x y _) hH hg (by simp; omega)
    rw [show l.toArray.size = k by simp [hl]] at t
    refine t.mono fun e w' ⟨he, d', n, os, hp, hsrt, hw⟩ => ⟨he, some ⟨g, 0, none⟩, cap, d'.toList, rfl, ?_, ?_, ?_, ?_, ?_⟩
    · have := hp.1; simp at this; simp [this, hl]
    · have h3 := hp.2.2
      have hsz : d'.size = l.length := by have := hp.1; simpa using this
      have e1 : d'.extract 0 k = d' := by rw [hl, ← hsz]; simp
      have e2 : l.toArray.extract 0 k = l.toArray := by rw [hl]; simp
      rw [e1, e2] at h3
      simpa using h3
    · have hsz : d'.size = l.length := by have := hp.1; simpa using this
      rw [List.pairwise_iff_getElem]
      intro i j hi hj hij
      have hi' : i < d'.size := by simpa using hi
      have hj' : j < d'.size := by simpa using hj
      have := hsrt i j (Nat.zero_le _) hij (by omega)
      rw [lt_cf] at this
      simpa [hi', hj'] using this
    · have hsz : d'.size = l.length := by have := hp.1; simpa using this
      have hH2 : Sort.HoldsK encT 2 w' g 0 d' := by
        rw [hw]
        have h1 : Sort.HoldsK encT 2 (Sort.ahead w n) g 0 l.toArray := hH
        have h2 : Sort.HoldsK encT 2 (Sort.putRowK encT 2 (Sort.ahead w n) g 0 d') g 0 d' := by
          apply Sort.holdsK_putRowK <;> first | exact h1 | simpa using hsz
        have h3 : g < (Sort.putRowK encT 2 (Sort.ahead w n) g 0 d').heap.size := by simpa [Sort.putRowK] using hg
        show Sort.HoldsK encT 2 (Sort.grow (Sort.putRowK encT 2 (Sort.ahead w n) g 0 d') os) g 0 d'
        apply Sort.holdsK_grow <;> first | exact h2 | exact h3
      have hg2 : g < w'.heap.size := by rw [hw]; exact Nat.lt_of_lt_of_le hg (below_sort (base := 0) (Nat.zero_le _) hg).size
      refine .inr ⟨g, 0, rfl, hg2, fun j hj => ?_⟩
      have hj' : j < d'.size := by simpa using hj
      have c0 := (hH2.cell (i := j) (c := 0) hj' (by omega)).1
      have c1 := (hH2.cell (i := j) (c := 1) hj' (by omega)).1
      have hget : d'[j]! = d'.toList.getD j tr0 := by rw [getD_eq _ j hj]; simp [hj']
      rw [hget] at c0 c1
      exact ⟨c0, c1⟩
    · rw [hw]; exact below_sort hb hg

end Go.Proofs.Ytbffcehaednefaa.Variant
