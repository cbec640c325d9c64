/- Variants: the settings of a number. -/
import Derived.Test.YtbffcehaednefaaVariantD
import Derived.Laws.MakeOwn
import Derived.RegionTactic
import Derived.Deep.RegionHeld3
namespace Go.Proofs.Ytbffcehaednefaa.Variant
set_option linter.unusedVariables false
set_option linter.unusedSimpArgs false
open Go.RowKit

/-- what is left of a number ahead of the k-th variant; and the value that it picks. -/
def quo (L : List Vr) (n : Nat) : Nat → Nat
  | 0 => n
  | k + 1 => quo L n k / (L.getD k vr0).2.length
def pick (L : List Vr) (n k : Nat) : ByteArray := (L.getD k vr0).2.getD (quo L n k % (L.getD k vr0).2.length) ByteArray.empty
theorem quo_le (L : List Vr) (n k : Nat) : quo L n k ≤ n := by
  induction k with
  | zero => exact Nat.le_refl _
  | succ k ih => exact Nat.le_trans (Nat.div_le_self _ _) ih

theorem info_setting : (Try.prog.info? 33).map (fun i => (i.zero, i.size, i.bytes)) = some (some (.agg #[.string ⟨#[]⟩, .string ⟨#[]⟩]), 2, 32) := by kernel_rfl
theorem make_settings (n : Nat) (hn : n ≤ 100000) (w : World) : (Instr.makeSlice 31 (.int .i64 n) (.int .i64 n)).run Try.prog w =
    .ok (.slice (some ⟨w.heap.size, 0, none⟩) n n) (w.alloc (.cells (madeCells #[.string ⟨#[]⟩, .string ⟨#[]⟩] (n * 2)) 33)) := by
  obtain ⟨i, hi, hz⟩ := Option.map_eq_some_iff.1 info_setting
  simp only [Prod.mk.injEq] at hz
  obtain ⟨h1, h2, h3⟩ := hz
  have h := run_make w 31 33 i _ Try.underlying31 hi h1 .i64 .i64 (n : Int) (n : Int) (by omega) (by omega) (by rw [h3]; omega) (by omega)
  rw [h2] at h
  exact h

/-- block o holds the first k settings of number n, of m places. -/
def Chosen (W : World) (o : Nat) (L : List Vr) (n m k : Nat) : Prop := ∃ cs : Array Value, W.heap[o]? = some (.cells cs 33 (0, 0)) ∧ cs.size = m * 2 ∧
  ∀ j, j < k → cs[j * 2]? = some (.string (L.getD j vr0).1) ∧ cs[j * 2 + 1]? = some (.string (pick L n j))
theorem Chosen.below {W W' : World} {o : Nat} {L : List Vr} {n m k : Nat} (h : Chosen W o L n m k) (hb : Below W.heap.size W W') : Chosen W' o L n m k := by
  obtain ⟨cs, h1, h2, h3⟩ := h
  exact ⟨cs, (hb.block _ (lt_of_block h1)).trans h1, h2, h3⟩
theorem Chosen.lt {W : World} {o : Nat} {L : List Vr} {n m k : Nat} (h : Chosen W o L n m k) : o < W.heap.size := by
  obtain ⟨cs, h1, _⟩ := h
  exact lt_of_block h1
theorem Chosen.put {W : World} {o : Nat} {L : List Vr} {n m k : Nat} (h : Chosen W o L n m k) (hk : k < m) :
    Chosen ((W.setCell ⟨o, k * 2, none⟩ (.string (L.getD k vr0).1)).setCell ⟨o, k * 2 + 1, none⟩ (.string (pick L n k))) o L n m (k + 1) := by
  obtain ⟨cs, h1, h2, h3⟩ := h
  refine ⟨_, blk_set (k * 2 + 1) _ (blk_set (k * 2) _ h1), by simpa using h2, fun j hj => ?_⟩
  rcases Nat.lt_or_ge j k with h | h
  · obtain ⟨e1, e2⟩ := h3 j h
    refine ⟨?_, ?_⟩
    · rw [Array.getElem?_setIfInBounds_ne (by omega), Array.getElem?_setIfInBounds_ne (by omega)]; exact e1
    · rw [Array.getElem?_setIfInBounds_ne (by omega), Array.getElem?_setIfInBounds_ne (by omega)]; exact e2
  · obtain rfl : j = k := by omega
    refine ⟨?_, ?_⟩
    · rw [Array.getElem?_setIfInBounds_ne (by omega), Array.getElem?_setIfInBounds_self_of_lt (by omega)]
    · rw [Array.getElem?_setIfInBounds_self_of_lt (by simp; omega)]

set_option maxHeartbeats 2000000 in
theorem choose_any (A : Option Addr) (L : List Vr) (m c q : Nat) (w : World) (h : VRow w w.heap.size A L) (hm : m = L.length) (hm4 : m ≤ 4) (hq : q ≤ 1000) (hv : ∀ j, j < L.length → 0 < (L.getD j vr0).2.length ∧ (L.getD j vr0).2.length ≤ 4) :
    Calls Try.prog 48 #[.slice A m c, .int .i64 q] w fun e w' => e = .returned (.slice (some ⟨w.heap.size, 0, none⟩) m m) ∧ Chosen w' w.heap.size L q m m ∧ Below w.heap.size w w' := by
  have z4 : (m : Int) ≤ 4 := by omega
  have hmk := make_settings m (by omega)
  have HM := Lib.hid hm
  have H := Lib.hid h
  have HV := Lib.hid hv
  have HQ := Lib.hid hq
  clear hm hm4 h hv hq
  go_enter Try.func48, Try.ntmps48
  go_wp2_with fail
  have C0 : Hid (Chosen (w.alloc (.cells (madeCells #[.string ⟨#[]⟩, .string ⟨#[]⟩] (m * 2)) 33)) w.heap.size L q m 0) :=
    Lib.hid ⟨_, heap_alloc_new w _, size_madeCells _ _, fun j hj => absurd hj (Nat.not_lt_zero _)⟩
  have B0 := Lib.hid ((Below.refl w.heap.size w).alloc (Nat.le_refl _) (.cells (madeCells #[.string ⟨#[]⟩, .string ⟨#[]⟩] (m * 2)) 33))
  clear hmk
  go_loopw [1, 6, 7, 13] (fun n _ _ v wr => ∃ k : Nat, v = .int .i64 k ∧ n = .int .i64 (quo L q k) ∧ k ≤ m ∧ Below w.heap.size w wr ∧ Chosen wr w.heap.size L q m k) (fun _ _ _ v _ => m - (intOf v).toNat)
  case atStart => exact ⟨0, rfl, rfl, Nat.zero_le _, B0.out, C0.out⟩
  case round =>
    obtain ⟨k, rfl, rfl, hk, hbel, hch⟩ := hrel
    have J := Lib.hid hbel
    have C := Lib.hid hch
    clear hbel hch B0 C0
    by_cases hlt : k < m
    · have hlt' : (k : Int) < (m : Int) := by omega
      have h' := H.out.below (Nat.le_refl _) J.out
      rcases h' with h' | ⟨b, bo, rfl, hb, hcell⟩
      · exfalso; have := HM.out; rw [h'] at this; simp at this; omega
      · obtain ⟨A', n', c', e1, e2, e3, e4, e5, e6⟩ := hcell k (by have := HM.out; omega)
        have hv := HV.out k (by have := HM.out; omega)
        rw [← e1] at hv
        rcases e4 with e4 | ⟨b', bo', rfl, hb', hc'⟩
        · exfalso; rw [e4] at e1; simp at e1; omega
        · obtain ⟨Q, hQ⟩ : ∃ Q, Q = quo L q k := ⟨_, rfl⟩
          have hr : Q % n' < n' := Nat.mod_lt _ (by omega)
          have hval := hc' (Q % n') (by rw [← e1]; exact hr)
          have hpick : pick L q k = (L.getD k vr0).2.getD (Q % n') ByteArray.empty := by rw [hQ, e1]; rfl
          rw [← hpick] at hval
          have hnext : quo L q (k + 1) = Q / n' := by rw [hQ, e1]; rfl
          obtain ⟨x, hx⟩ : ∃ x, x = (L.getD k vr0).1 := ⟨_, rfl⟩
          obtain ⟨val, hp⟩ : ∃ val, val = pick L q k := ⟨_, rfl⟩
          rw [← hx] at e5
          rw [← hp] at hval
          rw [← hQ]
          obtain ⟨r, hrr⟩ : ∃ r, r = Q % n' := ⟨_, rfl⟩
          rw [← hrr] at hr hval
          have hmod : (Q : Int).tmod (n' : Int) = (r : Int) := by rw [hrr]; exact Int.ofNat_tmod Q n'
          have hdiv : (Q : Int).tdiv (n' : Int) = ((Q / n' : Nat) : Int) := Int.ofNat_tdiv Q n'
          have hn0 : ((n' : Int) == 0) = false := by
            cases hb : ((n' : Int) == 0) with
            | false => rfl
            | true => have := eq_of_beq hb; omega
          have hr1 : (r : Int) < (n' : Int) := by omega
          have hnz : ¬ n' = 0 := by omega
          have hQ1 : Q ≤ 1000 := by rw [hQ]; exact Nat.le_trans (quo_le L q k) HQ.out
          have NEXT : Hid (∀ v : Int, v = (Q : Int) / (n' : Int) → Value.int .i64 (wrap64 v) = .int .i64 (quo L q (k + 1))) := Lib.hid (fun v hv => by
            rw [hv, hnext, show (Q : Int) / (n' : Int) = ((Q / n' : Nat) : Int) from (Int.natCast_ediv Q n').symm]
            have : Q / n' ≤ 1000 := Nat.le_trans (Nat.div_le_self _ _) hQ1
            generalize Q / n' = z at this ⊢
            congr 1
            unfold wrap64
            omega)
          have hne : w.heap.size ≠ wr.heap.size := by have := C.out.lt; omega
          have hne' : b' ≠ w.heap.size := by omega
          have R := Lib.hid (VB.start wr x (some ⟨b', bo', none⟩) n' c')
          have CH := Lib.hid (C.out.below R.out.below)
          have CH0 : Hid (Chosen (wr.alloc (.cells #[.string x, .slice (some ⟨b', bo', none⟩) n' c'] 30)) w.heap.size L q m k) := CH
          have PUT := Lib.hid (CH0.out.put hlt)
          rw [← hx, ← hp] at PUT
          have BE := Lib.hid (((((Below.alloc J.out J.out.size (.cells #[.string x, .slice (some ⟨b', bo', none⟩) n' c'] 30)).setCell (p := ⟨w.heap.size, k * 2, none⟩) (Nat.le_refl _) (.string x)).setCell (p := ⟨w.heap.size, k * 2 + 1, none⟩) (Nat.le_refl _) (.string val))).drew)
          have hcv : (wr.alloc (.cells #[.string x, .slice (some ⟨b', bo', none⟩) n' c'] 30)).drew.cell? ⟨b', bo' + r, none⟩ = some (.string val) := (R.out.below.cell (p := ⟨b', bo' + r, none⟩) (by have := J.out.size; show b' < _; omega)).trans hval
          have hf0 : (wr.alloc (.cells #[.string x, .slice (some ⟨b', bo', none⟩) n' c'] 30)).drew.frozen? ⟨w.heap.size, k * 2, none⟩ = false := by obtain ⟨cs, h1, _⟩ := CH.out; exact blk_free _ h1
          have hf1 : (wr.alloc (.cells #[.string x, .slice (some ⟨b', bo', none⟩) n' c'] 30)).frozen? ⟨w.heap.size, k * 2 + 1, none⟩ = false := by obtain ⟨cs, h1, _⟩ := CH.out; exact blk_free (w := (wr.alloc (.cells #[.string x, .slice (some ⟨b', bo', none⟩) n' c'] 30))) _ h1
          have hcell0 : ∃ y, (wr.alloc (.cells #[.string x, .slice (some ⟨b', bo', none⟩) n' c'] 30)).drew.cell? ⟨w.heap.size, k * 2, none⟩ = some y := by
            obtain ⟨cs, h1, h2, _⟩ := CH.out
            exact ⟨cs[k * 2]'(by omega), blk_cell h1 (Array.getElem?_eq_getElem _)⟩
          have hcell1 : ∃ y, (wr.alloc (.cells #[.string x, .slice (some ⟨b', bo', none⟩) n' c'] 30)).cell? ⟨w.heap.size, k * 2 + 1, none⟩ = some y := by
            obtain ⟨cs, h1, h2, _⟩ := CH.out
            exact ⟨cs[k * 2 + 1]'(by omega), blk_cell (w := (wr.alloc (.cells #[.string x, .slice (some ⟨b', bo', none⟩) n' c'] 30))) h1 (Array.getElem?_eq_getElem _)⟩
          obtain ⟨y0, hy0⟩ := hcell0
          obtain ⟨y1, hy1⟩ := hcell1
          obtain ⟨c0, c1⟩ := R.out.cells
          clear hcell hc' hpick hnext hx hp hrr e1 e2 e3 hv hr hQ
          go_wp2_with fail
          clear e5 e6
          go_region
          go_wp2_with fail
          go_roundw
          case rel => exact ⟨k + 1, by go_num, NEXT.out _ rfl, by omega, BE.out, PUT.out⟩
          case measure => simp [intOf]; omega
    · have e : k = m := by omega
      subst e
      go_wp2_with fail
      go_ret
      exact ⟨rfl, C.out, J.out⟩

end Go.Proofs.Ytbffcehaednefaa.Variant
