/- Variants: all settings of variants. -/
import Derived.Test.YtbffcehaednefaaVariantE
namespace Go.Proofs.Ytbffcehaednefaa.Variant
set_option linter.unusedVariables false
set_option linter.unusedSimpArgs false
open Go.RowKit

def prodTo (L : List Vr) : Nat → Nat
  | 0 => 1
  | k + 1 => prodTo L k * (L.getD k vr0).2.length
theorem may_parts {L : List Vr} (h : mayL L = true) : L.length ≤ 4 ∧ ∀ j, j < L.length → 0 < (L.getD j vr0).2.length ∧ (L.getD j vr0).2.length ≤ 4 := by
  unfold mayL at h
  simp only [Bool.and_eq_true, decide_eq_true_eq] at h
  refine ⟨h.1, fun j hj => ?_⟩
  have h2 := List.all_eq_true.1 h.2 j (by simpa using hj)
  unfold okV mayOneB at h2
  simp only [Bool.and_eq_true, decide_eq_true_eq] at h2
  exact ⟨h2.1.1.1.2, h2.1.1.2⟩
theorem prodTo_le (L : List Vr) (k : Nat) (hk : k ≤ 4) (h : ∀ j, j < k → (L.getD j vr0).2.length ≤ 4) : prodTo L k ≤ 256 := by
  have key : ∀ i, i ≤ k → prodTo L i ≤ 4 ^ i := fun i hi => by
    induction i with
    | zero => exact Nat.le_refl _
    | succ i ih =>
      rw [Nat.pow_succ]
      exact Nat.mul_le_mul (ih (by omega)) (h i (by omega))
  exact Nat.le_trans (key k (Nat.le_refl _)) (Nat.le_trans (Nat.pow_le_pow_right (by omega) hk) (by omega))

theorem info_settings : (Try.prog.info? 31).map (fun i => (i.zero, i.size, i.bytes)) = some (some (.slice none 0 0), 1, 24) := by kernel_rfl
theorem make_rows (n : Nat) (hn : n ≤ 100000) (w : World) : (Instr.makeSlice 26 (.int .i64 n) (.int .i64 n)).run Try.prog w =
    .ok (.slice (some ⟨w.heap.size, 0, none⟩) n n) (w.alloc (.cells (madeCells #[.slice none 0 0] n) 31)) := by
  obtain ⟨i, hi, hz⟩ := Option.map_eq_some_iff.1 info_settings
  simp only [Prod.mk.injEq] at hz
  obtain ⟨h1, h2, h3⟩ := hz
  have h := run_make w 26 31 i _ Try.underlying26 hi h1 .i64 .i64 (n : Int) (n : Int) (by omega) (by omega) (by rw [h3]; omega) (by omega)
  rw [h2] at h
  simp only [Int.toNat_natCast, Nat.mul_one] at h
  exact h

/-- block o holds the first k rows of settings, of N places. -/
def AllRow (W : World) (o : Nat) (L : List Vr) (m N k : Nat) : Prop := ∃ cs : Array Value, W.heap[o]? = some (.cells cs 31 (0, 0)) ∧ cs.size = N ∧
  ∀ j, j < k → ∃ g, cs[j]? = some (.slice (some ⟨g, 0, none⟩) m m) ∧ o < g ∧ Chosen W g L j m m
theorem AllRow.below {W W' : World} {o : Nat} {L : List Vr} {m N k : Nat} (h : AllRow W o L m N k) (hb : Below W.heap.size W W') : AllRow W' o L m N k := by
  obtain ⟨cs, h1, h2, h3⟩ := h
  refine ⟨cs, (hb.block _ (lt_of_block h1)).trans h1, h2, fun j hj => ?_⟩
  obtain ⟨g, e1, e2, e3⟩ := h3 j hj
  exact ⟨g, e1, e2, e3.below hb⟩
theorem Chosen.far {W : World} {g : Nat} {L : List Vr} {n m k : Nat} (h : Chosen W g L n m k) {b : Nat} (hb : g ≠ b) (j : Nat) (v : Value) : Chosen (W.setCell ⟨b, j, none⟩ v) g L n m k := by
  obtain ⟨cs, h1, h2, h3⟩ := h
  exact ⟨cs, (Below.heap_setCell _ _ _ _ hb).trans h1, h2, h3⟩
theorem AllRow.put {W : World} {o g : Nat} {L : List Vr} {m N k : Nat} (h : AllRow W o L m N k) (hk : k < N) (hg : o < g) (hc : Chosen W g L k m m) :
    AllRow (W.setCell ⟨o, k, none⟩ (.slice (some ⟨g, 0, none⟩) m m)) o L m N (k + 1) := by
  obtain ⟨cs, h1, h2, h3⟩ := h
  refine ⟨_, blk_set k _ h1, by simpa using h2, fun j hj => ?_⟩
  rcases Nat.lt_or_ge j k with h | h
  · obtain ⟨g', e1, e2, e3⟩ := h3 j h
    exact ⟨g', by rw [Array.getElem?_setIfInBounds_ne (by omega)]; exact e1, e2, e3.far (by omega) _ _⟩
  · obtain rfl : j = k := by omega
    exact ⟨g, by rw [Array.getElem?_setIfInBounds_self_of_lt (by omega)], hg, hc.far (by omega) _ _⟩

set_option maxHeartbeats 2000000 in
theorem all_no (A : Option Addr) (L : List Vr) (n c : Nat) (w : World) (h : VRow w w.heap.size A L) (hn : n = L.length) (hc : n ≤ c) (hm : c ≤ maxLen) (hno : mayL L = false) :
    Calls Try.prog 17 #[.slice A n c] w fun e w' => e = .returned (.slice none 0 0) ∧ Below w.heap.size w w' := by
  have M := Lib.hid (may_any A L n c w h hn hc hm)
  rw [hno] at M
  clear h hn hc hm hno
  go_enter Try.func17, Try.ntmps17
  go_wp2_with fail
  go_at_call 47; refine M.out.mono ?_; rintro e w1 ⟨rfl, hb⟩
  go_wp2_with fail
  go_ret
  exact ⟨rfl, hb⟩

set_option maxHeartbeats 2000000 in
theorem all_yes (A : Option Addr) (L : List Vr) (m c : Nat) (w : World) (h : VRow w w.heap.size A L) (hn : m = L.length) (hc : m ≤ c) (hm : c ≤ maxLen) (hyes : mayL L = true) :
    Calls Try.prog 17 #[.slice A m c] w fun e w' => ∃ o, e = .returned (.slice (some ⟨o, 0, none⟩) (prodTo L m) (prodTo L m)) ∧ w.heap.size ≤ o ∧ AllRow w' o L m (prodTo L m) (prodTo L m) ∧ Below w.heap.size w w' := by
  have M := Lib.hid (may_any A L m c w h hn hc hm)
  rw [hyes] at M
  obtain ⟨hl4, hvs⟩ := may_parts hyes
  have hm4 : m ≤ 4 := by omega
  have z4 : (m : Int) ≤ 4 := by omega
  have PL : Hid (∀ k, k ≤ m → prodTo L k ≤ 256) := Lib.hid (fun k hk => prodTo_le L k (by omega) (fun j hj => (hvs j (by omega)).2))
  have HN := Lib.hid hn
  have H := Lib.hid h
  have VS := Lib.hid hvs
  have H4 := Lib.hid hm4
  clear h hn hc hm hyes hl4 hvs hm4
  go_enter Try.func17, Try.ntmps17
  go_wp2_with fail
  go_at_call 47; refine M.out.mono ?_; rintro e w1 ⟨rfl, hb⟩
  have B1 := Lib.hid hb
  clear hb M
  go_wp2_with fail
  go_loopw [3, 5, 13] (fun n _ v wr => ∃ k : Nat, v = .int .i64 k ∧ n = .int .i64 (prodTo L k) ∧ k ≤ m ∧ Below w.heap.size w wr) (fun _ _ v _ => m - (intOf v).toNat)
  case atStart => exact ⟨0, rfl, rfl, Nat.zero_le _, B1.out⟩
  case round =>
    obtain ⟨k, rfl, rfl, hk, hbel⟩ := hrel
    have J := Lib.hid hbel
    clear hbel B1
    by_cases hlt : k < m
    · have hlt' : (k : Int) < (m : Int) := by omega
      have h' := H.out.below (Nat.le_refl _) J.out
      rcases h' with h' | ⟨b, bo, rfl, hb, hcell⟩
      · exfalso; have := HN.out; rw [h'] at this; simp at this; omega
      · obtain ⟨A', n', c', e1, e2, e3, e4, e5, e6⟩ := hcell k (by have := HN.out; omega)
        have hp := PL.out (k + 1) (by omega)
        have hp0 := PL.out k (by omega)
        have NEXT : Hid (∀ v : Int, v = (prodTo L k : Int) * (n' : Int) → Value.int .i64 (wrap64 v) = .int .i64 (prodTo L (k + 1))) := Lib.hid (fun v hv => by
          have e : prodTo L (k + 1) = prodTo L k * n' := by rw [e1]; rfl
          rw [hv, e, ← Int.natCast_mul]
          rw [e] at hp
          generalize prodTo L k * n' = z at hp ⊢
          congr 1
          unfold wrap64
          omega)
        have R := Lib.hid (boxV_cells wr (L.getD k vr0).1 A' n' c')
        obtain ⟨c0, c1⟩ := R.out
        obtain ⟨P, hP⟩ : ∃ P, P = prodTo L k := ⟨_, rfl⟩
        obtain ⟨x, hx⟩ : ∃ x, x = (L.getD k vr0).1 := ⟨_, rfl⟩
        rw [← hP] at NEXT hp0 ⊢
        rw [← hx] at e5 c0 c1
        clear hcell e1 e2 e3 e4 hp hP hx
        have BA := Lib.hid (Below.alloc J.out J.out.size (.cells #[.string x, .slice A' n' c'] 30))
        go_wp2_with fail
        go_roundw
        case rel => exact ⟨k + 1, by go_num, NEXT.out _ rfl, by omega, BA.out⟩
        case measure => simp [intOf]; omega
    · have e : k = m := by omega
      subst e
      have hN := PL.out k (Nat.le_refl _)
      obtain ⟨N, hNN⟩ : ∃ N, N = prodTo L k := ⟨_, rfl⟩
      rw [← hNN] at hN ⊢
      have CZ : Hid (∀ q W, q ≤ 1000 → Below w.heap.size w W → Calls Try.prog 48 #[.slice A k c, .int .i64 (q : Nat)] W fun e w' => e = .returned (.slice (some ⟨W.heap.size, 0, none⟩) k k) ∧ Chosen w' W.heap.size L q k k ∧ Below W.heap.size W w') :=
        Lib.hid (fun q W hq hW => choose_any A L k c q W (H.out.below hW.size hW) HN.out H4.out hq VS.out)
      have hmk := make_rows N (by omega)
      obtain ⟨o, ho⟩ : ∃ o, o = wr.heap.size := ⟨_, rfl⟩
      have B0 := Lib.hid (Below.alloc J.out J.out.size (.cells (madeCells #[.slice none 0 0] N) 31))
      have A0 : Hid (AllRow (wr.alloc (.cells (madeCells #[.slice none 0 0] N) 31)) o L k N 0) :=
        Lib.hid (by rw [ho]; exact ⟨_, heap_alloc_new wr _, size_madeCells _ _, fun j hj => absurd hj (Nat.not_lt_zero _)⟩)
      have OW : Hid (w.heap.size ≤ o) := Lib.hid (by rw [ho]; exact J.out.size)
      have hmk' : (Instr.makeSlice 26 (.int .i64 N) (.int .i64 N)).run Try.prog wr = .ok (.slice (some ⟨o, 0, none⟩) N N) (wr.alloc (.cells (madeCells #[.slice none 0 0] N) 31)) := by rw [ho]; exact hmk wr
      have NN := Lib.hid hNN
      clear hNN ho hmk
      go_wp2_with fail
      clear hmk'
      go_loopw [7, 26] (fun _ v wq => ∃ i : Nat, v = .int .i64 i ∧ i ≤ N ∧ Below w.heap.size w wq ∧ AllRow wq o L k N i) (fun _ v _ => N - (intOf v).toNat)
      case atStart => exact ⟨0, rfl, Nat.zero_le _, B0.out, A0.out⟩
      case round =>
        obtain ⟨i, rfl, hi, hbel, har⟩ := hrel
        have J := Lib.hid hbel
        have AR := Lib.hid har
        clear hbel har B0 A0
        by_cases hlt : i < N
        · have hlt' : (i : Int) < (N : Int) := by omega
          have CI := Lib.hid (CZ.out i wr (by omega) J.out)
          go_wp2_with fail
          go_at_call 48; refine CI.out.mono ?_; rintro e w2 ⟨rfl, hch, hb⟩
          have AR2 := Lib.hid (AR.out.below hb)
          have og : o < wr.heap.size := by obtain ⟨cs, h1, _⟩ := AR.out; exact lt_of_block h1
          have PUT := Lib.hid (AR2.out.put hlt og hch)
          have BE := Lib.hid ((bstep J.out hb).setCell (p := ⟨o, i, none⟩) OW.out (.slice (some ⟨wr.heap.size, 0, none⟩) k k))
          have hy : ∃ y, w2.cell? ⟨o, i, none⟩ = some y := by
            obtain ⟨cs, h1, h2, _⟩ := AR2.out
            exact ⟨cs[i]'(by omega), blk_cell h1 (Array.getElem?_eq_getElem _)⟩
          have hf : w2.frozen? ⟨o, i, none⟩ = false := by obtain ⟨cs, h1, _⟩ := AR2.out; exact blk_free _ h1
          obtain ⟨y, hy⟩ := hy
          clear hch hb og
          go_wp2_with fail
          go_roundw
          case rel => exact ⟨i + 1, by go_num, by omega, BE.out, PUT.out⟩
          case measure => simp [intOf]; omega
        · have e : i = N := by omega
          subst e
          go_wp2_with fail
          go_ret
          have E := NN.out
          exact ⟨o, by rw [← E]; rfl, OW.out, by rw [← E]; exact AR.out, J.out⟩

end Go.Proofs.Ytbffcehaednefaa.Variant
