/- Variants: a row of variants; which names are among those ahead. -/
import Derived.Test.YtccmgaibikiedaaVariantC
import Derived.Deep.RegionHeld3
namespace Go.Proofs.Ytccmgaibikiedaa.Variant
set_option linter.unusedVariables false
set_option linter.unusedSimpArgs false
open Go.RowKit

abbrev Vr := ByteArray × List ByteArray
def vr0 : Vr := (ByteArray.empty, [])
/-- the cells from an address on hold these variants; all that is of them lies below block B. -/
def VRow (w : World) (B : Nat) (A : Option Addr) (L : List Vr) : Prop :=
  L = [] ∨ ∃ b bo, A = some ⟨b, bo, none⟩ ∧ b < B ∧ ∀ j, j < L.length → ∃ A' n c, n = (L.getD j vr0).2.length ∧ n ≤ c ∧ c ≤ maxLen ∧ SRow w B A' (L.getD j vr0).2 ∧
    w.cell? ⟨b, bo + j * 2, none⟩ = some (.string (L.getD j vr0).1) ∧ w.cell? ⟨b, bo + j * 2 + 1, none⟩ = some (.slice A' n c)
theorem VRow.below {w w' : World} {B B' : Nat} {A : Option Addr} {L : List Vr} (h : VRow w B A L) (hB : B ≤ B') (hb : Below B w w') : VRow w' B' A L := by
  rcases h with h | ⟨b, bo, e, hlt, hc⟩
  · exact .inl h
  · refine .inr ⟨b, bo, e, by omega, fun j hj => ?_⟩
    obtain ⟨A', n, c, h1, h2, h3, h4, h5, h6⟩ := hc j hj
    exact ⟨A', n, c, h1, h2, h3, h4.below hB hb, (hb.cell (p := ⟨b, bo + j * 2, none⟩) hlt).trans h5, (hb.cell (p := ⟨b, bo + j * 2 + 1, none⟩) hlt).trans h6⟩

abbrev bstep {w w1 w2 : World} (h : Below w.heap.size w w1) (h2 : Below w1.heap.size w1 w2) : Below w.heap.size w w2 := h.trans (h2.mono h.size)
def eqB (a b : ByteArray) : Bool := a.toList == b.toList
def named (L : List Vr) (nm : ByteArray) : Bool := L.any fun v => eqB v.1 nm
theorem named_next (L : List Vr) (k : Nat) (nm : ByteArray) (hk : k < L.length) (h : named (L.take k) nm = false) (he : eqB (L.getD k vr0).1 nm = false) : named (L.take (k + 1)) nm = false := by
  unfold named at *
  rw [List.take_succ_eq_append_getElem hk, List.any_append, h]
  have : L[k] = L.getD k vr0 := by rw [List.getD_eq_getElem?_getD, List.getElem?_eq_getElem hk]; rfl
  rw [this]
  simp only [List.any_cons, List.any_nil, he]
  rfl
theorem named_hit (L : List Vr) (k n : Nat) (nm : ByteArray) (hk : k < L.length) (hn : k < n) (he : eqB (L.getD k vr0).1 nm = true) : named (L.take n) nm = true := by
  unfold named
  rw [List.any_eq_true]
  have e : L[k] = L.getD k vr0 := by rw [List.getD_eq_getElem?_getD, List.getElem?_eq_getElem hk]; rfl
  refine ⟨L[k], ?_, by rw [e]; exact he⟩
  have : k < (L.take n).length := by rw [List.length_take]; omega
  have h2 : (L.take n)[k] = L[k] := by simp
  rw [← h2]; exact List.getElem_mem _

abbrev fnv (p : Addr) : Value := .func (.func 96) #[] #[.pointer (some p)]

set_option maxHeartbeats 400000 in
theorem variantNamed_any (nm : ByteArray) (w : World) : Calls Try.prog 80 #[.string nm] w fun e w' => e = .returned (fnv ⟨w.heap.size, 0, none⟩) ∧ w.alloc (.cells #[.string nm] 9) = w' := by
  have hmf : ∀ (fn : Fn) (first cap : Array Value) (w : World), (Instr.makeFunc fn first cap).run Try.prog w = .ok (.func fn first cap) w := fun _ _ _ _ => rfl
  go_enter Try.func80, Try.ntmps80
  go_wp2_with fail
  go_ret
  exact ⟨rfl, rfl⟩

theorem variantNamed_pt (nm : ByteArray) (w : World) : Calls Try.prog 80 #[.string nm] w fun e w' => ∃ p, e = .returned (fnv p) ∧ p.block < w'.heap.size ∧ w'.cell? p = some (.string nm) ∧ Below w.heap.size w w' :=
  (variantNamed_any nm w).mono fun e w' ⟨he, hw⟩ => ⟨_, he, by rw [← hw]; simp, by rw [← hw]; exact blk_cell (j := 0) (heap_alloc_new w _) rfl, by rw [← hw]; exact (Below.refl _ _).alloc (Nat.le_refl _) _⟩
set_option maxHeartbeats 400000 in
theorem closure_any (m nm : ByteArray) (A : Option Addr) (n c : Nat) (p : Addr) (w : World) (hp : p.block < w.heap.size) (hc : w.cell? p = some (.string nm)) :
    Calls Try.prog 96 #[vrv m A n c, .pointer (some p)] w fun e w' => e = .returned (.bool (eqB m nm)) ∧ Below w.heap.size w w' := by
  have BL := Lib.hid ((Below.refl w.heap.size w).alloc (Nat.le_refl _) (.cells #[.string m, .slice A n c] 86))
  have hc' : (boxV w m A n c).cell? p = some (.string nm) := (BL.out.cell hp).trans hc
  obtain ⟨x0, x1⟩ := boxV_cells w m A n c
  go_enter Try.func96, Try.ntmps96
  go_wp2_with fail
  go_ret
  exact ⟨rfl, BL.out⟩

set_option maxHeartbeats 1000000 in
theorem indexFunc_any (A : Option Addr) (L : List Vr) (k c : Nat) (nm : ByteArray) (p : Addr) (w : World) (hp : p.block < w.heap.size) (hc : w.cell? p = some (.string nm)) (h : VRow w w.heap.size A L) (hk : k ≤ L.length) (hm : k ≤ maxLen) :
    Calls Try.prog 95 #[.slice A k c, fnv p] w fun e w' => ∃ z : Int, e = .returned (.int .i64 z) ∧ decide (0 ≤ z) = named (L.take k) nm ∧ Below w.heap.size w w' := by
  have h63 : (k : Int) ≤ 9223372036854775807 := by unfold maxLen at hm; omega
  clear hm
  have HK := Lib.hid hk
  go_enter Try.func95, Try.ntmps95
  go_wp2_with fail
  go_loopw [5, 8] (fun _ v wr => ∃ i : Nat, v = .int .i64 i ∧ i ≤ k ∧ Below w.heap.size w wr ∧ named (L.take i) nm = false) (fun _ v _ => k - (intOf v).toNat)
  case atStart => exact ⟨0, rfl, Nat.zero_le _, Below.refl _ _, rfl⟩
  case round =>
    obtain ⟨i, rfl, hi, hbel, hno⟩ := hrel
    have BL := Lib.hid hbel
    have NO := Lib.hid hno
    clear hbel hno
    by_cases hlt : i < k
    · have hlt' : (i : Int) < (k : Int) := by omega
      have h' := h.below BL.out.size BL.out
      rcases h' with h' | ⟨b, bo, rfl, hb, hcell⟩
      · exfalso; have := HK.out; rw [h'] at this; simp at this; omega
      · obtain ⟨A', n, c', e1, e2, e3, e4, e5, e6⟩ := hcell i (by have := HK.out; omega)
        have CL := Lib.hid (closure_any (L.getD i vr0).1 nm A' n c' p wr (by have := BL.out.size; omega) ((BL.out.cell hp).trans hc))
        obtain ⟨x, hx⟩ : ∃ x, x = (L.getD i vr0).1 := ⟨_, rfl⟩
        have NEXT := Lib.hid (named_next L i nm (by have := HK.out; omega) NO.out)
        have HIT := Lib.hid (named_hit L i k nm (by have := HK.out; omega) hlt)
        rw [← hx] at e5 CL NEXT HIT
        clear hx hcell e1 e2 e3 e4 hp hc h
        cases hq : eqB x nm with
        | true =>
          rw [hq] at CL
          have HIT := Lib.hid (HIT.out hq)
          clear hq
          go_wp2_with (go_at_call 96; refine CL.out.mono ?_; rintro e w' ⟨rfl, hbb⟩; have BL := Lib.hid (bstep BL.out hbb); clear hbb)
          go_ret
          exact ⟨_, rfl, by rw [HIT.out]; simp, BL.out⟩
        | false =>
          rw [hq] at CL
          have NEXT := Lib.hid (NEXT.out hq)
          clear hq
          go_wp2_with (go_at_call 96; refine CL.out.mono ?_; rintro e w' ⟨rfl, hbb⟩; have BL := Lib.hid (bstep BL.out hbb); clear hbb)
          go_roundw
          case rel => exact ⟨i + 1, by go_num, by omega, BL.out, NEXT.out⟩
          case measure => simp [intOf]; omega
    · have e : i = k := by omega
      subst e
      go_wp2_with fail
      go_ret
      exact ⟨-1, rfl, by rw [NO.out]; rfl, BL.out⟩

set_option maxHeartbeats 400000 in
theorem containsFunc_any (A : Option Addr) (L : List Vr) (k c : Nat) (nm : ByteArray) (p : Addr) (w : World) (hp : p.block < w.heap.size) (hc : w.cell? p = some (.string nm)) (h : VRow w w.heap.size A L) (hk : k ≤ L.length) (hm : k ≤ maxLen) :
    Calls Try.prog 79 #[.slice A k c, fnv p] w fun e w' => e = .returned (.bool (named (L.take k) nm)) ∧ Below w.heap.size w w' := by
  have I := Lib.hid (indexFunc_any A L k c nm p w hp hc h hk hm)
  clear hp hc h hk hm
  go_enter Try.func79, Try.ntmps79
  go_wp2_with fail
  go_at_call 95; refine I.out.mono ?_; rintro e w' ⟨z, rfl, hz, hb⟩
  go_wp2_with fail
  go_ret
  first | exact ⟨rfl, hb⟩ | exact ⟨ret_bool hz, hb⟩

/-! ### May -/
def okV (L : List Vr) (i : Nat) : Bool := mayOneB (L.getD i vr0).1 (L.getD i vr0).2 && !named (L.take i) (L.getD i vr0).1
def mayL (L : List Vr) : Bool := decide (L.length ≤ 4) && (List.range L.length).all (okV L)

/-- one variant boxed. -/
structure VB (wr : World) (x : ByteArray) (A : Option Addr) (n c : Nat) (W : World) : Prop where
  box : W.heap[wr.heap.size]? = some (.cells #[.string x, .slice A n c] 86 (0, 0))
  below : Below wr.heap.size wr W
theorem VB.start (wr : World) (x : ByteArray) (A : Option Addr) (n c : Nat) : VB wr x A n c (wr.alloc (.cells #[.string x, .slice A n c] 86)).drew :=
  ⟨heap_alloc_new wr _, Below.drew (Below.alloc (Below.refl wr.heap.size wr) (Nat.le_refl _) _)⟩
theorem VB.step {wr W W' : World} {x : ByteArray} {A : Option Addr} {n c : Nat} (h : VB wr x A n c W) (hb : Below W.heap.size W W') : VB wr x A n c W' :=
  ⟨(hb.block _ (lt_of_block h.box)).trans h.box, bstep h.below hb⟩
theorem VB.cells {wr W : World} {x : ByteArray} {A : Option Addr} {n c : Nat} (h : VB wr x A n c W) : W.cell? ⟨wr.heap.size, 0, none⟩ = some (.string x) ∧ W.cell? ⟨wr.heap.size, 1, none⟩ = some (.slice A n c) :=
  ⟨blk_cell (j := 0) h.box rfl, blk_cell (j := 1) h.box rfl⟩

set_option maxHeartbeats 2000000 in
theorem may_any (A : Option Addr) (L : List Vr) (n c : Nat) (w : World) (h : VRow w w.heap.size A L) (hn : n = L.length) (hc : n ≤ c) (hm : c ≤ maxLen) :
    Calls Try.prog 59 #[.slice A n c] w fun e w' => e = .returned (.bool (mayL L)) ∧ Below w.heap.size w w' := by
  have h63 : (c : Int) ≤ 9223372036854775807 := by unfold maxLen at hm; omega
  have HN := Lib.hid hn
  have HC := Lib.hid hc
  have HM := Lib.hid hm
  have H := Lib.hid h
  clear hn hc hm h
  by_cases h4 : n ≤ 4
  · have z4 : (n : Int) ≤ 4 := by omega
    have GOOD : Hid ((List.range n).all (okV L) = mayL L) := Lib.hid (by
      unfold mayL; rw [← HN.out, decide_eq_true h4]; rfl)
    go_enter Try.func59, Try.ntmps59
    go_wp2_with fail
    go_loopw [3, 4, 10] (fun _ _ v wr => ∃ k : Nat, v = .int .i64 k ∧ k ≤ n ∧ Below w.heap.size w wr ∧ (List.range k).all (okV L) = true) (fun _ _ v _ => n - (intOf v).toNat)
    case atStart => exact ⟨0, rfl, Nat.zero_le _, Below.refl _ _, rfl⟩
    case round =>
      obtain ⟨k, rfl, hk, hbel, hall⟩ := hrel
      have J := Lib.hid hbel
      have HALL := Lib.hid hall
      clear hbel hall
      by_cases hlt : k < n
      · have hlt' : (k : Int) < (n : Int) := by omega
        have hkc : (k : Int) ≤ (c : Int) := by have := HC.out; omega
        have h' := H.out.below J.out.size J.out
        rcases h' with h' | ⟨b, bo, rfl, hb, hcell⟩
        · exfalso; have := HN.out; rw [h'] at this; simp at this; omega
        · obtain ⟨A', n', c', e1, e2, e3, e4, e5, e6⟩ := hcell k (by have := HN.out; omega)
          obtain ⟨x, hx⟩ : ∃ x, x = (L.getD k vr0).1 := ⟨_, rfl⟩
          obtain ⟨l, hl⟩ : ∃ l, l = (L.getD k vr0).2 := ⟨_, rfl⟩
          have OK : Hid (okV L k = (mayOneB x l && !named (L.take k) x)) := Lib.hid (by rw [hx, hl]; rfl)
          have MO : Hid (∀ W, Below wr.heap.size wr W → Calls Try.prog 78 #[vrv x A' n' c'] W fun e w' => e = .returned (.bool (mayOneB x l)) ∧ Below W.heap.size W w') := Lib.hid (fun W hW => mayOne_any x A' n' c' l W (by rw [hl]; exact e4.below hW.size hW) (by rw [hl]; exact e1) e2 e3)
          have CF : Hid (∀ W p c2, Below wr.heap.size wr W → p.block < W.heap.size → W.cell? p = some (.string x) → Calls Try.prog 79 #[.slice (some ⟨b, bo, none⟩) k c2, fnv p] W fun e w' => e = .returned (.bool (named (L.take k) x)) ∧ Below W.heap.size W w') := Lib.hid (fun W p c2 hW hp hcc => containsFunc_any _ L k c2 x p W hp hcc ((H.out.below J.out.size J.out).below hW.size hW) (by have := HN.out; omega) (by have := HM.out; have := HC.out; omega))
          rw [← hx] at e5
          clear hx hl hcell e1 e2 e3 e4
          cases hmo : mayOneB x l with
          | false =>
            rw [hmo] at MO
            have BAD := Lib.hid (GOOD.out.symm.trans (range_bad (okV L) k n hlt (by rw [OK.out, hmo]; rfl)))
            clear hmo
            have R := Lib.hid (VB.start wr x A' n' c')
            go_wp2_with fail
            obtain ⟨c0, c1⟩ := R.out.cells
            first | (go_region_with (go_at_call 78; (with_reducible refine (MO.out _ R.out.below).mono ?_); rintro e w1 ⟨rfl, hb⟩; have R := Lib.hid (R.out.step hb); clear hb; clear c0 c1; obtain ⟨c0, c1⟩ := R.out.cells)) | fail
            all_goals go_wp2_with fail
            all_goals (go_ret; exact ⟨ret_bool BAD.out.symm, bstep J.out R.out.below⟩)
          | true =>
            rw [hmo] at MO
            have R := Lib.hid (VB.start wr x A' n' c')
            have VN := Lib.hid (fun w => variantNamed_pt x w)
            cases hna : named (L.take k) x with
            | true =>
              rw [hna] at CF
              have BAD := Lib.hid (GOOD.out.symm.trans (range_bad (okV L) k n hlt (by rw [OK.out, hmo, hna]; rfl)))
              clear hmo hna
              go_wp2_with fail
              obtain ⟨c0, c1⟩ := R.out.cells
              go_region_held3 (fun W' => W'.cell? ⟨wr.heap.size, 0, none⟩ = some (.string x) ∧ W'.cell? ⟨wr.heap.size, 1, none⟩ = some (.slice A' n' c'))
                (first | exact ⟨c0, c1⟩ | go_keep)
                (first
                  | (go_at_call 78; (with_reducible refine (MO.out _ R.out.below).mono ?_); rintro e w1 ⟨rfl, hb⟩; have R := Lib.hid (R.out.step hb); clear hb; clear c0 c1; obtain ⟨c0, c1⟩ := R.out.cells)
                  | (go_at_call 80; (with_reducible refine (VN.out _).mono ?_); rintro e w1 ⟨p, rfl, hp, hv, hb⟩; have R := Lib.hid (R.out.step hb); clear hb; clear c0 c1; obtain ⟨c0, c1⟩ := R.out.cells)
                  | (go_at_call 79; (with_reducible refine (CF.out _ p _ R.out.below hp hv).mono ?_); rintro e w1 ⟨rfl, hb⟩; have R := Lib.hid (R.out.step hb); clear hb; clear c0 c1; obtain ⟨c0, c1⟩ := R.out.cells))
              go_wp2_with fail
              go_ret
              exact ⟨ret_bool BAD.out.symm, bstep J.out R.out.below⟩
            | false =>
              rw [hna] at CF
              have NEXT := Lib.hid (range_snoc (okV L) k HALL.out (by rw [OK.out, hmo, hna]; rfl))
              clear hmo hna
              go_wp2_with fail
              obtain ⟨c0, c1⟩ := R.out.cells
              go_region_held3 (fun W' => W'.cell? ⟨wr.heap.size, 0, none⟩ = some (.string x) ∧ W'.cell? ⟨wr.heap.size, 1, none⟩ = some (.slice A' n' c'))
                (first | exact ⟨c0, c1⟩ | go_keep)
                (first
                  | (go_at_call 78; (with_reducible refine (MO.out _ R.out.below).mono ?_); rintro e w1 ⟨rfl, hb⟩; have R := Lib.hid (R.out.step hb); clear hb; clear c0 c1; obtain ⟨c0, c1⟩ := R.out.cells)
                  | (go_at_call 80; (with_reducible refine (VN.out _).mono ?_); rintro e w1 ⟨p, rfl, hp, hv, hb⟩; have R := Lib.hid (R.out.step hb); clear hb; clear c0 c1; obtain ⟨c0, c1⟩ := R.out.cells)
                  | (go_at_call 79; (with_reducible refine (CF.out _ p _ R.out.below hp hv).mono ?_); rintro e w1 ⟨rfl, hb⟩; have R := Lib.hid (R.out.step hb); clear hb; clear c0 c1; obtain ⟨c0, c1⟩ := R.out.cells))
              go_wp2_with fail
              go_roundw
              case rel => exact ⟨k + 1, by go_num, by omega, bstep J.out R.out.below, NEXT.out⟩
              case measure => simp [intOf]; omega
      · have e : k = n := by omega
        subst e
        go_wp2_with fail
        go_ret
        exact ⟨ret_bool (by rw [← GOOD.out, HALL.out]), J.out⟩
  · have z4 : 4 < (n : Int) := by omega
    have F : Hid (mayL L = false) := Lib.hid (by unfold mayL; rw [← HN.out, decide_eq_false h4]; rfl)
    go_enter Try.func59, Try.ntmps59
    go_wp2_with fail
    go_ret
    exact ⟨ret_bool F.out.symm, Below.refl _ _⟩

end Go.Proofs.Ytccmgaibikiedaa.Variant
