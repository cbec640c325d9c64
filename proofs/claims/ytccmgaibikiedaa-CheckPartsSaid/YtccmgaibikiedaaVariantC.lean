/- Variants: one variant, over any name and values. -/
import Derived.Test.YtccmgaibikiedaaVariantB
import Derived.Test.YtccmgaibikiedaaShelf
import Derived.Test.YtccmgaibikiedaaAppend1
import Derived.Below
namespace Go.Proofs.Ytccmgaibikiedaa.Variant
set_option linter.unusedVariables false
set_option linter.unusedSimpArgs false
open Go.RowKit

/-- the cells from an address on hold these texts; they lie below block B. -/
def SRow (w : World) (B : Nat) (A : Option Addr) (l : List ByteArray) : Prop :=
  l = [] ∨ ∃ b o, A = some ⟨b, o, none⟩ ∧ b < B ∧ ∀ j, j < l.length → w.cell? ⟨b, o + j, none⟩ = some (.string (l.getD j ByteArray.empty))
theorem SRow.keep {w w' : World} {B B' : Nat} {A : Option Addr} {l : List ByteArray} (h : SRow w B A l) (hB : B ≤ B') (hk : ∀ p : Addr, p.block < B → w'.cell? p = w.cell? p) : SRow w' B' A l := by
  rcases h with h | ⟨b, o, e, hb, hc⟩
  · exact .inl h
  · exact .inr ⟨b, o, e, by omega, fun j hj => (hk _ hb).trans (hc j hj)⟩
theorem SRow.below {w w' : World} {B B' : Nat} {A : Option Addr} {l : List ByteArray} (h : SRow w B A l) (hB : B ≤ B') (hb : Below B w w') : SRow w' B' A l := h.keep hB fun _ hp => hb.cell hp

def okAt (l : List ByteArray) (i : Nat) : Bool := valueB (l.getD i ByteArray.empty).data.toList && !Lib.containsS (l.take i) (l.getD i ByteArray.empty)
def mayOneB (nm : ByteArray) (l : List ByteArray) : Bool := nameB nm.data.toList && decide (0 < l.length) && decide (l.length ≤ 4) && (List.range l.length).all (okAt l)
theorem range_snoc (p : Nat → Bool) (k : Nat) (h : (List.range k).all p = true) (hp : p k = true) : (List.range (k + 1)).all p = true := by
  rw [List.range_succ, List.all_append, h]; simp [hp]
theorem range_bad (p : Nat → Bool) (k n : Nat) (hk : k < n) (hp : p k = false) : (List.range n).all p = false := by
  rw [List.all_eq_false]; exact ⟨k, by simpa using hk, by simp [hp]⟩
abbrev vrv (nm : ByteArray) (A : Option Addr) (n c : Nat) : Value := .agg #[.string nm, .slice A n c]
abbrev boxV (w : World) (nm : ByteArray) (A : Option Addr) (n c : Nat) : World := w.alloc (.cells #[.string nm, .slice A n c] 86)
theorem boxV_cells (w : World) (nm : ByteArray) (A : Option Addr) (n c : Nat) : (boxV w nm A n c).cell? ⟨w.heap.size, 0, none⟩ = some (.string nm) ∧ (boxV w nm A n c).cell? ⟨w.heap.size, 1, none⟩ = some (.slice A n c) := by
  have h : (boxV w nm A n c).heap[w.heap.size]? = some (.cells #[.string nm, .slice A n c] 86 (0, 0)) := heap_alloc_new w _
  exact ⟨blk_cell (j := 0) h rfl, blk_cell (j := 1) h rfl⟩

set_option maxHeartbeats 1000000 in
theorem mayOne_any (nm : ByteArray) (A : Option Addr) (n c : Nat) (l : List ByteArray) (w : World) (h : SRow w w.heap.size A l) (hn : n = l.length) (hc : n ≤ c) (hm : c ≤ maxLen) :
    Calls Try.prog 78 #[vrv nm A n c] w fun e w' => e = .returned (.bool (mayOneB nm l)) ∧ Below w.heap.size w w' := by
  have h63 : (c : Int) ≤ 9223372036854775807 := by unfold maxLen at hm; omega
  have BX := Lib.hid (boxV_cells w nm A n c)
  obtain ⟨x0, x1⟩ := BX.out
  have BL := Lib.hid ((Below.refl w.heap.size w).alloc (Nat.le_refl _) (.cells #[.string nm, .slice A n c] 86))
  have N := Lib.hid (fun w => name_says nm w)
  have HN := Lib.hid hn
  clear hn
  cases hN : nameB nm.data.toList with
  | false =>
    rw [hN] at N
    have F : Hid (mayOneB nm l = false) := Lib.hid (by unfold mayOneB; rw [hN]; rfl)
    clear hN h
    go_enter Try.func78, Try.ntmps78
    go_wp2_with fail
    go_at_call 93; refine (N.out _).mono ?_; rintro e w' ⟨rfl, rfl⟩
    go_wp2_with fail
    go_ret
    exact ⟨ret_bool F.out.symm, BL.out⟩
  | true =>
    rw [hN] at N
    by_cases h0 : n = 0
    · subst h0
      have F : Hid (mayOneB nm l = false) := Lib.hid (by unfold mayOneB; rw [← HN.out]; simp)
      clear hN h
      go_enter Try.func78, Try.ntmps78
      go_wp2_with fail
      go_at_call 93; refine (N.out _).mono ?_; rintro e w' ⟨rfl, rfl⟩
      go_wp2_with fail
      go_ret
      exact ⟨ret_bool F.out.symm, BL.out⟩
    · have z0 : ((n : Int) == 0) = false := by
        cases hb : ((n : Int) == 0) with
        | false => rfl
        | true => have := eq_of_beq hb; omega
      by_cases h4 : n ≤ 4
      · have z4 : (n : Int) ≤ 4 := by omega
        rcases h with h | ⟨b, o, rfl, hb, hcell⟩
        · exfalso; rw [HN.out, h] at h0; exact h0 rfl
        · have GOOD : Hid ((List.range n).all (okAt l) = mayOneB nm l) := Lib.hid (by
            unfold mayOneB; rw [hN, ← HN.out]
            have e1 : decide (0 < n) = true := by simp; omega
            have e2 : decide (n ≤ 4) = true := by simp; omega
            rw [e1, e2]; rfl)
          have CELL : Hid (∀ j, j < n → (boxV w nm (some ⟨b, o, none⟩) n c).cell? ⟨b, o + j, none⟩ = some (.string (l.getD j ByteArray.empty))) := Lib.hid (fun j hj => ((BL.out.cell (p := ⟨b, o + j, none⟩) hb)).trans (hcell j (by have := HN.out; omega)))
          have CT : Hid (∀ k c' x, k ≤ n → Calls Try.prog 40 #[.slice (some ⟨b, o, none⟩) k c', .string x] (boxV w nm (some ⟨b, o, none⟩) n c) fun e w' => e = .returned (.bool (Lib.containsS (l.take k) x)) ∧ boxV w nm (some ⟨b, o, none⟩) n c = w') := Lib.hid (fun k c' x hk => by
            have t := Try.slices_Contains_string b o k c' (l.take n) x (boxV w nm (some ⟨b, o, none⟩) n c) (by rw [List.length_take, ← HN.out]; omega) (by have := h63; omega) (fun j hj => by
              have hj' : j < n := by rw [List.length_take] at hj; omega
              rw [CELL.out j hj', List.getD_eq_getElem?_getD, List.getD_eq_getElem?_getD, List.getElem?_take_of_lt hj'])
            rw [List.take_take, Nat.min_eq_left hk] at t
            exact t.mono fun e w' ⟨he, hw⟩ => ⟨he, hw.symm⟩)
          have VA := Lib.hid (fun s w => value_any s w)
          have HC := Lib.hid hc
          clear hN h0 hcell hc
          go_enter Try.func78, Try.ntmps78
          go_wp2_with fail
          go_at_call 93; refine (N.out _).mono ?_; rintro e w' ⟨rfl, rfl⟩
          go_wp2_with fail
          go_loopw [3, 4, 24] (fun _ _ v wr => ∃ k : Nat, v = .int .i64 k ∧ k ≤ n ∧ wr = boxV w nm (some ⟨b, o, none⟩) n c ∧ (List.range k).all (okAt l) = true) (fun _ _ v _ => n - (intOf v).toNat)
          case atStart => exact ⟨0, rfl, Nat.zero_le _, rfl, rfl⟩
          case round =>
            obtain ⟨k, rfl, hk, rfl, hall⟩ := hrel
            have HALL := Lib.hid hall
            clear hall
            by_cases hlt : k < n
            · have hlt' : (k : Int) < (n : Int) := by omega
              have hck := CELL.out k hlt
              have hkc : (k : Int) ≤ (c : Int) := by have := HC.out; omega
              obtain ⟨x, hx⟩ : ∃ x, x = l.getD k ByteArray.empty := ⟨_, rfl⟩
              rw [← hx] at hck
              have V := Lib.hid (VA.out x)
              have C := Lib.hid (fun c' => CT.out k c' x hk)
              have OK : Hid (okAt l k = (valueB x.data.toList && !Lib.containsS (l.take k) x)) := Lib.hid (by rw [hx]; rfl)
              clear hx
              cases hp : okAt l k with
              | true =>
                have NEXT := Lib.hid (range_snoc (okAt l) k HALL.out hp)
                have hp2 : valueB x.data.toList = true ∧ Lib.containsS (l.take k) x = false := by rw [OK.out] at hp; simpa using hp
                rw [hp2.1] at V
                rw [hp2.2] at C
                clear hp hp2
                go_wp2_with (first
                  | (go_at_call 94; refine (V.out _).mono ?_; rintro e w' ⟨rfl, rfl⟩)
                  | (go_at_call 40; refine (C.out _).mono ?_; rintro e w' ⟨rfl, rfl⟩))
                go_roundw
                case rel => exact ⟨k + 1, by go_num, by omega, trivial, NEXT.out⟩
                case measure => simp [intOf]; omega
              | false =>
                have BAD := Lib.hid (GOOD.out.symm.trans (range_bad (okAt l) k n hlt hp))
                cases hv : valueB x.data.toList with
                | false =>
                  rw [hv] at V
                  clear hp hv
                  go_wp2_with (first
                    | (go_at_call 94; refine (V.out _).mono ?_; rintro e w' ⟨rfl, rfl⟩))
                  go_ret
                  exact ⟨ret_bool BAD.out.symm, BL.out⟩
                | true =>
                  have hp2 : Lib.containsS (l.take k) x = true := by rw [OK.out, hv] at hp; simpa using hp
                  rw [hv] at V
                  rw [hp2] at C
                  clear hp hv hp2
                  go_wp2_with (first
                    | (go_at_call 94; refine (V.out _).mono ?_; rintro e w' ⟨rfl, rfl⟩)
                    | (go_at_call 40; refine (C.out _).mono ?_; rintro e w' ⟨rfl, rfl⟩))
                  go_ret
                  exact ⟨ret_bool BAD.out.symm, BL.out⟩
            · have e : k = n := by omega
              subst e
              go_wp2_with fail
              go_ret
              exact ⟨ret_bool (by rw [← GOOD.out, HALL.out]), BL.out⟩
      · have z4 : 4 < (n : Int) := by omega
        have F : Hid (mayOneB nm l = false) := Lib.hid (by unfold mayOneB; rw [← HN.out, decide_eq_false h4]; simp)
        clear hN h
        go_enter Try.func78, Try.ntmps78
        go_wp2_with fail
        go_at_call 93; refine (N.out _).mono ?_; rintro e w' ⟨rfl, rfl⟩
        go_wp2_with fail
        go_ret
        exact ⟨ret_bool F.out.symm, BL.out⟩

end Go.Proofs.Ytccmgaibikiedaa.Variant
