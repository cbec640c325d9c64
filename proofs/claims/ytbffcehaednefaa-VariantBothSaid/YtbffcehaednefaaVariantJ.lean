/- Variants: a row of settings; the document's Legal over any of them. -/
import Derived.Test.YtbffcehaednefaaVariantI
import Derived.Deep.QuietTactic
import Derived.BigQuiet
namespace Go.Proofs.Ytbffcehaednefaa.Variant
set_option linter.unusedVariables false
set_option linter.unusedSimpArgs false
open Go.RowKit

abbrev Tr := ByteArray × ByteArray
def tr0 : Tr := (ByteArray.empty, ByteArray.empty)
/-- the cells from an address on hold these settings; they lie below block B. -/
def TRow (w : World) (B : Nat) (A : Option Addr) (T : List Tr) : Prop :=
  T = [] ∨ ∃ b bo, A = some ⟨b, bo, none⟩ ∧ b < B ∧ ∀ j, j < T.length → w.cell? ⟨b, bo + j * 2, none⟩ = some (.string (T.getD j tr0).1) ∧ w.cell? ⟨b, bo + j * 2 + 1, none⟩ = some (.string (T.getD j tr0).2)
theorem TRow.below {w w' : World} {B B' : Nat} {A : Option Addr} {T : List Tr} (h : TRow w B A T) (hB : B ≤ B') (hb : Below B w w') : TRow w' B' A T := by
  rcases h with h | ⟨b, bo, e, hlt, hc⟩
  · exact .inl h
  · refine .inr ⟨b, bo, e, by omega, fun j hj => ?_⟩
    obtain ⟨h1, h2⟩ := hc j hj
    exact ⟨(hb.cell (p := ⟨b, bo + j * 2, none⟩) hlt).trans h1, (hb.cell (p := ⟨b, bo + j * 2 + 1, none⟩) hlt).trans h2⟩

/-- the settings of number q. -/
def chosenT (L : List Vr) (q : Nat) : List Tr := (List.range L.length).map fun j => ((L.getD j vr0).1, pick L q j)
theorem chosenT_len (L : List Vr) (q : Nat) : (chosenT L q).length = L.length := by simp [chosenT]
theorem chosenT_at (L : List Vr) (q j : Nat) (h : j < L.length) : (chosenT L q).getD j tr0 = ((L.getD j vr0).1, pick L q j) := by
  unfold chosenT
  rw [List.getD_eq_getElem?_getD, List.getElem?_map, List.getElem?_range h]; rfl
theorem Chosen.row {W : World} {g : Nat} {L : List Vr} {q m : Nat} (h : Chosen W g L q m m) (hm : m = L.length) {B : Nat} (hB : g < B) : TRow W B (some ⟨g, 0, none⟩) (chosenT L q) := by
  refine .inr ⟨g, 0, rfl, hB, fun j hj => ?_⟩
  rw [chosenT_len] at hj
  obtain ⟨cs, h1, h2, h3⟩ := h
  obtain ⟨a, b⟩ := h3 j (by omega)
  rw [chosenT_at L q j hj, Nat.zero_add]
  exact ⟨blk_cell h1 a, blk_cell h1 b⟩

def among (l : List ByteArray) (x : ByteArray) : Bool := l.any fun z => eqB z x
def legalAt (L : List Vr) (T : List Tr) (i : Nat) : Bool := eqB (L.getD i vr0).1 (T.getD i tr0).1 && among (L.getD i vr0).2 (T.getD i tr0).2
def legalB (L : List Vr) (T : List Tr) : Bool := decide (L.length = T.length) && (List.range L.length).all (legalAt L T)
theorem among_next (l : List ByteArray) (k : Nat) (x : ByteArray) (hk : k < l.length) : among (l.take (k + 1)) x = (among (l.take k) x || eqB (l.getD k ByteArray.empty) x) := by
  unfold among
  rw [List.take_succ_eq_append_getElem hk, List.any_append]
  have e : l[k] = l.getD k ByteArray.empty := by rw [List.getD_eq_getElem?_getD, List.getElem?_eq_getElem hk]; rfl
  rw [e]; simp

set_option maxHeartbeats 4000000 in
set_option maxRecDepth 100000 in
theorem rlegal_any (A : Option Addr) (L : List Vr) (n c : Nat) (A2 : Option Addr) (T : List Tr) (n2 c2 : Nat) (w : World) (h : VRow w w.heap.size A L) (hn : n = L.length) (hm : n ≤ maxLen) (hl : ∀ j, (L.getD j vr0).2.length ≤ maxLen) (h2 : TRow w w.heap.size A2 T) (hn2 : n2 = T.length) (hm2 : n2 ≤ maxLen) :
    Calls Try.prog 19 #[.slice A n c, .slice A2 n2 c2] w fun e w' => e = .returned (.bool (legalB L T)) ∧ Below w.heap.size w w' := by
  have h63 : (n : Int) ≤ 9223372036854775807 := by unfold maxLen at hm; omega
  have HN := Lib.hid hn
  have H := Lib.hid h
  have HL := Lib.hid hl
  have HN2 := Lib.hid hn2
  have H2 := Lib.hid h2
  clear hn h hl hn2 h2 hm
  by_cases heq : n = n2
  · subst heq
    clear hm2
    have z1 : ((n : Int) != (n : Int)) = false := by simp
    have GOOD : Hid ((List.range n).all (legalAt L T) = legalB L T) := Lib.hid (by
      unfold legalB; rw [← HN.out, ← HN2.out]; simp)
    go_enter Try.func19, Try.ntmps19
    go_wp2_with fail
    go_loopw [5, 6, 7, 15] (fun _ _ _ v wr => ∃ k : Nat, v = .int .i64 k ∧ k ≤ n ∧ Below w.heap.size w wr ∧ (List.range k).all (legalAt L T) = true) (fun _ _ _ v _ => n - (intOf v).toNat)
    case atStart => exact ⟨0, rfl, Nat.zero_le _, Below.refl _ _, rfl⟩
    case round =>
      obtain ⟨k, rfl, hk, hbel, hall⟩ := hrel
      have J := Lib.hid hbel
      have HALL := Lib.hid hall
      clear hbel hall
      by_cases hlt : k < n
      · have hlt' : (k : Int) < (n : Int) := by omega
        have KL : Hid (k < L.length) := Lib.hid (by have := HN.out; omega)
        have KT : Hid (k < T.length) := Lib.hid (by have := HN2.out; omega)
        rcases H.out with h' | ⟨b, bo, rfl, hb, hcell⟩
        · exfalso; have := KL.out; rw [h'] at this; simp at this
        rcases H2.out with h' | ⟨d, o, rfl, hd, hcell2⟩
        · exfalso; have := KT.out; rw [h'] at this; simp at this
        obtain ⟨A', n', c', e1, e2, e3, e4, e5, e6⟩ := hcell k KL.out
        obtain ⟨t1, t2⟩ := hcell2 k KT.out
        obtain ⟨x, hx⟩ : ∃ x, x = (L.getD k vr0).1 := ⟨_, rfl⟩
        obtain ⟨l, hl⟩ : ∃ l, l = (L.getD k vr0).2 := ⟨_, rfl⟩
        obtain ⟨tn, htn⟩ : ∃ x, x = (T.getD k tr0).1 := ⟨_, rfl⟩
        obtain ⟨tv, htv⟩ : ∃ x, x = (T.getD k tr0).2 := ⟨_, rfl⟩
        have OK : Hid (legalAt L T k = (eqB x tn && among l tv)) := Lib.hid (by rw [hx, hl, htn, htv]; rfl)
        have BADK := Lib.hid (fun h => GOOD.out.symm.trans (range_bad (legalAt L T) k n hlt h))
        have NEXTK := Lib.hid (range_snoc (legalAt L T) k HALL.out)
        have ROW := Lib.hid (show SRow w w.heap.size A' l from by rw [hl]; exact e4)
        have NL : Hid (n' = l.length) := Lib.hid (by rw [hl]; exact e1)
        have hn63 : (n' : Int) ≤ 9223372036854775807 := by have := HL.out k; rw [← e1] at this; unfold maxLen at this; omega
        rw [← hx] at e5
        rw [← htn] at t1
        rw [← htv] at t2
        have E5 := Lib.hid e5
        have E6 := Lib.hid e6
        have T1 := Lib.hid t1
        have T2 := Lib.hid t2
        replace e6 := (J.out.cell (p := ⟨b, bo + k * 2 + 1, none⟩) hb).trans e6
        clear hx hl e1 e2 e3 e4 hcell hcell2 htn htv e5 t1 t2
        go_wp2_with fail
        clear e6
        go_loopw [6, 7, 24] (fun u _ v wq => ∃ j : Nat, ∃ f : Bool, v = .int .i64 j ∧ u = .bool f ∧ j ≤ n' ∧ Below w.heap.size w wq ∧ among (l.take j) tv = f) (fun _ _ v _ => n' - (intOf v).toNat)
        case atStart => exact ⟨0, false, rfl, rfl, Nat.zero_le _, J.out, rfl⟩
        case round =>
          obtain ⟨j, f, rfl, rfl, hj, hbel2, hf⟩ := hrel
          have J2 := Lib.hid hbel2
          have HF := Lib.hid hf
          clear hbel2 hf
          by_cases hjn : j < n'
          · have hjn' : (j : Int) < (n' : Int) := by omega
            have JL : Hid (j < l.length) := Lib.hid (by have := NL.out; omega)
            have NX := Lib.hid (among_next l j tv JL.out)
            rw [HF.out] at NX
            rcases ROW.out with h' | ⟨b', bo', rfl, hb', hc'⟩
            · exfalso; have := JL.out; rw [h'] at this; simp at this
            have f6 := (J2.out.cell (p := ⟨b, bo + k * 2 + 1, none⟩) hb).trans E6.out
            have ft := (J2.out.cell (p := ⟨d, o + k * 2 + 1, none⟩) hd).trans T2.out
            have fz := (J2.out.cell (p := ⟨b', bo' + j, none⟩) hb').trans (hc' j JL.out)
            obtain ⟨z, hz⟩ : ∃ z, z = l.getD j ByteArray.empty := ⟨_, rfl⟩
            rw [← hz] at fz NX
            clear hz hc'
            cases f with
            | true =>
              have F := Lib.hid (show among (l.take (j + 1)) tv = true from by rw [NX.out]; rfl)
              have D := Lib.hid (fun m => drewN_below J2.out m)
              go_wp2_with fail
              go_quiet (fail)
              go_wp2_with fail
              go_roundw
              case rel => exact ⟨j + 1, true, by go_num, rfl, by omega, D.out _, F.out⟩
              case measure => simp [intOf]; omega
            | false =>
              cases hq : (z.toList == tv.toList) with
              | true =>
                have F := Lib.hid (show among (l.take (j + 1)) tv = true from by rw [NX.out]; exact hq)
                have D := Lib.hid (fun m => drewN_below J2.out m)
                go_wp2_with fail
                go_quiet (fail)
                go_wp2_with fail
                go_roundw
                case rel => exact ⟨j + 1, true, by go_num, rfl, by omega, D.out _, F.out⟩
                case measure => simp [intOf]; omega
              | false =>
                have F := Lib.hid (show among (l.take (j + 1)) tv = false from by rw [NX.out]; exact hq)
                have D := Lib.hid (fun m => drewN_below J2.out m)
                go_wp2_with fail
                go_quiet (fail)
                go_wp2_with fail
                go_roundw
                case rel => exact ⟨j + 1, false, by go_num, rfl, by omega, D.out _, F.out⟩
                case measure => simp [intOf]; omega
          · obtain rfl : j = n' := by omega
            have AM : Hid (among l tv = f) := Lib.hid (by have h := HF.out; rwa [NL.out, List.take_of_length_le (Nat.le_refl _)] at h)
            have f5 := (J2.out.cell (p := ⟨b, bo + k * 2, none⟩) hb).trans E5.out
            have ft := (J2.out.cell (p := ⟨d, o + k * 2, none⟩) hd).trans T1.out
            have D := Lib.hid (fun m => drewN_below J2.out m)
            have hbne : ∀ q, (x.toList == tn.toList) = q → (x.toList != tn.toList) = !q := fun q h => by rw [← h]; rfl
            cases hq : (x.toList == tn.toList) with
            | true =>
              have hq' : (x.toList != tn.toList) = false := hbne _ hq
              clear hbne
              cases f with
              | true =>
                have F := Lib.hid (NEXTK.out (by rw [OK.out, AM.out]; unfold eqB; rw [hq]; rfl))
                go_wp2_with fail
                go_quiet (fail)
                go_wp2_with fail
                go_roundw
                case rel => exact ⟨k + 1, by go_num, by omega, D.out _, F.out⟩
                case measure => simp [intOf]; omega
              | false =>
                have F := Lib.hid (BADK.out (by rw [OK.out, AM.out]; simp))
                go_wp2_with fail
                go_quiet (fail)
                go_wp2_with fail
                go_ret
                exact ⟨ret_bool F.out.symm, D.out _⟩
            | false =>
              have hq' : (x.toList != tn.toList) = true := hbne _ hq
              clear hbne
              have F := Lib.hid (BADK.out (by rw [OK.out]; unfold eqB; rw [hq]; rfl))
              go_wp2_with fail
              go_quiet (fail)
              go_wp2_with fail
              go_ret
              exact ⟨ret_bool F.out.symm, D.out _⟩
      · have e : k = n := by omega
        subst e
        go_wp2_with fail
        go_ret
        exact ⟨ret_bool (by rw [← GOOD.out, HALL.out]), J.out⟩
  · have z1 : ((n : Int) != (n2 : Int)) = true := by rw [bne_iff_ne]; omega
    have F : Hid (legalB L T = false) := Lib.hid (by unfold legalB; rw [← HN.out, ← HN2.out, decide_eq_false heq]; rfl)
    clear heq
    go_enter Try.func19, Try.ntmps19
    go_wp2_with fail
    go_ret
    exact ⟨ret_bool F.out.symm, Below.refl _ _⟩

end Go.Proofs.Ytbffcehaednefaa.Variant
