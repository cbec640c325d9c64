/- Clauses: too many, and the greatest atom. -/
import Derived.Test.YtlgakejjakeomaaDoorCnfK
namespace Go.Proofs.YtlgakejjakeomaaDoor.Cnf
set_option linter.unusedVariables false
set_option linter.unusedSimpArgs false
open Go.RowKit Go.Lib
open Go.Proofs.YtlgakejjakeomaaDoor.Order (IRow ERow add_at)

def greatFrom (n : Int) : List (List Int) → Bool
  | [] => false
  | c :: E => if 3000 < n + (1 + min (c.length : Int) 9000) then true else greatFrom (n + (1 + min (c.length : Int) 9000)) E
def greatB (E : List (List Int)) : Bool := greatFrom 0 E
theorem great_small : ∀ {E : List (List Int)} {n : Int}, 0 ≤ n → n ≤ 3000 → greatFrom n E = false → (E.length : Int) + n ≤ 3000 ∧ ∀ i, (E.getD i []).length ≤ 3000
  | [], n, h0, h1, h => ⟨by simpa using h1, fun i => by simp⟩
  | c :: E, n, h0, h1, h => by
    rw [greatFrom] at h
    split at h
    · cases h
    · rename_i h2
      have hc : (c.length : Int) ≤ 3000 := by omega
      obtain ⟨g1, g2⟩ := great_small (E := E) (n := n + (1 + min (c.length : Int) 9000)) (by omega) (by omega) h
      refine ⟨by simp; omega, fun i => ?_⟩
      cases i with
      | zero => simp; omega
      | succ i => simpa using g2 i
theorem dropE_at {E : List (List Int)} {k : Nat} (hk : k < E.length) : E.drop k = E.getD k [] :: E.drop (k + 1) := by
  rw [List.drop_eq_getElem_cons hk]
  congr 1
  rw [List.getD_eq_getElem?_getD, List.getElem?_eq_getElem hk]; rfl

/-! ### the greatest atom -/
def oneM (g x : Int) : Int := if x = -9223372036854775808 then g else max g (atomW x)
def rowM (g : Int) (c : List Int) : Int := c.foldl oneM g
def atomsM (E : List (List Int)) : Int := E.foldl rowM 0
theorem atomW_pos {x : Int} (h : x ≠ -9223372036854775808) : 0 ≤ atomW x := by unfold atomW; rw [if_neg h]; omega
theorem oneM_ge (g x : Int) : g ≤ oneM g x := by unfold oneM; split <;> omega
theorem rowM_ge : ∀ (c : List Int) (g : Int), g ≤ rowM g c
  | [], g => Int.le_refl _
  | x :: c, g => Int.le_trans (oneM_ge g x) (rowM_ge c _)
theorem rowM_max : ∀ (c : List Int) (g h : Int), rowM (max g h) c = max g (rowM h c)
  | [], g, h => rfl
  | x :: c, g, h => by
    show rowM (oneM (max g h) x) c = max g (rowM (oneM h x) c)
    have e : oneM (max g h) x = max g (oneM h x) := by unfold oneM; split <;> omega
    rw [e, rowM_max c]
theorem atomsF_max : ∀ (E : List (List Int)) (g h : Int), E.foldl rowM (max g h) = max g (E.foldl rowM h)
  | [], g, h => rfl
  | c :: E, g, h => by
    show E.foldl rowM (rowM (max g h) c) = _
    rw [rowM_max, atomsF_max E]
    rfl
theorem atomsM_ge (E : List (List Int)) : 0 ≤ atomsM E := by
  have h := atomsF_max E 0 0
  rw [Int.max_self] at h
  unfold atomsM
  omega
theorem atomsM_app (a b : List (List Int)) : atomsM (a ++ b) = max (atomsM a) (atomsM b) := by
  unfold atomsM
  rw [List.foldl_append]
  have h := atomsF_max b (a.foldl rowM 0) 0
  have h0 := atomsM_ge a
  unfold atomsM at h0
  rwa [show max (a.foldl rowM 0) 0 = a.foldl rowM 0 by omega] at h
theorem take_rowM (c : List Int) (k : Nat) (hk : k < c.length) (g : Int) : rowM g (c.take (k + 1)) = oneM (rowM g (c.take k)) (c.getD k 0) := by
  unfold rowM
  rw [List.take_succ_eq_append_getElem hk, List.foldl_append]
  rw [List.getD_eq_getElem?_getD, List.getElem?_eq_getElem hk]
  rfl
theorem take_atomsM (E : List (List Int)) (k : Nat) (hk : k < E.length) : (E.take (k + 1)).foldl rowM 0 = rowM ((E.take k).foldl rowM 0) (E.getD k []) := by
  rw [List.take_succ_eq_append_getElem hk, List.foldl_append]
  rw [List.getD_eq_getElem?_getD, List.getElem?_eq_getElem hk]
  rfl

set_option maxHeartbeats 4000000 in
set_option maxRecDepth 100000 in
theorem atoms_any (B : Option Addr) (E : List (List Int)) (n d : Nat) (w : World) (hl : ERow w w.heap.size B E) (hn : n = E.length) (hnm : n ≤ maxLen) (hr : RgE E) :
    Calls Tryd.prog 17 #[.slice B n d] w fun e w' => e = .returned (.int .i64 (atomsM E)) ∧ w = w' := by
  have h63 : (n : Int) ≤ 9223372036854775807 := by unfold maxLen at hnm; omega
  have HL := Lib.hid hl
  have HN := Lib.hid hn
  have HR := Lib.hid hr
  have AC : Hid (∀ x, Rg x → Calls Tryd.prog 32 #[.int .i64 x] w fun e w' => e = .returned (.int .i64 (atomW x)) ∧ w = w') := Lib.hid (fun x hx => atomC_any x hx w)
  have FH : Hid (E.foldl rowM 0 = atomsM E) := Lib.hid rfl
  clear hl hn hnm hr
  go_enter Tryd.func17, Tryd.ntmps17
  go_wp2_with fail
  go_loopw [3, 5, 7, 10, 16] (fun g _ _ v _ wr => ∃ (i : Nat) (s : Int), v = .int .i64 i ∧ g = .int .i64 s ∧ i ≤ n ∧ wr = w ∧ (E.take i).foldl rowM 0 = s) (fun _ _ _ v _ _ => n - (intOf v).toNat)
  case atStart => exact ⟨0, 0, rfl, rfl, Nat.zero_le _, rfl, rfl⟩
  case round =>
    obtain ⟨i, s, rfl, rfl, hi, h', hno⟩ := hrel
    obtain rfl := h'.symm
    have NO := Lib.hid hno
    clear hno
    by_cases hlt : i < n
    · have hlt' : (i : Int) < (n : Int) := by omega
      have IA : Hid (i < E.length) := Lib.hid (by have := HN.out; omega)
      rcases HL.out with h' | ⟨b, o, rfl, hb, hcell⟩
      · exfalso; have := IA.out; rw [h'] at this; simp at this
      obtain ⟨A', n', c', g1, g2, g3, g4, e5⟩ := hcell i IA.out
      have hn63 : (n' : Int) ≤ 9223372036854775807 := by unfold maxLen at g3; omega
      have RX := Lib.hid (HR.out.at IA.out)
      have NX := Lib.hid (take_atomsM E i IA.out)
      obtain ⟨x, hx⟩ : ∃ x, x = E.getD i [] := ⟨_, rfl⟩
      rw [← hx] at g4 g1 NX RX
      have G4 := Lib.hid g4
      have G1 := Lib.hid g1
      clear hx hcell g1 g2 g3 g4
      go_wp2_with fail
      go_loopw [3, 7, 16] (fun g _ v wq => ∃ (j : Nat) (q : Int), v = .int .i64 j ∧ g = .int .i64 q ∧ j ≤ n' ∧ wq = w ∧ rowM s (x.take j) = q) (fun _ _ v _ => n' - (intOf v).toNat)
      case atStart => exact ⟨0, s, rfl, rfl, Nat.zero_le _, rfl, rfl⟩
      case round =>
        obtain ⟨j, q, rfl, rfl, hj, h', hq⟩ := hrel
        obtain rfl := h'.symm
        have HQ := Lib.hid hq
        clear hq
        by_cases hjn : j < n'
        · have hjn' : (j : Int) < (n' : Int) := by omega
          have JL : Hid (j < x.length) := Lib.hid (by have := G1.out; omega)
          have NQ := Lib.hid (take_rowM x j JL.out s)
          rcases G4.out with h' | ⟨b', o', rfl, hb', hc'⟩
          · exfalso; have := JL.out; rw [h'] at this; simp at this
          have ft := hc' j JL.out
          have SX := Lib.hid (AC.out _ (RX.out.at JL.out))
          obtain ⟨t, ht⟩ : ∃ t, t = x.getD j 0 := ⟨_, rfl⟩
          rw [← ht] at ft SX NQ
          rw [HQ.out] at NQ
          clear ht hc'
          by_cases hm : t = -9223372036854775808
          · have F : Hid (rowM s (x.take (j + 1)) = q) := Lib.hid (by rw [NQ.out]; unfold oneM; rw [if_pos hm])
            subst hm
            go_wp2_with fail
            go_roundw
            case rel => exact ⟨j + 1, q, by go_num, rfl, by omega, trivial, F.out⟩
            case measure => simp [intOf]; omega
          · have hbm : (t == -9223372036854775808) = false := beq_eq_false_iff_ne.2 hm
            have OM : Hid (oneM q t = max q (atomW t)) := Lib.hid (by unfold oneM; rw [if_neg hm])
            obtain ⟨u, hu⟩ : ∃ u, u = atomW t := ⟨_, rfl⟩
            rw [← hu] at SX OM
            clear hu hm
            have F : Hid (rowM s (x.take (j + 1)) = max q u) := Lib.hid (by rw [NQ.out, OM.out])
            go_wp2_with fail
            refine SX.out.mono ?_
            rintro e w' ⟨rfl, rfl⟩
            go_wp2_with fail
            go_roundw
            case rel => exact ⟨j + 1, max q u, by go_num, rfl, by omega, trivial, F.out⟩
            case measure => simp [intOf]; omega
        · have e : j = n' := by omega
          subst e
          have F : Hid ((E.take (i + 1)).foldl rowM 0 = q) := Lib.hid (by
            rw [NX.out, NO.out]
            have h := HQ.out
            rwa [G1.out, List.take_of_length_le (Nat.le_refl _)] at h)
          go_wp2_with fail
          go_roundw
          case rel => exact ⟨i + 1, q, by go_num, rfl, by omega, trivial, F.out⟩
          case measure => simp [intOf]; omega
    · have e : i = n := by omega
      subst e
      have F : Hid (atomsM E = s) := Lib.hid (by
        rw [← FH.out]
        have h := NO.out
        rwa [List.take_of_length_le (by rw [HN.out]; exact Nat.le_refl _)] at h)
      go_wp2_with fail
      go_ret
      exact ⟨ret_int F.out.symm, rfl⟩

end Go.Proofs.YtlgakejjakeomaaDoor.Cnf
