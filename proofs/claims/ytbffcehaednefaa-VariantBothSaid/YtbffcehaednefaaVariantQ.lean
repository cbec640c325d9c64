/- Variants: which setting has a name; a row of settings copied. -/
import Derived.Test.YtbffcehaednefaaVariantP
import Derived.Laws.AppendOwn
namespace Go.Proofs.Ytbffcehaednefaa.Variant
set_option linter.unusedVariables false
set_option linter.unusedSimpArgs false
open Go.RowKit

abbrev fnS (p : Addr) : Value := .func (.func 71) #[] #[.pointer (some p)]
set_option maxHeartbeats 400000 in
theorem settingNamed_pt (nm : ByteArray) (w : World) : Calls Try.prog 54 #[.string nm] w fun e w' => ∃ p, e = .returned (fnS p) ∧ p.block < w'.heap.size ∧ w'.cell? p = some (.string nm) ∧ Below w.heap.size w w' := by
  have hmf : ∀ (fn : Fn) (first cap : Array Value) (w : World), (Instr.makeFunc fn first cap).run Try.prog w = .ok (.func fn first cap) w := fun _ _ _ _ => rfl
  have E : Hid (∃ p, fnS ⟨w.heap.size, 0, none⟩ = fnS p ∧ p.block < (w.alloc (.cells #[.string nm] 9)).heap.size ∧ (w.alloc (.cells #[.string nm] 9)).cell? p = some (.string nm) ∧ Below w.heap.size w (w.alloc (.cells #[.string nm] 9))) :=
    Lib.hid ⟨_, rfl, by simp, blk_cell (j := 0) (heap_alloc_new w _) rfl, (Below.refl _ _).alloc (Nat.le_refl _) _⟩
  go_enter Try.func54, Try.ntmps54
  go_wp2_with fail
  go_ret
  obtain ⟨p, e1, e2⟩ := E.out
  exact ⟨p, by rw [← e1]; rfl, e2⟩
set_option maxHeartbeats 400000 in
theorem closureS_any (x y nm : ByteArray) (p : Addr) (w : World) (hp : p.block < w.heap.size) (hc : w.cell? p = some (.string nm)) :
    Calls Try.prog 71 #[aggT x y, .pointer (some p)] w fun e w' => e = .returned (.bool (eqB x nm)) ∧ Below w.heap.size w w' := by
  have BL := Lib.hid ((Below.refl w.heap.size w).alloc (Nat.le_refl _) (.cells #[.string x, .string y] 33))
  have hc' : (boxT w x y).cell? p = some (.string nm) := (BL.out.cell hp).trans hc
  obtain ⟨x0, x1⟩ := boxT_cells w x y
  go_enter Try.func71, Try.ntmps71
  go_wp2_with fail
  go_ret
  exact ⟨rfl, BL.out⟩

def IdxOk (a : List Tr) (nm : ByteArray) (z : Int) : Prop := (z = -1 ∧ nmIn a nm = false) ∨ ∃ i : Nat, z = (i : Int) ∧ i < a.length ∧ eqB (a.getD i tr0).1 nm = true

set_option maxHeartbeats 1000000 in
theorem indexN_any (A : Option Addr) (a : List Tr) (n c : Nat) (nm : ByteArray) (p : Addr) (w : World) (hp : p.block < w.heap.size) (hc : w.cell? p = some (.string nm)) (h : TRow w w.heap.size A a) (hn : n = a.length) (hm : n ≤ maxLen) :
    Calls Try.prog 53 #[.slice A n c, fnS p] w fun e w' => ∃ z : Int, e = .returned (.int .i64 z) ∧ IdxOk a nm z ∧ Below w.heap.size w w' := by
  have h63 : (n : Int) ≤ 9223372036854775807 := by unfold maxLen at hm; omega
  have HN := Lib.hid hn
  have H := Lib.hid h
  clear hm hn h
  go_enter Try.func53, Try.ntmps53
  go_wp2_with fail
  go_loopw [5, 8] (fun _ v wr => ∃ i : Nat, v = .int .i64 i ∧ i ≤ n ∧ Below w.heap.size w wr ∧ (a.take i).any (fun t => eqB t.1 nm) = false) (fun _ v _ => n - (intOf v).toNat)
  case atStart => exact ⟨0, rfl, Nat.zero_le _, Below.refl _ _, rfl⟩
  case round =>
    obtain ⟨i, rfl, hi, hbel, hno⟩ := hrel
    have BL := Lib.hid hbel
    have NO := Lib.hid hno
    clear hbel hno
    by_cases hlt : i < n
    · have hlt' : (i : Int) < (n : Int) := by omega
      have IA : Hid (i < a.length) := Lib.hid (by have := HN.out; omega)
      rcases H.out with h' | ⟨b, bo, rfl, hb, hcell⟩
      · exfalso; have := IA.out; rw [h'] at this; simp at this
      obtain ⟨e5, e6⟩ := hcell i IA.out
      replace e5 := (BL.out.cell (p := ⟨b, bo + i * 2, none⟩) hb).trans e5
      replace e6 := (BL.out.cell (p := ⟨b, bo + i * 2 + 1, none⟩) hb).trans e6
      have CL := Lib.hid (closureS_any (a.getD i tr0).1 (a.getD i tr0).2 nm p wr (by have := BL.out.size; omega) ((BL.out.cell hp).trans hc))
      have NEXT := Lib.hid (anyT_next (fun t => eqB t.1 nm) a i IA.out NO.out)
      have GV : Hid ((fun t : Tr => eqB t.1 nm) (a.getD i tr0) = eqB (a.getD i tr0).1 nm) := Lib.hid rfl
      have HIT : Hid (eqB (a.getD i tr0).1 nm = true → IdxOk a nm (i : Int)) := Lib.hid (fun h => .inr ⟨i, rfl, IA.out, h⟩)
      obtain ⟨x, hx⟩ : ∃ x, x = (a.getD i tr0).1 := ⟨_, rfl⟩
      obtain ⟨y, hy⟩ : ∃ x, x = (a.getD i tr0).2 := ⟨_, rfl⟩
      rw [← hx] at e5 CL HIT GV
      rw [← hy] at e6 CL
      clear hx hy hcell hp hc
      cases hq : eqB x nm with
      | true =>
        rw [hq] at CL
        have HIT := Lib.hid (HIT.out hq)
        clear hq
        go_wp2_with (go_at_call 71; refine CL.out.mono ?_; rintro e w' ⟨rfl, hbb⟩; have BL := Lib.hid (bstep BL.out hbb); clear hbb)
        go_ret
        exact ⟨_, rfl, HIT.out, BL.out⟩
      | false =>
        rw [hq] at CL
        have NEXT := Lib.hid (NEXT.out (GV.out.trans hq))
        clear hq
        go_wp2_with (go_at_call 71; refine CL.out.mono ?_; rintro e w' ⟨rfl, hbb⟩; have BL := Lib.hid (bstep BL.out hbb); clear hbb)
        go_roundw
        case rel => exact ⟨i + 1, by go_num, by omega, BL.out, NEXT.out⟩
        case measure => simp [intOf]; omega
    · have e : i = n := by omega
      subst e
      have F : Hid (IdxOk a nm (-1)) := Lib.hid (.inl ⟨rfl, by
        have h := NO.out
        rwa [HN.out, List.take_of_length_le (Nat.le_refl _)] at h⟩)
      go_wp2_with fail
      go_ret
      exact ⟨-1, rfl, F.out, BL.out⟩

/-! ### a copy -/
def flatT : List Tr → List Value
  | [] => []
  | t :: l => .string t.1 :: .string t.2 :: flatT l
theorem flatT_len : ∀ l : List Tr, (flatT l).length = l.length * 2
  | [] => rfl
  | _ :: l => by simp [flatT, flatT_len l]; omega
theorem flatT_app : ∀ a b : List Tr, flatT (a ++ b) = flatT a ++ flatT b
  | [], _ => rfl
  | _ :: a, b => by simp [flatT, flatT_app a b]
theorem flatT_one : ∀ l : List Tr, ∀ u ∈ flatT l, u.oneCell' = true
  | [], u, h => by simp [flatT] at h
  | t :: l, u, h => by
    simp only [flatT, List.mem_cons] at h
    rcases h with rfl | rfl | h
    · rfl
    · rfl
    · exact flatT_one l u h
theorem flatT_at : ∀ (l : List Tr) (j : Nat), j < l.length → (flatT l)[j * 2]? = some (.string (l.getD j tr0).1) ∧ (flatT l)[j * 2 + 1]? = some (.string (l.getD j tr0).2)
  | [], j, h => by simp at h
  | t :: l, 0, _ => by simp [flatT]
  | t :: l, j + 1, h => by
    have := flatT_at l j (by simpa using h)
    rw [show (j + 1) * 2 = j * 2 + 2 by omega]
    simpa [flatT] using this
theorem TRow.news {w : World} {B b bo : Nat} {l : List Tr} (hcell : ∀ j, j < l.length → w.cell? ⟨b, bo + j * 2, none⟩ = some (.string (l.getD j tr0).1) ∧ w.cell? ⟨b, bo + j * 2 + 1, none⟩ = some (.string (l.getD j tr0).2)) :
    ∀ j u, (flatT l)[j]? = some u → w.cell? ((⟨b, bo, none⟩ : Addr).add j) = some u := by
  intro j u hu
  have hlen : j < l.length * 2 := by
    have := (List.getElem?_eq_some_iff.1 hu).1
    rwa [flatT_len] at this
  have hadd : ∀ k, (⟨b, bo, none⟩ : Addr).add k = ⟨b, bo + k, none⟩ := by
    intro k; unfold Addr.add; split
    · rename_i e; subst e; rfl
    · rfl
  rw [hadd]
  obtain ⟨i, hi⟩ : ∃ i, j = i * 2 ∨ j = i * 2 + 1 := ⟨j / 2, by omega⟩
  rcases hi with rfl | rfl
  · have h1 := flatT_at l i (by omega)
    rw [h1.1] at hu
    rw [(hcell i (by omega)).1, ← hu]
  · have h1 := flatT_at l i (by omega)
    rw [h1.2] at hu
    rw [← Nat.add_assoc, (hcell i (by omega)).2, ← hu]
theorem ownT_row {w : World} {base k : Nat} {v : Value} {l : List Tr} (h : w.ownsRow base 33 2 v k (flatT l)) : ∃ A c, v = .slice A k c ∧ k = l.length ∧ k ≤ c ∧ c ≤ maxLen ∧ TRow w w.heap.size A l := by
  have hl : k = l.length := by have := h.1; rw [flatT_len] at this; omega
  rcases h.2 with ⟨rfl, hk⟩ | ⟨g, cap, cur, rfl, hb, hh, hc, hm, hs, ht⟩
  · exact ⟨none, 0, by rw [hk], hl, by omega, by unfold maxLen; omega, .inl (List.length_eq_zero_iff.1 (by omega))⟩
  · refine ⟨some ⟨g, 0, none⟩, cap, rfl, hl, hc, hm, .inr ⟨g, 0, rfl, lt_of_block hh, fun j hj => ?_⟩⟩
    have hcell : ∀ i u, (flatT l)[i]? = some u → w.cell? ⟨g, i, none⟩ = some u := by
      intro i u hu
      rw [← ht, List.getElem?_take] at hu
      split at hu
      · exact blk_cell hh (by simpa using hu)
      · cases hu
    obtain ⟨e1, e2⟩ := flatT_at l j hj
    rw [Nat.zero_add]
    exact ⟨hcell _ _ e1, hcell _ _ e2⟩

set_option maxHeartbeats 2000000 in
set_option maxRecDepth 100000 in
theorem cloneT_any (A : Option Addr) (a : List Tr) (n c : Nat) (w : World) (h : TRow w w.heap.size A a) (hn : n = a.length) (hm : n ≤ 1000) :
    Calls Try.prog 52 #[.slice A n c] w fun e w' => ∃ v, e = .returned v ∧ w'.ownsRow w.heap.size 33 2 v n (flatT a) ∧ Below w.heap.size w w' := by
  obtain ⟨i0, hi, hz0, hz1, hz2⟩ := setting_info
  have HI := Lib.hid (And.intro hi (And.intro hz0 (And.intro hz1 hz2)))
  clear hi hz0 hz1 hz2
  cases A with
  | none =>
    have e : a = [] := by
      rcases h with h | ⟨_, _, h, _⟩
      · exact h
      · cases h
    subst e
    simp at hn
    subst hn
    have F : Hid (w.ownsRow w.heap.size 33 2 (.slice none 0 0) 0 (flatT [])) := Lib.hid (World.ownsRow_nil _ _ _ _)
    have hnil : ∀ w : World, (binOp .eql 31 (.slice none 0 c) (.slice none 0 0)).run Try.prog w = .ok (.bool true) w := fun w => Lib.run_eql_slice_nil w 31 33 none 0 c 0 0 Try.underlying31
    clear h hm
    go_enter Try.func52, Try.ntmps52
    go_wp2_with fail
    go_ret
    exact ⟨_, rfl, F.out, Below.refl _ _⟩
  | some ad =>
    have NEWS : Hid (∀ j u, (flatT a)[j]? = some u → (w.alloc (.cells #[] 33)).cell? (ad.add j) = some u) := Lib.hid (by
      rcases h with rfl | ⟨b, bo, e, hb, hcell⟩
      · intro j u hu; simp [flatT] at hu
      · injection e with e
        subst e
        intro j u hu
        have h1 := TRow.news (B := 0) hcell j u hu
        exact (((Below.refl w.heap.size w).alloc (Nat.le_refl _) (.cells #[] 33)).cell (by
          show ((⟨b, bo, none⟩ : Addr).add j).block < _
          have : ((⟨b, bo, none⟩ : Addr).add j).block = b := by unfold Addr.add; split <;> rfl
          omega)).trans h1)
    have OWN : Hid ((w.alloc (.cells #[] 33)).ownsRow w.heap.size 33 2 (.slice (some ⟨w.heap.size, 0, none⟩) 0 0) 0 []) := Lib.hid
      ⟨rfl, .inr ⟨w.heap.size, 0, #[], rfl, Nat.le_refl _, heap_alloc_new w _, Nat.le_refl _, Nat.zero_le _, rfl, rfl⟩⟩
    have BL := Lib.hid ((Below.refl w.heap.size w).alloc (Nat.le_refl _) (.cells #[] 33))
    have HL : Hid ((flatT a).length = n * 2) := Lib.hid (by rw [flatT_len, hn])
    have ONE := Lib.hid (flatT_one a)
    have h63 : 0 + n ≤ maxLen := by unfold maxLen; omega
    have hby : (0 + n) * 32 ≤ 140737488355328 := by omega
    have SZ : Hid (w.heap.size ≤ (w.alloc (.cells #[] 33)).heap.size) := Lib.hid (by simp)
    clear h hn hm
    obtain ⟨hi, hz0, hz1, hz2⟩ := HI.out
    have hnil : ∀ w : World, (binOp .eql 31 (.slice (some ad) n c) (.slice none 0 0)).run Try.prog w = .ok (.bool false) w := fun w => Lib.run_eql_slice_nil w 31 33 (some ad) n c 0 0 Try.underlying31
    go_enter Try.func52, Try.ntmps52
    go_wp2_with (at_builtin; refine wpList_append_own _ (by rfl) (.tmp 5) (.tmp 6) 31 (by rfl) w.heap.size 33 i0 _ 2 32 Try.underlying31 hi hz0 hz1 hz2 (by rfl) (by decide) (.slice (some ⟨w.heap.size, 0, none⟩) 0 0) 0 [] (by rfl) OWN.out ad n c (flatT a) (by rfl) HL.out NEWS.out ONE.out h63 hby SZ.out ?_; intro v' w1 hown hgrow _; have BF := Lib.hid (BL.out.grown hgrow SZ.out (own_base OWN.out)); have OF : Hid (w1.ownsRow w.heap.size 33 2 v' n (flatT a)) := Lib.hid (by simpa using hown); clear hown hgrow)
    go_ret
    exact ⟨_, rfl, OF.out, BF.out⟩

end Go.Proofs.Ytbffcehaednefaa.Variant
