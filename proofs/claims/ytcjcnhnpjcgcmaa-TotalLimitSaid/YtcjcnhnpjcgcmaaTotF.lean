/- Counting: a clause without what is none, added to a builder. -/
import Derived.Test.YtcjcnhnpjcgcmaaTotB
import Derived.Test.YtcjcnhnpjcgcmaaTblE
import Derived.Test.YtcjcnhnpjcgcmaaCnfI
import Derived.Test.YtcjcnhnpjcgcmaaShelf3
import Derived.Shelf.SlicesE.DeleteFunc
import Derived.Lib.OwnBridge
namespace Go.Proofs.Ytcjcnhnpjcgcmaa.Tot
set_option linter.unusedVariables false
set_option linter.unusedSimpArgs false
open Go.RowKit Go.Lib Go.Shelf Go.Sort
open Go.Proofs.Ytcjcnhnpjcgcmaa.Order (IRow ERow add_at)
open Go.Proofs.Ytcjcnhnpjcgcmaa.Cnf (Bd Rg RgL formOf rowV own_irow hasNone hasNone_any formC_any add_any)
open Go.Proofs.Ytcjcnhnpjcgcmaa.Tbl (Fr)

theorem lit_any (x : Int) (W : World) : Calls Try.prog 74 #[.int .i64 x] W fun e w' => e = .returned (.bool (decide (x = 0))) ∧ W = w' := by
  by_cases h : x = 0
  · subst h
    go_enter Try.func74, Try.ntmps74
    go_wp2_with fail
    go_ret
    exact ⟨rfl, rfl⟩
  · have hb : (x == 0) = false := beq_eq_false_iff_ne.2 h
    have F : Hid (decide (x = 0) = false) := Lib.hid (decide_eq_false h)
    clear h
    go_enter Try.func74, Try.ntmps74
    go_wp2_with fail
    go_ret
    rw [F.out]
    exact ⟨rfl, rfl⟩
/-- those that are literals. -/
def lits (l : List Int) : List Int := l.filter fun x => !decide (x = 0)
theorem del_any {w : World} {base n g cap : Nat} {l : List Int} (h : w.ownsRow base 3 1 (.slice (some ⟨g, 0, none⟩) n cap) n (rowV l)) (hn : n ≤ 1000) :
    Calls Try.prog 73 #[.slice (some ⟨g, 0, none⟩) n cap, .func (.func 74) #[] #[]] w fun e w' => e = .returned (.slice (some ⟨g, 0, none⟩) (lits l).length cap) ∧
      w'.ownsRow base 3 1 (.slice (some ⟨g, 0, none⟩) (lits l).length cap) (lits l).length (rowV (lits l)) ∧ Below base w w' := by
  have hl : n = l.length := by have := h.1; simpa using this.symm
  have hv : (Value.slice (some ⟨g, 0, none⟩) n cap) ≠ .slice none 0 0 := by
    intro e; injection e with e; cases e
  obtain ⟨g', cap', e, hb, hg, hc, hcm, hzl, hH⟩ := holds_of_ownsRow h hv
  injection e with e1 _ e2
  injection e1 with e1
  injection e1 with e1 _
  subst e1 e2
  have t := AnyE.slices_DeleteFunc (P := Try.prog) (ρ := Try.delI_ren) Try.delI (Value.int .i64) (fun _ => rfl) (fun x : Int => decide (x = 0)) 74 #[]
    (enters_of Try.func74 (by kernel_rfl) rfl) (0 : Int) (by intro w; kernel_rfl) g 0 cap l.toArray w
    (fun W x _ => (lit_any x W).mono fun e w' ⟨h1, h2⟩ => ⟨h1, 0, by rw [← h2]; rfl⟩)
    (fun m os dk x _ => (lit_any x _).mono fun e w' ⟨h1, h2⟩ => ⟨h1, 0, by rw [← h2]; rfl⟩) hH (by simp; omega) (by simp; omega)
  have hs : l.toArray.size = n := by simp [hl]
  rw [hs] at t
  refine t.mono fun e w' ⟨he, q, hw⟩ => ?_
  have hf : (l.toArray.toList.filter fun x => !decide (x = 0)) = lits l := by simp [lits]
  rw [hf] at he hw
  have hle : (lits l).length ≤ n := by rw [hl]; exact List.length_filter_le _ _
  have hlen : (lits l ++ List.replicate (n - (lits l).length) (0 : Int)).length = n := by simp; omega
  refine ⟨he, ?_, ?_⟩
  · have o1 := ownsRow_putRow (q := q) (ys := lits l ++ List.replicate (n - (lits l).length) (0 : Int)) (k := (lits l).length) h hlen hle
    rw [hw]
    simpa using o1
  · rw [hw]
    exact below_putRow (Below.refl base w) hb

set_option maxHeartbeats 1000000 in
/-- the clause of a row that was just made. -/
theorem clause_any {w : World} {base n g cap : Nat} {l : List Int} (h : w.ownsRow base 3 1 (.slice (some ⟨g, 0, none⟩) n cap) n (rowV l)) (hn : n ≤ 1000) :
    Calls Try.prog 66 #[.slice (some ⟨g, 0, none⟩) n cap] w fun e w' => e = .returned (.slice (some ⟨g, 0, none⟩) (lits l).length cap) ∧
      w'.ownsRow base 3 1 (.slice (some ⟨g, 0, none⟩) (lits l).length cap) (lits l).length (rowV (lits l)) ∧ Below base w w' := by
  have D := Lib.hid (del_any h hn)
  obtain ⟨r, hr⟩ : ∃ r, r = (lits l).length := ⟨_, rfl⟩
  rw [← hr] at D ⊢
  clear h hn hr
  go_enter Try.func66, Try.ntmps66
  go_wp2_with fail
  go_at_call 73; refine D.out.mono ?_; rintro e w1 ⟨rfl, h1⟩
  have R := Lib.hid h1
  clear h1
  go_wp2_with fail
  go_ret
  exact ⟨rfl, R.out⟩

/-- the literal that at least so many are so. -/
def atv (l : List Int) (n : Nat) : Int := if n = 0 then 0 else l.getD (n - 1) 0
set_option maxHeartbeats 1000000 in
theorem at_any (A : Option Addr) (l : List Int) (m c n : Nat) (w : World) (h : IRow w w.heap.size A l) (hm : m = l.length) (hm1 : m ≤ 1000) (hn : n ≤ 1000) :
    Calls Try.prog 67 #[.slice A m c, .int .i64 (n : Nat)] w fun e w' => e = .returned (.int .i64 (atv l n)) ∧ w' = w := by
  have z1 : (m : Int) ≤ 1000 := by omega
  have z2 : (n : Int) ≤ 1000 := by omega
  have HM := Lib.hid hm
  have H := Lib.hid h
  clear hm h hm1
  by_cases h0 : n = 0
  · subst h0
    have F : Hid (atv l 0 = 0) := Lib.hid rfl
    rw [F.out]
    go_enter Try.func67, Try.ntmps67
    go_wp2_with fail
    go_ret
    exact ⟨rfl, rfl⟩
  · have h1 : ¬ (n : Int) < 1 := by omega
    by_cases hgt : m < n
    · have h2 : (m : Int) < (n : Int) := by omega
      have F : Hid (atv l n = 0) := Lib.hid (by
        unfold atv
        rw [if_neg h0, List.getD_eq_getElem?_getD, List.getElem?_eq_none (by have := HM.out; omega)]; rfl)
      rw [F.out]
      clear h0 hgt
      go_enter Try.func67, Try.ntmps67
      go_wp2_with fail
      go_ret
      exact ⟨rfl, rfl⟩
    · have h2 : ¬ (m : Int) < (n : Int) := by omega
      obtain ⟨q, hq⟩ : ∃ q, n = q + 1 := ⟨n - 1, by omega⟩
      have ql : q < l.length := by have := HM.out; omega
      rcases H.out with h' | ⟨b, o, rfl, hb, hcell⟩
      · exfalso; rw [h'] at ql; simp at ql
      have cq := hcell q ql
      have F : Hid (atv l n = l.getD q 0) := Lib.hid (by unfold atv; rw [if_neg h0, hq]; rfl)
      rw [F.out]
      obtain ⟨y, hy⟩ : ∃ y, y = l.getD q 0 := ⟨_, rfl⟩
      rw [← hy] at cq ⊢
      have e1 : (n : Int) - 1 = (q : Int) := by omega
      have e2 : (q : Int) < (m : Int) := by omega
      have wq : IntKind.i64.wrap (q : Int) = (q : Int) := IntWalk.i64_in _ (by omega)
      clear hy hcell hq ql h0 hgt hb
      go_enter Try.func67, Try.ntmps67
      go_wp2_with fail
      go_ret
      exact ⟨rfl, rfl⟩

/-- a row's own block, if it has one. -/
abbrev bo (A : Option Addr) : Option Nat := (Value.slice A 0 0).ownBlock
theorem bo_eq (A : Option Addr) (n c : Nat) : (Value.slice A n c).ownBlock = bo A := by cases A <;> rfl
/-- a builder with so many clauses. -/
def BS (B g n : Nat) (A : Option Addr) (c : Nat) (w : World) : Prop := ∃ cs VS, Bd B g A n c cs VS false false w
theorem BS.below {B g n c : Nat} {A : Option Addr} {w w' : World} (h : BS B g n A c w) (hb : Below w.heap.size w w') : BS B g n A c w' := by
  obtain ⟨cs, VS, h⟩ := h
  exact ⟨cs, VS, h.below hb⟩
/-- what adding leaves. -/
def AddEnd (B g n : Nat) (A : Option Addr) (w : World) (e : Ending) (w' : World) : Prop :=
  e = .returned (.tuple #[]) ∧ ∃ n' A' c', n ≤ n' ∧ n' ≤ n + 1 ∧ BS B g n' A' c' w' ∧ Fr (fun k => k = g ∨ bo A = some k) w w' ∧ (bo A' = bo A ∨ ∃ g2, bo A' = some g2 ∧ w.heap.size ≤ g2)

set_option maxHeartbeats 4000000 in
set_option maxRecDepth 100000 in
theorem add_gen {B g n c : Nat} {A : Option Addr} {w : World} (D : Option Addr) (l : List Int) (m d : Nat) (hbd : BS B g n A c w) (hn : n < 262144) (hl : IRow w w.heap.size D l) (hm : m = l.length) (hm8 : m ≤ 100000) (hr : RgL l) (h0 : hasNone l = false) :
    Calls Try.prog 42 #[.pointer (some ⟨g, 0, none⟩), .slice D m d] w (AddEnd B g n A w) := by
  cases hf : formOf l with
  | some f =>
    obtain ⟨cs, VS, hb⟩ := hbd
    refine (add_any D l f m d hb hn hl hm hm8 hr hf).mono ?_
    rintro e w' ⟨rfl, A', c', VS', k1, k2, k3, k4⟩
    refine ⟨rfl, n + 1, A', c', by omega, Nat.le_refl _, ⟨_, _, k1⟩, ⟨k2.os, k2.tape, k2.output, k2.size, fun k hk hS => k3 k hk (fun e => hS (.inl e)) (fun e => hS (.inr (by rw [bo_eq] at e; exact e)))⟩, ?_⟩
    cases hA : bo A' with
    | none =>
      cases hA2 : bo A with
      | none => exact .inl rfl
      | some g1 =>
        exfalso
        obtain ⟨g2, c2, e, _⟩ := owned_shape k1.own (by omega)
        injection e with e
        rw [e] at hA
        cases hA
    | some g2 =>
      rcases k4 g2 (by rw [bo_eq]; exact hA) with h | h
      · exact .inl (by rw [bo_eq] at h; exact h.symm)
      · exact .inr ⟨g2, rfl, h⟩
  | none =>
    have z : (n : Int) < 262144 := by omega
    have BD := Lib.hid hbd
    have HH : Hid (Calls Try.prog 28 #[.slice D m d] w fun e w' => e = .returned (.bool false) ∧ w = w') := Lib.hid (by
      have h := hasNone_any D l m d w hl hm (by unfold maxLen; omega)
      rwa [h0] at h)
    have FC := Lib.hid (formC_any D l m d w hl hm (by omega) hr)
    have FF := Lib.hid hf
    clear hbd hl hm hm8 hr hf hn h0
    go_enter Try.func42, Try.ntmps42
    generalize (262144 : Int) = K at z ⊢
    go_wp2_with fail
    refine HH.out.mono ?_
    rintro e w' ⟨rfl, rfl⟩
    go_wp2_with fail
    refine FC.out.mono ?_
    rintro e w1 ⟨v, b, rfl, hfo, hb1⟩
    have OV : Hid (b = false) := Lib.hid (by
      rcases hfo with ⟨_, _, h1⟩ | ⟨f', h1, h2, h3⟩
      · first | exact h1 | exact h1.1
      · rw [FF.out] at h1; cases h1)
    obtain rfl := OV.out
    have B1 := Lib.hid hb1
    clear hfo hb1 HH FC
    go_wp2_with fail
    refine bodyPost_ret (results_none rfl _ _ _) rfl ?_
    exact ⟨rfl, n, A, c, Nat.le_refl _, by omega, BD.out.below B1.out, Fr.of_below B1.out _, .inl rfl⟩

end Go.Proofs.Ytcjcnhnpjcgcmaa.Tot
