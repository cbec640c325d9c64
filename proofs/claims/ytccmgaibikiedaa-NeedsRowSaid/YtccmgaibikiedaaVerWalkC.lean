/- Rows of parts: a place of a row, and how two rows stand to each other. -/
import Derived.Test.YtccmgaibikiedaaVerWalkB
import Derived.Test.YtccmgaibikiedaaAppend1
import Derived.Laws.OwnMore
import Derived.Deep.AppendLies
namespace Go.Proofs.Ytccmgaibikiedaa.Ver
set_option linter.unusedVariables false
open Go.RowKit

/-- a text of these bytes. -/
abbrev str (l : Bs) : Value := .string ⟨l.toArray⟩
/-- the cells from an address on hold these texts; they lie below block B. -/
def Row (w : World) (B : Nat) (A : Option Addr) (l : List Bs) : Prop := ∀ i, i < l.length → ∃ ad, A = some ad ∧ ad.block < B ∧ w.cell? (ad.add i) = some (str (l.getD i []))

theorem add_block (a : Addr) (n : Nat) : (a.add n).block = a.block := by unfold Addr.add; split <;> rfl
theorem Row.keep {w w' : World} {B B' : Nat} {A : Option Addr} {l : List Bs} (h : Row w B A l) (hB : B ≤ B') (hk : ∀ p : Addr, p.block < B → w'.cell? p = w.cell? p) : Row w' B' A l := fun i hi => by
  obtain ⟨ad, e, hb, hc⟩ := h i hi
  exact ⟨ad, e, by omega, (hk _ (by rw [add_block]; exact hb)).trans hc⟩
theorem Row.below {w w' : World} {B B' : Nat} {A : Option Addr} {l : List Bs} (h : Row w B A l) (hB : B ≤ B') (hb : Below B w w') : Row w' B' A l := h.keep hB fun _ hp => hb.cell hp
theorem Row.of_own {w : World} {base : Nat} {e : TypeId} {A : Option Addr} {n c : Nat} {l : List Bs} (h : w.ownsRow base e 1 (.slice A n c) n (l.map str)) : Row w w.heap.size A l ∧ n = l.length := by
  have hl : n = l.length := by have := h.1; simpa using this.symm
  refine ⟨fun i hi => ?_, hl⟩
  obtain ⟨g, cap, hv, hb, hlt⟩ := h.form (by omega)
  have hA : A = some ⟨g, 0, none⟩ := by injection hv
  subst hA
  exact ⟨_, rfl, hlt, h.cells (g := g) rfl i _ (by simp [List.getElem?_eq_getElem hi, List.getD_eq_getElem?_getD])⟩
theorem getD_past (l : List Bs) (i : Nat) (h : l.length ≤ i) : l.getD i [] = [] := by simp [List.getD_eq_getElem?_getD, List.getElem?_eq_none h]

set_option maxHeartbeats 400000 in
theorem partAt_any (w : World) {B : Nat} {A : Option Addr} {l : List Bs} (h : Row w B A l) (n cap i : Nat) (hn : n = l.length) (hm : n ≤ maxLen) (hi : i ≤ maxLen) :
    Calls Try.prog 91 #[.slice A n cap, .int .i64 i] w fun e w' => e = .returned (str (l.getD i [])) ∧ w = w' := by
  unfold maxLen at hm hi
  by_cases hlt : i < n
  · obtain ⟨ad, rfl, hb, hc⟩ := h i (by omega)
    obtain ⟨p, hp⟩ : ∃ p, p = l.getD i [] := ⟨_, rfl⟩
    rw [← hp] at hc ⊢
    clear hp hn
    have h1 : (i : Int) < (n : Int) := by omega
    go_enter Try.func91, Try.ntmps91
    go_wp2_with fail
    go_ret
    exact ⟨rfl, rfl⟩
  · have F := Lib.hid (getD_past l i (by omega))
    have h1 : (n : Int) ≤ (i : Int) := by omega
    clear hn hlt
    go_enter Try.func91, Try.ntmps91
    go_wp2_with fail
    go_ret
    exact ⟨by rw [F.out]; rfl, rfl⟩

set_option maxHeartbeats 400000 in
theorem at_any (w : World) {B : Nat} {A : Option Addr} {l : List Bs} (h : Row w B A l) (n cap i : Nat) (hn : n = l.length) (hm : n ≤ maxLen) (hi : i ≤ maxLen) :
    Calls Try.prog 54 #[.slice A n cap, .int .i64 i] w fun e w' => e = .returned (str (l.getD i [])) ∧ w = w' := by
  unfold maxLen at hm hi
  by_cases hlt : i < n
  · obtain ⟨ad, rfl, hb, hc⟩ := h i (by omega)
    obtain ⟨p, hp⟩ : ∃ p, p = l.getD i [] := ⟨_, rfl⟩
    rw [← hp] at hc ⊢
    clear hp hn
    have h1 : (i : Int) < (n : Int) := by omega
    go_enter Try.func54, Try.ntmps54
    go_wp2_with fail
    go_ret
    exact ⟨rfl, rfl⟩
  · have F := Lib.hid (getD_past l i (by omega))
    have h1 : (n : Int) ≤ (i : Int) := by omega
    clear hn hlt
    go_enter Try.func54, Try.ntmps54
    go_wp2_with fail
    go_ret
    exact ⟨by rw [F.out]; rfl, rfl⟩

theorem size_str (a : Bs) : (⟨a.toArray⟩ : ByteArray).size = a.length := by show a.toArray.size = _; simp
theorem place_list (a b : Bs) (w : World) (ha : a.length ≤ maxLen) (hb : b.length ≤ maxLen) : Calls Try.prog 90 #[str a, str b] w fun e w' => e = .returned (.int .i64 (cmpPart a b)) ∧ w = w' :=
  place_any ⟨a.toArray⟩ ⟨b.toArray⟩ w (by rw [size_str]; exact ha) (by rw [size_str]; exact hb)

theorem from_split (a b : List Bs) (n k : Nat) (h : k < n) : cmpFrom a b k (n - k) = orI (cmpPart (a.getD k []) (b.getD k [])) (cmpFrom a b (k + 1) (n - (k + 1))) := by
  rw [show n - k = (n - (k + 1)) + 1 by omega]; rfl
theorem from_end (a b : List Bs) (n : Nat) : cmpFrom a b n (n - n) = 0 := by rw [Nat.sub_self]; rfl

set_option maxHeartbeats 1000000 in
theorem parts_cmp (w : World) {B : Nat} {A A' : Option Addr} {a b : List Bs} (h1 : Row w B A a) (h2 : Row w B A' b) (n m cap cap' : Nat) (hn : n = a.length) (hm : m = b.length) (hn64 : n ≤ 64) (hm64 : m ≤ 64)
    (hla : ∀ i, (a.getD i []).length ≤ maxLen) (hlb : ∀ i, (b.getD i []).length ≤ maxLen) :
    Calls Try.prog 73 #[.slice A n cap, .slice A' m cap'] w fun e w' => e = .returned (.int .i64 (cmpParts a b)) ∧ w = w' := by
  have F0 : Hid (cmpParts a b = cmpFrom a b 0 (max n m - 0)) := Lib.hid (by rw [hn, hm]; rfl)
  have S := Lib.hid (from_split a b (max n m))
  have HN := Lib.hid hn
  have HM := Lib.hid hm
  have H1 := Lib.hid h1
  have H2 := Lib.hid h2
  have HLA := Lib.hid hla
  have HLB := Lib.hid hlb
  have mx1 : max n m ≤ 64 := by omega
  have hmx : max (n : Int) (m : Int) = ((max n m : Nat) : Int) := by omega
  obtain ⟨M, hM⟩ : ∃ M, M = max n m := ⟨_, rfl⟩
  rw [← hM] at F0 S mx1 hmx
  clear hn hm h1 h2 hla hlb hM
  go_enter Try.func73, Try.ntmps73
  go_wp2_with fail
  go_loopw [5, 6, 12] (fun _ _ v wr => ∃ k : Nat, v = .int .i64 k ∧ k ≤ M ∧ wr = w ∧ cmpParts a b = cmpFrom a b k (M - k)) (fun _ _ v _ => M - (intOf v).toNat)
  case atStart => exact ⟨0, rfl, Nat.zero_le _, rfl, F0.out⟩
  case round =>
    obtain ⟨k, rfl, hk, rfl, heq⟩ := hrel
    have HEQ := Lib.hid heq
    clear heq
    by_cases hlt : k < M
    · have hlt' : (k : Int) < (M : Int) := by omega
      have k64 : (k : Int) ≤ 64 := by omega
      have P0 := place_list (a.getD k []) (b.getD k []) wr (HLA.out k) (HLB.out k)
      have A0 := partAt_any wr H1.out n cap k HN.out (by unfold maxLen; omega) (by unfold maxLen; omega)
      have A1 := partAt_any wr H2.out m cap' k HM.out (by unfold maxLen; omega) (by unfold maxLen; omega)
      by_cases hz : cmpPart (a.getD k []) (b.getD k []) = 0
      · have NX : Hid (cmpParts a b = cmpFrom a b (k + 1) (M - (k + 1))) := Lib.hid (by rw [HEQ.out, S.out k hlt, hz]; simp [orI])
        rw [hz] at P0
        clear hz
        go_wp2_with fail
        go_at_call 91; refine A0.mono ?_; rintro e w' ⟨rfl, rfl⟩
        go_wp2_with fail
        go_at_call 91; refine A1.mono ?_; rintro e w' ⟨rfl, rfl⟩
        go_wp2_with fail
        go_at_call 90; refine P0.mono ?_; rintro e w' ⟨rfl, rfl⟩
        go_wp2_with fail
        go_roundw
        case rel => exact ⟨k + 1, by go_num, by omega, trivial, NX.out⟩
        case measure => simp [intOf]; omega
      · have hne : (cmpPart (a.getD k []) (b.getD k []) != 0) = true := by simpa using hz
        have F : Hid (cmpParts a b = cmpPart (a.getD k []) (b.getD k [])) := Lib.hid (by rw [HEQ.out, S.out k hlt, orI, if_pos hz])
        obtain ⟨c, hc⟩ : ∃ c, c = cmpPart (a.getD k []) (b.getD k []) := ⟨_, rfl⟩
        rw [← hc] at hne F P0
        clear hz hc
        go_wp2_with fail
        go_at_call 91; refine A0.mono ?_; rintro e w' ⟨rfl, rfl⟩
        go_wp2_with fail
        go_at_call 91; refine A1.mono ?_; rintro e w' ⟨rfl, rfl⟩
        go_wp2_with fail
        go_at_call 90; refine P0.mono ?_; rintro e w' ⟨rfl, rfl⟩
        go_wp2_with fail
        go_ret
        exact ⟨ret_int F.out.symm, rfl⟩
    · have e : k = M := by omega
      subst e
      have F : Hid (cmpParts a b = 0) := Lib.hid (by rw [HEQ.out]; exact from_end a b k)
      go_wp2_with fail
      go_ret
      exact ⟨ret_int F.out.symm, rfl⟩

end Go.Proofs.Ytccmgaibikiedaa.Ver
