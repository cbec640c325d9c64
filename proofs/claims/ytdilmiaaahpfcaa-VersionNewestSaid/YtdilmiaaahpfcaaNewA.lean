/- Newest: a copy, sorted stably. -/
import Derived.Test.YtdilmiaaahpfcaaStabG
import Derived.Test.YtdilmiaaahpfcaaVerLawA
import Derived.Test.YtdilmiaaahpfcaaShelf
namespace Go.Proofs.Ytdilmiaaahpfcaa.Newest
set_option linter.unusedVariables false
set_option linter.unusedSimpArgs false
open Go.RowKit Go.Shelf
open Go.Proofs.Ytdilmiaaahpfcaa.Ver (cmpV ord_v Ord Bs Row str bstep compare_any less_any)
open Go.Proofs.Ytdilmiaaahpfcaa.Stab

theorem cmp_ok : CMP := by
  intro x y W hx hy
  have C := Lib.hid (fun w => compare_any y x w hy hx)
  go_enter Try.func25, Try.ntmps25
  go_wp2_with fail
  go_at_call 13; refine (C.out W).mono ?_; rintro e w1 ⟨rfl, hb⟩
  have HB := Lib.hid hb
  clear hb
  go_wp2_with fail
  go_ret
  exact ⟨rfl, HB.out⟩

/-- a row of texts in memory. -/
def SRow (w : World) (B : Nat) (A : Option Addr) (l : List ByteArray) : Prop :=
  l = [] ∨ ∃ b o, A = some ⟨b, o, none⟩ ∧ b < B ∧ ∀ j, j < l.length → w.cell? ⟨b, o + j, none⟩ = some (.string (l.getD j ByteArray.empty))
theorem SRow.keep {w w' : World} {B B' : Nat} {A : Option Addr} {l : List ByteArray} (h : SRow w B A l) (hB : B ≤ B') (hk : ∀ p : Addr, p.block < B → w'.cell? p = w.cell? p) : SRow w' B' A l := by
  rcases h with h | ⟨b, o, e, hb, hc⟩
  · exact .inl h
  · exact .inr ⟨b, o, e, by omega, fun j hj => (hk _ hb).trans (hc j hj)⟩
theorem SRow.below {w w' : World} {B B' : Nat} {A : Option Addr} {l : List ByteArray} (h : SRow w B A l) (hB : B ≤ B') (hb : Below B w w') : SRow w' B' A l := h.keep hB fun _ hp => hb.cell hp
abbrev rowS (l : List ByteArray) : List Value := l.map Value.string
theorem rowS_one (l : List ByteArray) : ∀ u ∈ rowS l, u.oneCell' = true := by
  intro u hu
  obtain ⟨x, _, rfl⟩ := List.mem_map.1 hu
  rfl
abbrev bsL (l : List ByteArray) : List Bs := l.map fun s => s.data.toList
theorem bs_inj {a b : List ByteArray} : bsL a = bsL b ↔ a = b := by
  constructor
  · intro h
    have hi : Function.Injective (fun s : ByteArray => s.data.toList) := fun x y e => by
      cases x; cases y
      simp only [ByteArray.mk.injEq]
      exact Array.toList_inj.1 e
    exact (List.map_inj_right (fun x y e => hi e)).1 h
  · intro h; rw [h]
theorem add_at (b o k : Nat) : (⟨b, o, none⟩ : Addr).add k = ⟨b, o + k, none⟩ := by
  unfold Addr.add
  split
  · rename_i e; subst e; rfl
  · rfl
theorem SRow.row {w : World} {B : Nat} {A : Option Addr} {l : List ByteArray} (h : SRow w B A l) : Row w B A (bsL l) := by
  intro i hi
  have hi' : i < l.length := by simpa using hi
  rcases h with h | ⟨b, o, e, hb, hc⟩
  · rw [h] at hi'; simp at hi'
  · refine ⟨⟨b, o, none⟩, e, hb, ?_⟩
    rw [add_at, hc i hi']
    simp [List.getD_eq_getElem?_getD, hi', str]
theorem own_srow {w : World} {base n : Nat} {v : Value} {l : List ByteArray} (h : w.ownsRow base 9 1 v n (rowS l)) :
    ∃ A c, v = .slice A n c ∧ n = l.length ∧ n ≤ c ∧ c ≤ maxLen ∧ SRow w w.heap.size A l ∧ ∀ k, v.ownBlock = some k → base ≤ k ∧ k < w.heap.size := by
  have hl : n = l.length := by have := h.1; simpa using this.symm
  have hb := h.lt
  rcases h.2 with ⟨rfl, hk⟩ | ⟨g, cap, cur, rfl, hb', hh, hc, hm, hs, ht⟩
  · exact ⟨none, 0, by rw [hk], hl, by omega, by unfold maxLen; omega, .inl (List.length_eq_zero_iff.1 (by omega)), hb⟩
  · refine ⟨some ⟨g, 0, none⟩, cap, rfl, hl, hc, hm, .inr ⟨g, 0, rfl, lt_of_block hh, fun j hj => ?_⟩, hb⟩
    rw [Nat.zero_add]
    refine blk_cell hh ?_
    have e : (rowS l)[j]? = some (.string (l.getD j ByteArray.empty)) := by
      simp [List.getD_eq_getElem?_getD, hj]
    rw [← ht, List.getElem?_take, if_pos (by omega)] at e
    simpa using e
theorem cloneS_any (A : Option Addr) (l : List ByteArray) (n c : Nat) (w : World) (h : SRow w w.heap.size A l) (hn : n = l.length) (hm : n * 16 ≤ 140737488355328) :
    Calls Try.prog 23 #[.slice A n c] w fun e w' => ∃ v, e = .returned v ∧ w'.ownsRow w.heap.size 9 1 v n (rowS l) ∧ Below w.heap.size w w' := by
  cases A with
  | none =>
    have e : l = [] := by
      rcases h with h | ⟨_, _, h, _⟩
      · exact h
      · cases h
    subst e
    simp at hn
    subst hn
    exact (Try.slices_Clone_string_nil 0 c w).mono fun e w' ⟨h1, h2⟩ => ⟨_, h1, World.ownsRow_nil _ _ _ _, by rw [h2]; exact Below.refl _ _⟩
  | some a =>
    rcases h with h | ⟨b, o, e, hb, hc⟩
    · subst h
      simp at hn
      subst hn
      exact (Try.slices_Clone_string_zero a c w).mono fun e w' ⟨v, h1, h2, _, h4⟩ => ⟨v, h1, h2, h4⟩
    · injection e with e
      subst e
      have t := Try.slices_Clone_string b o n c l w (by omega) hm hc
      rw [hn, List.take_length, ← hn] at t
      exact t.mono fun e w' ⟨v, h1, h2, _, h4⟩ => ⟨v, h1, h2, h4⟩

set_option maxHeartbeats 2000000 in
theorem ins_zero (A : Option Addr) (c : Nat) (W : World) :
    Calls Try.prog 40 #[.slice A 0 c, .int .i64 0, .int .i64 0, cv] W fun e w' => e = .returned (.tuple #[]) ∧ w' = W := by
  go_enter Try.func40, Try.ntmps40
  go_wp2_with fail
  go_loopw [8, 9] (fun v _ wr => v = .int .i64 1 ∧ wr = W) (fun _ _ _ => 0)
  case atStart => exact ⟨rfl, rfl⟩
  case round =>
    obtain ⟨rfl, rfl⟩ := hrel
    go_wp2_with fail
    go_end0
    exact ⟨rfl, rfl⟩
set_option maxHeartbeats 2000000 in
theorem stable_zero (A : Option Addr) (c : Nat) (W : World) :
    Calls Try.prog 35 #[.slice A 0 c, .int .i64 0, cv] W fun e w' => e = .returned (.tuple #[]) ∧ w' = W := by
  have C := Lib.hid (ins_zero A c W)
  go_enter Try.func35, Try.ntmps35
  go_wp2_with fail
  go_loopw [7, 8] (fun u v wr => u = .int .i64 0 ∧ v = .int .i64 20 ∧ wr = W) (fun _ _ _ => 0)
  case atStart => exact ⟨rfl, rfl, rfl⟩
  case round =>
    obtain ⟨rfl, rfl, rfl⟩ := hrel
    go_wp2_with fail
    refine C.out.mono ?_
    rintro _ w1 ⟨rfl, rfl⟩
    go_wp2_with fail
    go_loopw [6, 7, 8, 9] (fun u _ _ _ wr => u = .int .i64 20 ∧ wr = w1) (fun _ _ _ _ _ => 0)
    case atStart => exact ⟨rfl, rfl⟩
    case round =>
      obtain ⟨rfl, rfl⟩ := hrel
      go_wp2_with fail
      go_end0
      exact ⟨rfl, rfl⟩
set_option maxHeartbeats 2000000 in
theorem sort_zero (A : Option Addr) (c : Nat) (W : World) :
    Calls Try.prog 24 #[.slice A 0 c, cv] W fun e w' => e = .returned (.tuple #[]) ∧ w' = W := by
  have C := Lib.hid (stable_zero A c W)
  go_enter Try.func24, Try.ntmps24
  go_wp2_with fail
  refine C.out.mono ?_
  rintro _ w1 ⟨rfl, rfl⟩
  go_wp2_with fail
  go_end0
  exact ⟨rfl, rfl⟩

theorem seg_list (l : List ByteArray) : seg (fun t => l.getD t ByteArray.empty) 0 l.length = l := by
  apply List.ext_getElem?
  intro i
  rcases Nat.lt_or_ge i l.length with h | h
  · rw [seg_at _ _ _ _ (by omega)]
    simp [List.getD_eq_getElem?_getD, h]
  · rw [List.getElem?_eq_none (by rw [seg_len]; omega), List.getElem?_eq_none h]
/-- the sort at a row that is the call's own. -/
theorem sort_any {w : World} {base n : Nat} {v : Value} {l : List ByteArray} (h : w.ownsRow base 9 1 v n (rowS l)) (hbase : base ≤ w.heap.size) (hn : n ≤ 1000) (hz : ∀ i, (l.getD i ByteArray.empty).size ≤ maxLen) :
    ∃ A c, v = .slice A n c ∧ Calls Try.prog 24 #[v, cv] w fun e w' => e = .returned (.tuple #[]) ∧ SRow w' w'.heap.size A (stab ltN l) ∧ (stab ltN l).length = n ∧ Below base w w' := by
  obtain ⟨A, c, rfl, hl, hc, hm, hr, hown⟩ := own_srow h
  refine ⟨A, c, rfl, ?_⟩
  rcases Nat.eq_zero_or_pos n with h0 | h0
  · subst h0
    have e : l = [] := List.length_eq_zero_iff.1 hl.symm
    subst e
    exact (sort_zero A c w).mono fun e w' ⟨h1, h2⟩ => ⟨h1, .inl rfl, rfl, by rw [h2]; exact Below.refl _ _⟩
  · obtain ⟨g, cap, e, hbg, hgs, _⟩ := owned_shape h h0
    injection e with e1 _ e2
    subst e1 e2
    have hcell : ∀ j, j < n → w.cell? ⟨g, j, none⟩ = some (.string (l.getD j ByteArray.empty)) := by
      rcases hr with hr | ⟨b, o, e, hb, hcc⟩
      · rw [hr] at hl; simp at hl; omega
      · injection e with e; injection e with e1 e2
        subst e1 e2
        intro j hj
        have := hcc j (by omega)
        rwa [Nat.zero_add] at this
    have hbr : BR w g n (fun t => l.getD t ByteArray.empty) := by
      rcases h.2 with ⟨e, _⟩ | ⟨g', cap', cur, e, _, hh, _⟩
      · cases e
      · injection e with e1 _ _; injection e1 with e1; injection e1 with e1 _
        subst e1
        refine ⟨cur, hh, fun t ht => ?_⟩
        have := hcell t ht
        simpa [World.cell?, hh] using this
    have hst : St base g n (fun t => l.getD t ByteArray.empty) w w := ⟨Below.refl _ _, hbr⟩
    refine (sortStable_any (cap := c) cmp_ok hst hbg hbase hn hz).mono ?_
    rintro e w' ⟨rfl, f', hs, hseg, _⟩
    have hsl : seg (fun t => l.getD t ByteArray.empty) 0 n = l := by rw [hl]; exact seg_list l
    rw [hsl] at hseg
    have hlen : (stab ltN l).length = n := by rw [← hseg, seg_len]; omega
    refine ⟨rfl, .inr ⟨g, 0, rfl, hs.row.lt, fun j hj => ?_⟩, hlen, hs.bel⟩
    rw [Nat.zero_add, hs.row.cell (by omega), ← hseg]
    have := seg_at f' 0 n j (by omega)
    rw [Nat.zero_add] at this
    rw [List.getD_eq_getElem?_getD, this]; rfl

set_option maxHeartbeats 2000000 in
theorem newest_any (A : Option Addr) (l : List ByteArray) (n c : Nat) (w : World) (h : SRow w w.heap.size A l) (hn : n = l.length) (hm : n ≤ 1000) (hz : ∀ i, (l.getD i ByteArray.empty).size ≤ maxLen) :
    Calls Try.prog 15 #[.slice A n c] w fun e w' => ∃ A' c', e = .returned (.slice A' n c') ∧ SRow w' w'.heap.size A' (stab ltN l) ∧ (stab ltN l).length = n ∧ Below w.heap.size w w' := by
  have CL := Lib.hid (cloneS_any A l n c w h hn (by omega))
  have SO := Lib.hid (fun (w1 : World) v (h : w1.ownsRow w.heap.size 9 1 v n (rowS l)) (hb : w.heap.size ≤ w1.heap.size) => sort_any h hb hm hz)
  clear h hn hm hz
  go_enter Try.func15, Try.ntmps15
  go_wp2_with fail
  go_at_call 23; refine CL.out.mono ?_; rintro e w1 ⟨v, rfl, hown, hb⟩
  obtain ⟨A', c', rfl, hs⟩ := SO.out w1 v hown hb.size
  have HS := Lib.hid hs
  have HB := Lib.hid hb
  clear hown hb hs
  go_wp2_with fail
  go_at_call 24; refine HS.out.mono ?_; rintro e w2 ⟨rfl, hr, hl, hb⟩
  have HR := Lib.hid hr
  have HL := Lib.hid hl
  have HB2 := Lib.hid hb
  clear hr hl hb
  go_wp2_with fail
  go_ret
  exact ⟨_, _, rfl, HR.out, HL.out, HB.out.trans HB2.out⟩

end Go.Proofs.Ytdilmiaaahpfcaa.Newest
