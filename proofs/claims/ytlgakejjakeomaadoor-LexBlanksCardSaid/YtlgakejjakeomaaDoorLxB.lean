/- Lines of words: a text in lines, and the library's iterator over them. -/
import Derived.Test.YtlgakejjakeomaaDoorLxA
import Derived.Test.YtlgakejjakeomaaDoorShelf
import Derived.Lib.IndexLaws
import Derived.RangeFuncNested
import Derived.RangeFuncBound
import Derived.RangeFuncCalls
import Derived.RangeFuncLeaves
import Derived.Shelf.Abstract
import Derived.Shelf.RegionOpen
import Derived.OwnWalkIn
import Derived.TacticsInMore
import Derived.LoopNIn
import Derived.LoopIn
import Derived.RegionTactic
import Derived.Deep.Draws
namespace Go.Proofs.YtlgakejjakeomaaDoor.Lx
set_option linter.unusedVariables false
set_option linter.unusedSimpArgs false
open Go.RowKit Go.Shelf
attribute [local go_sem] Oper.semAt_some

def cutAt (d : UInt8) : Bs → List Bs
  | [] => [[]]
  | c :: s => if c = d then [] :: cutAt d s else match cutAt d s with
    | [] => [[c]]
    | p :: ps => (c :: p) :: ps
theorem cut_cons (d c : UInt8) (s : Bs) : cutAt d (c :: s) = if c = d then [] :: cutAt d s else match cutAt d s with
    | [] => [[c]]
    | p :: ps => (c :: p) :: ps := rfl
theorem cutAt_ne (d : UInt8) (s : Bs) : ∃ p ps, cutAt d s = p :: ps := by
  cases s with
  | nil => exact ⟨_, _, rfl⟩
  | cons c s =>
    unfold cutAt
    split
    · exact ⟨_, _, rfl⟩
    · split
      · exact ⟨_, _, rfl⟩
      · exact ⟨_, _, rfl⟩
theorem cut_none (d : UInt8) (s : Bs) (h : d ∉ s) : cutAt d s = [s] := by
  induction s with
  | nil => rfl
  | cons c s ih =>
    have h1 : ¬ c = d := fun e => h (by simp [e])
    have h2 : d ∉ s := fun e => h (by simp [e])
    unfold cutAt
    rw [if_neg h1, ih h2]
theorem cut_at (d : UInt8) (p r : Bs) (h : d ∉ p) : cutAt d (p ++ d :: r) = p :: cutAt d r := by
  induction p with
  | nil => simp [cutAt]
  | cons c p ih =>
    have h1 : ¬ c = d := fun e => h (by simp [e])
    have h2 : d ∉ p := fun e => h (by simp [e])
    simp only [List.cons_append]
    rw [cut_cons, if_neg h1, ih h2]
theorem cut_length (d : UInt8) (s : Bs) : (cutAt d s).length ≤ s.length + 1 := by
  induction s with
  | nil => simp [cutAt]
  | cons c s ih =>
    obtain ⟨p, ps, e⟩ := cutAt_ne d s
    unfold cutAt
    by_cases h : c = d
    · rw [if_pos h]; simpa using ih
    · rw [if_neg h, e]
      rw [e] at ih
      simp at ih ⊢; omega
theorem none_of {s : Bs} {c : UInt8} (h : Lib.indexByte s c = -1) : c ∉ s := fun hm => by
  obtain ⟨k, hk⟩ := List.getElem?_of_mem hm
  exact Lib.indexByte_none h k hk
theorem hit_of {s : Bs} {c : UInt8} {i : Nat} (h : Lib.indexByte s c = i) : i < s.length ∧ s = s.take i ++ c :: s.drop (i + 1) ∧ c ∉ s.take i := by
  obtain ⟨h1, h2⟩ := Lib.indexByte_some h
  have hi : i < s.length := (List.getElem?_eq_some_iff.1 h1).1
  refine ⟨hi, ?_, fun hm => ?_⟩
  · conv => lhs; rw [← List.take_append_drop i s, List.drop_eq_getElem_cons hi]
    rw [List.getElem?_eq_getElem hi] at h1
    simp at h1
    rw [h1]
  · obtain ⟨k, hk⟩ := List.getElem?_of_mem hm
    have hk2 : k < i := by
      have := (List.getElem?_eq_some_iff.1 hk).1
      rw [List.length_take] at this; omega
    rw [List.getElem?_take, if_pos hk2] at hk
    exact h2 k hk2 hk
theorem size_l (s : ByteArray) : s.size = s.data.toList.length := Lib.size_eq s
theorem ext_list (s : ByteArray) (i j : Nat) : (s.extract i j).data.toList = (s.data.toList.drop i).take (j - i) := by rw [Lib.extract_data]
theorem ext0 (s : ByteArray) (i : Nat) : (s.extract 0 i).data.toList = s.data.toList.take i := by rw [ext_list]; simp
theorem extR (s : ByteArray) (i : Nat) : (s.extract i s.size).data.toList = s.data.toList.drop i := by
  rw [ext_list, List.take_of_length_le]
  rw [List.length_drop, Lib.size_eq]; omega

/-- how much of the text is left in the iterator's box. -/
def leftAt (x : Nat) (w : World) : Nat := match w.cell? ⟨x, 0, none⟩ with | some (.string s) => s.size | _ => 0
theorem left_of {x : Nat} {w : World} {s : ByteArray} (h : w.cell? ⟨x, 0, none⟩ = some (.string s)) : leftAt x w = s.size := by unfold leftAt; rw [h]

set_option maxRecDepth 100000 in
set_option maxHeartbeats 2000000 in
theorem iter_any (l x : Nat) (s : ByteArray) (hs : s.size ≤ 100000) (J : List Bs → ByteArray → World → Prop) (Jx : List Bs → World → Prop)
    (hJ : ∀ pre c W, J pre c W → W.cell? ⟨x, 0, none⟩ = some (.string c) ∧ W.frozen? ⟨x, 0, none⟩ = false ∧ W.cell? ⟨x + 1, 0, none⟩ = some (.string ⟨#[10]⟩) ∧ W.cell? ⟨x + 1 + 1, 0, none⟩ = some (.int .i64 0))
    (hD : ∀ pre c W n, J pre c W → J pre c (W.drewN n))
    (hS : ∀ pre c W c', J pre c W → J pre c' (W.setCell ⟨x, 0, none⟩ (.string c')))
    (hY : ∀ pre c (p : ByteArray) W, J pre c W → p.size ≤ 100000 → pre.length ≤ 100001 → YieldAt Fence.wide 9 Tryd.prog l #[.string p] W fun e W' =>
      (e = .returned (.bool true) ∧ J (pre ++ [p.data.toList]) c W') ∨ (e = .returned (.bool false) ∧ Jx (pre ++ [p.data.toList]) W'))
    (W : World) (h0 : J [] s W) :
    CallsIn Fence.wide 10 Tryd.prog 45 #[.func (.yield l) #[] #[], .pointer (some ⟨x + 1, 0, none⟩), .pointer (some ⟨x, 0, none⟩), .pointer (some ⟨x + 1 + 1, 0, none⟩)] W fun e W' => (∃ v, e = .returned v) ∧
      ((∃ c, J (cutAt 10 s.data.toList) c W') ∨ (∃ pre, pre <+: cutAt 10 s.data.toList ∧ Jx pre W')) := by
  refine callsIn_of_wp Tryd.func45 rfl trivial ?_ rfl
  simp only [Tryd.ntmps45, List.size_toArray, List.length_cons, List.length_nil, Nat.reduceAdd, Nat.reduceSub, Array.replicate_succ, Array.replicate_zero, List.push_toArray, List.append_toArray, List.nil_append, List.cons_append]
  obtain ⟨k1, k2, k3, k4⟩ := hJ _ _ _ h0
  gi_wp2
  clear k1 k2 k3 k4
  gi_loopw [7, 8] (fun _ _ wr => ∃ pre c, J pre c wr ∧ cutAt 10 s.data.toList = pre ++ cutAt 10 c.data.toList ∧ c.size ≤ 100000 ∧ pre.length + c.size ≤ s.size) (fun _ _ wr => leftAt x wr)
  case atStart => exact ⟨[], s, h0, rfl, hs, by simp⟩
  case round =>
    obtain ⟨pre, c, hj, hcut, hc, hpc⟩ := hrel
    have HCUT := Lib.hid hcut
    clear hcut
    have HJ := Lib.hid hj
    obtain ⟨hcell, hfr, hcs, hcv⟩ := hJ _ _ _ hj
    have HL := Lib.hid (left_of hcell)
    have IX := Lib.hid (Tryd.strings_Index_one c 10 wr)
    clear hj
    rcases Int.lt_or_le (Lib.indexByte c.data.toList 10) 0 with hix | hix
    · have ge := Lib.indexByte_ge c.data.toList 10
      have e : Lib.indexByte c.data.toList 10 = -1 := by omega
      have HN := Lib.hid (cut_none 10 _ (none_of e))
      have IE : Hid (Lib.indexByte c.data.toList 10 = -1) := Lib.hid e
      clear hix ge e
      gi_wp2_with (refine ⟨trivial, ?_⟩; gi_at_call 47; refine (callsIn_wide.2 IX.out).mono ?_; rintro e w' ⟨rfl, hw'⟩; obtain rfl := hw'; rw [IE.out]; obtain ⟨fn, tmps, assign, body, hy, hR⟩ := hY pre c c _ HJ.out hc (by omega))
      refine hR.mono ?_
      rintro e W3 (⟨rfl, hJ3⟩ | ⟨rfl, hJx3⟩)
      · have HJ3 := Lib.hid hJ3
        clear hJ3
        gi_wp2
        go_end0
        exact ⟨⟨_, rfl⟩, .inl ⟨c, by rw [HCUT.out, HN.out]; exact HJ3.out⟩⟩
      · have HJ3 := Lib.hid hJx3
        clear hJx3
        gi_wp2
        go_end0
        exact ⟨⟨_, rfl⟩, .inr ⟨_, by rw [HCUT.out, HN.out]; exact List.prefix_rfl, HJ3.out⟩⟩
    · obtain ⟨i, hi⟩ : ∃ i : Nat, Lib.indexByte c.data.toList 10 = i := ⟨_, (Int.toNat_of_nonneg hix).symm⟩
      have IE : Hid (Lib.indexByte c.data.toList 10 = (i : Int)) := Lib.hid hi
      obtain ⟨hi1, hi2, hi3⟩ := hit_of hi
      rw [← size_l] at hi1
      obtain ⟨rb, hrb⟩ : ∃ rb : ByteArray, rb = c.extract (i + 1) c.size := ⟨_, rfl⟩
      have HN : Hid (cutAt 10 c.data.toList = (c.extract 0 i).data.toList :: cutAt 10 rb.data.toList) := Lib.hid (by
        rw [hrb, ext0, extR]
        conv => lhs; rw [hi2]
        exact cut_at 10 _ _ hi3)
      have RS : Hid (rb.size + (i + 1) = c.size) := Lib.hid (by rw [hrb, size_l, extR, List.length_drop, ← size_l]; omega)
      have PS : Hid ((c.extract 0 i).size ≤ 100000) := Lib.hid (by rw [size_l, ext0, List.length_take, ← size_l]; omega)
      have i0 : (0 : Int) ≤ (i : Int) := by omega
      have i1 : (i : Int) ≤ (c.size : Int) := by omega
      have i2 : (i : Int) + 1 ≤ (c.size : Int) := by omega
      have i3 : (i : Int) ≤ 100000 := by omega
      have RB := Lib.hid hrb
      clear hix hi hi1 hi2 hi3
      gi_wp2_with (refine ⟨trivial, ?_⟩; gi_at_call 47; refine (callsIn_wide.2 IX.out).mono ?_; rintro e w' ⟨rfl, hw'⟩; obtain rfl := hw'; rw [IE.out]; obtain ⟨fn, tmps, assign, body, hy, hR⟩ := hY pre c (c.extract 0 i) w' HJ.out PS.out (by have := RS.out; omega))
      refine hR.mono ?_
      rintro e W3 (⟨rfl, hJ3⟩ | ⟨rfl, hJx3⟩)
      · have HJ3 := Lib.hid hJ3
        obtain ⟨hcell3, hfr3, hcs3, hcv3⟩ := hJ _ _ _ hJ3
        clear hJ3
        have HJ4 := Lib.hid (hS _ _ _ rb HJ3.out)
        have HL4 := Lib.hid (left_of (hJ _ _ _ HJ4.out).1)
        have HJ5 : Hid (J (pre ++ [(c.extract 0 i).data.toList]) rb (W3.setCell ⟨x, 0, none⟩ (.string (c.extract (i + 1) c.size)))) := Lib.hid (by rw [← RB.out]; exact HJ4.out)
        gi_wp2
        go_roundw
        case rel => exact ⟨pre ++ [(c.extract 0 i).data.toList], rb, HJ5.out, by rw [HCUT.out, HN.out]; simp, by have := RS.out; omega, by have := RS.out; simp; omega⟩
        case measure =>
          have e := HL4.out
          rw [RB.out] at e
          rw [e, HL.out, ← RB.out]
          have := RS.out; omega
      · have HJ3 := Lib.hid hJx3
        clear hJx3
        gi_wp2
        refine bodyPost_ret (results_none rfl _ _ _) rfl ?_
        exact ⟨⟨_, rfl⟩, .inr ⟨_, by rw [HCUT.out, HN.out]; exact ⟨cutAt 10 rb.data.toList, by simp⟩, HJ3.out⟩⟩

end Go.Proofs.YtlgakejjakeomaaDoor.Lx
