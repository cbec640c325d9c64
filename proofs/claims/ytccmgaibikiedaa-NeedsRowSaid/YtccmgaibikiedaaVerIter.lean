/- The program's parts of a text: the library's cut at one sign, and the iterator. -/
import Derived.Test.YtccmgaibikiedaaVerWalkD
import Derived.RangeFuncNested
import Derived.RangeFuncBound
import Derived.RangeFuncCalls
import Derived.RangeFuncLeaves
import Derived.Shelf.Abstract
import Derived.Shelf.RegionOpen
import Derived.OwnWalkIn
import Derived.TacticsInMore
import Derived.LoopNIn
import Derived.LoopIn
import Derived.RegionTactic
import Derived.Deep.Draws
namespace Go.Proofs.Ytccmgaibikiedaa.Ver
set_option linter.unusedVariables false
set_option linter.unusedSimpArgs false
open Go.RowKit Go.Shelf
attribute [local go_sem] Oper.semAt_some

theorem index_none (l : Bs) (c : UInt8) (h : c ∉ l) : Lib.indexByte l c = -1 := by
  induction l with
  | nil => rfl
  | cons b l ih =>
    have h1 : (b == c) = false := by simp; rintro rfl; simp at h
    have h2 : c ∉ l := fun e => h (by simp [e])
    simp [Lib.indexByte, h1, ih h2]
theorem index_at (p r : Bs) (c : UInt8) (h : c ∉ p) : Lib.indexByte (p ++ c :: r) c = p.length := by
  induction p with
  | nil => simp [Lib.indexByte]
  | cons b p ih =>
    have h1 : (b == c) = false := by simp; rintro rfl; simp at h
    have h2 : c ∉ p := fun e => h (by simp [e])
    have e := ih h2
    have hne : (Lib.indexByte (p ++ c :: r) c == -1) = false := by rw [e]; exact beq_eq_false_iff_ne.2 (by omega)
    simp only [List.cons_append, Lib.indexByte, h1, hne, e]
    simp
theorem split_at (l : Bs) (c : UInt8) : c ∉ l ∨ ∃ p r, l = p ++ c :: r ∧ c ∉ p := by
  induction l with
  | nil => exact .inl (by simp)
  | cons b l ih =>
    by_cases h : b = c
    · exact .inr ⟨[], l, by simp [h], by simp⟩
    · rcases ih with h1 | ⟨p, r, e, h1⟩
      · refine .inl ?_
        simp only [List.mem_cons, not_or]
        exact ⟨fun e => h e.symm, h1⟩
      · refine .inr ⟨b :: p, r, by simp [e], ?_⟩
        simp only [List.mem_cons, not_or]
        exact ⟨fun e => h e.symm, h1⟩

theorem str_of (s : ByteArray) : str s.data.toList = .string s := rfl

set_option maxHeartbeats 400000 in
theorem cut_miss0 (s : ByteArray) (c : UInt8) (w : World) (h : c ∉ s.data.toList) : Calls Try.prog 120 #[.string s, .string ⟨#[c]⟩] w fun e w' => e = .returned (.tuple #[.string s, .string ⟨#[]⟩, .bool false]) ∧ w = w' := by
  have I := Lib.hid (index_none s.data.toList c h)
  clear h
  go_enter Try.func120, Try.ntmps120
  go_wp2_with fail
  go_at_call 128; refine (Try.stringslite_Index_one _ _ _).mono ?_; rintro e w' ⟨rfl, rfl⟩; rw [I.out]
  go_wp2_with fail
  go_ret3
  exact ⟨rfl, rfl⟩
set_option maxHeartbeats 1000000 in
theorem cut_hit0 (s : ByteArray) (p r : Bs) (c : UInt8) (w : World) (hs : s.data.toList = p ++ c :: r) (h : c ∉ p) (hl : s.size ≤ 1000000) : Calls Try.prog 120 #[.string s, .string ⟨#[c]⟩] w fun e w' => e = .returned (.tuple #[str p, str r, .bool true]) ∧ ∃ n, w' = w.drewN n := by
  obtain ⟨k, hk⟩ : ∃ k, k = p.length := ⟨_, rfl⟩
  have hsz : s.size = (p ++ c :: r).length := by rw [← hs, len_list]
  simp only [List.length_append, List.length_cons] at hsz
  have E1 : Hid (Value.string (s.extract 0 k) = str p) := Lib.hid (by rw [str_extract, hs, hk]; simp)
  have E2 : Hid (Value.string (s.extract (k + 1) s.size) = str r) := Lib.hid (by rw [str_extract, hsz, hs, hk]; simp; exact List.take_of_length_le (by omega))
  have I2 : Hid (Lib.indexByte s.data.toList c = (k : Int)) := Lib.hid (by rw [hs, hk]; exact index_at p r c h)
  have c1 : (0 : Int) ≤ (k : Int) := by omega
  have c2 : (k : Int) ≤ (s.size : Int) := by omega
  have c3 : (k : Int) + 1 ≤ (s.size : Int) := by omega
  have c4 : (s.size : Int) ≤ 1000000 := by omega
  clear hk hsz hl h hs
  go_enter Try.func120, Try.ntmps120
  go_wp2_with fail
  go_at_call 128; refine (Try.stringslite_Index_one _ _ _).mono ?_; rintro e w' ⟨rfl, rfl⟩; rw [I2.out]
  go_wp2_with fail
  go_region
  go_wp2_with fail
  go_ret3
  refine ⟨?_, 1, rfl⟩
  rw [← E1.out, ← E2.out]; rfl

set_option maxHeartbeats 400000 in
theorem cut_miss (s : ByteArray) (c : UInt8) (w : World) (h : c ∉ s.data.toList) : Calls Try.prog 101 #[.string s, .string ⟨#[c]⟩] w fun e w' => e = .returned (.tuple #[.string s, .string ⟨#[]⟩, .bool false]) ∧ w = w' := by
  go_enter Try.func101, Try.ntmps101
  go_wp2_with fail
  go_at_call 120; refine (cut_miss0 _ _ _ h).mono ?_; rintro e w' ⟨rfl, rfl⟩
  go_wp2_with fail
  go_ret3
  exact ⟨rfl, rfl⟩
set_option maxHeartbeats 400000 in
theorem cut_hit (s : ByteArray) (p r : Bs) (c : UInt8) (w : World) (hs : s.data.toList = p ++ c :: r) (h : c ∉ p) (hl : s.size ≤ 1000000) : Calls Try.prog 101 #[.string s, .string ⟨#[c]⟩] w fun e w' => e = .returned (.tuple #[str p, str r, .bool true]) ∧ ∃ n, w' = w.drewN n := by
  have HS := Lib.hid hs
  clear hs
  go_enter Try.func101, Try.ntmps101
  go_wp2_with fail
  go_at_call 120; refine (cut_hit0 _ p r _ _ HS.out h hl).mono ?_; rintro e w' ⟨rfl, n, rfl⟩
  go_wp2_with fail
  go_ret3
  exact ⟨rfl, n, rfl⟩

theorem cut_hitB (s p r : ByteArray) (c : UInt8) (w : World) (hs : s.data.toList = p.data.toList ++ c :: r.data.toList) (h : c ∉ p.data.toList) (hl : s.size ≤ 1000000) : Calls Try.prog 101 #[.string s, .string ⟨#[c]⟩] w fun e w' => e = .returned (.tuple #[.string p, .string r, .bool true]) ∧ ∃ n, w' = w.drewN n :=
  cut_hit s p.data.toList r.data.toList c w hs h hl

/-! ### the iterator -/
/-- how much of the text is left in the iterator's box. -/
def leftAt (x : Nat) (w : World) : Nat := match w.cell? ⟨x, 0, none⟩ with | some (.string s) => s.size | _ => 0
theorem left_of {x : Nat} {w : World} {s : ByteArray} (h : w.cell? ⟨x, 0, none⟩ = some (.string s)) : leftAt x w = s.size := by unfold leftAt; rw [h]

set_option maxRecDepth 100000 in
set_option maxHeartbeats 1000000 in
theorem iter_any (l x : Nat) (s : ByteArray) (hs : s.size ≤ 1000000) (J : List Bs → ByteArray → World → Prop) (Jx : List Bs → World → Prop)
    (hJ : ∀ pre c W, J pre c W → W.cell? ⟨x, 0, none⟩ = some (.string c) ∧ W.frozen? ⟨x, 0, none⟩ = false)
    (hD : ∀ pre c W n, J pre c W → J pre c (W.drewN n))
    (hS : ∀ pre c W c', J pre c W → J pre c' (W.setCell ⟨x, 0, none⟩ (.string c')))
    (hY : ∀ pre c (p : ByteArray) W, J pre c W → p.size ≤ 1000000 → pre.length ≤ 1000000 → YieldAt Fence.wide 9 Try.prog l #[.string p] W fun e W' =>
      (e = .returned (.bool true) ∧ J (pre ++ [p.data.toList]) c W') ∨ (e = .returned (.bool false) ∧ Jx (pre ++ [p.data.toList]) W'))
    (W : World) (h0 : J [] s W) :
    CallsIn Fence.wide 10 Try.prog 100 #[.func (.yield l) #[] #[], .pointer (some ⟨x, 0, none⟩)] W fun e W' => (∃ v, e = .returned v) ∧
      ((∃ c, J (cutAt 46 s.data.toList) c W') ∨ (∃ pre, pre <+: cutAt 46 s.data.toList ∧ Jx pre W')) := by
  refine callsIn_of_wp Try.func100 rfl trivial ?_ rfl
  simp only [Try.ntmps100, List.size_toArray, List.length_cons, List.length_nil, Nat.reduceAdd, Nat.reduceSub, Array.replicate_succ, Array.replicate_zero, List.push_toArray, List.append_toArray, List.nil_append, List.cons_append]
  gi_wp2
  gi_loopw [3] (fun _ wr => ∃ pre c, J pre c wr ∧ cutAt 46 s.data.toList = pre ++ cutAt 46 c.data.toList ∧ c.size ≤ 1000000 ∧ pre.length + c.size ≤ s.size) (fun _ wr => leftAt x wr)
  case atStart => exact ⟨[], s, h0, rfl, hs, by simp⟩
  case round =>
    obtain ⟨pre, c, hj, hcut, hc, hpc⟩ := hrel
    have HCUT := Lib.hid hcut
    clear hcut
    have HJ := Lib.hid hj
    obtain ⟨hcell, hfr⟩ := hJ _ _ _ hj
    have HL := Lib.hid (left_of hcell)
    clear hj
    rcases split_at c.data.toList 46 with hno | ⟨p, r, hpr, hno⟩
    · have HN := Lib.hid (cut_none 46 _ hno)
      have C := cut_miss c 46 wr hno
      obtain ⟨fn, tmps, assign, body, hy, hR⟩ := hY pre c c wr HJ.out hc (by omega)
      clear hno
      gi_wp2_with (refine ⟨trivial, ?_⟩; gi_at_call 101; refine (callsIn_wide.2 C).mono ?_; rintro e w' ⟨rfl, rfl⟩)
      refine hR.mono ?_
      rintro e W3 (⟨rfl, hJ3⟩ | ⟨rfl, hJx3⟩)
      · have HJ3 := Lib.hid hJ3
        clear hJ3
        gi_wp2
        refine bodyPost_ret (results_none rfl _ _ _) rfl ?_
        exact ⟨⟨_, rfl⟩, .inl ⟨c, by rw [HCUT.out, HN.out]; exact HJ3.out⟩⟩
      · have HJ3 := Lib.hid hJx3
        clear hJx3
        gi_wp2
        refine bodyPost_ret (results_none rfl _ _ _) rfl ?_
        exact ⟨⟨_, rfl⟩, .inr ⟨_, by rw [HCUT.out, HN.out]; exact List.prefix_rfl, HJ3.out⟩⟩
    · obtain ⟨pb, hpb⟩ : ∃ pb : ByteArray, pb.data.toList = p := ⟨⟨p.toArray⟩, rfl⟩
      obtain ⟨rb, hrb⟩ : ∃ rb : ByteArray, rb.data.toList = r := ⟨⟨r.toArray⟩, rfl⟩
      rw [← hpb, ← hrb] at hpr
      rw [← hpb] at hno
      have HN : Hid (cutAt 46 c.data.toList = pb.data.toList :: cutAt 46 rb.data.toList) := Lib.hid (by rw [hpr]; exact cut_at 46 _ _ hno)
      have C := cut_hitB c pb rb 46 wr hpr hno hc
      have hsz : c.size = pb.size + (rb.size + 1) := by rw [← len_list c, hpr]; simp
      clear hpr hno hpb hrb
      gi_wp2_with (refine ⟨trivial, ?_⟩; gi_at_call 101; refine (callsIn_wide.2 C).mono ?_; rintro e w' ⟨rfl, nd, rfl⟩; have HJ1 := Lib.hid (hD _ _ _ nd HJ.out); obtain ⟨fn, tmps, assign, body, hy, hR⟩ := hY pre c pb _ HJ1.out (by omega) (by omega))
      refine hR.mono ?_
      rintro e W3 (⟨rfl, hJ3⟩ | ⟨rfl, hJx3⟩)
      · have HJ3 := Lib.hid hJ3
        obtain ⟨hcell3, hfr3⟩ := hJ _ _ _ hJ3
        clear hJ3
        have HJ4 := Lib.hid (hS _ _ _ rb HJ3.out)
        have HL4 := Lib.hid (left_of (hJ _ _ _ HJ4.out).1)
        gi_wp2
        go_roundw
        case rel => exact ⟨pre ++ [pb.data.toList], rb, HJ4.out, by rw [HCUT.out, HN.out]; simp, by omega, by simp; omega⟩
        case measure => rw [HL4.out, HL.out]; omega
      · have HJ3 := Lib.hid hJx3
        clear hJx3
        gi_wp2
        refine bodyPost_ret (results_none rfl _ _ _) rfl ?_
        exact ⟨⟨_, rfl⟩, .inr ⟨_, by rw [HCUT.out, HN.out]; exact ⟨cutAt 46 rb.data.toList, by simp⟩, HJ3.out⟩⟩

end Go.Proofs.Ytccmgaibikiedaa.Ver
