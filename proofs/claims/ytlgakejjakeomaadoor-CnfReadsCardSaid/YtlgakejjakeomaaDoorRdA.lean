/- Texts of clauses: cutting at a sign, in pieces at a sign. -/
import Derived.Test.YtlgakejjakeomaaDoorShelf
import Derived.Test.YtlgakejjakeomaaDoorOrderA
import Derived.Test.YtlgakejjakeomaaDoorOrderOpen
import Derived.Lib.CutLaws
import Derived.Lib.IndexLaws
import Derived.Lib.SplitLaws
import Derived.Shelf.Strings.SplitCore
import Derived.RegionTactic
namespace Go.Proofs.YtlgakejjakeomaaDoor.Rd
set_option linter.unusedVariables false
set_option linter.unusedSimpArgs false
open Go.RowKit
abbrev Bs := List UInt8
theorem hit_split {s : Bs} {c : UInt8} {i : Nat} (h : Lib.indexByte s c = i) : i < s.length ∧ s = s.take i ++ c :: s.drop (i + 1) := by
  obtain ⟨h1, _⟩ := Lib.indexByte_some h
  have hi : i < s.length := (List.getElem?_eq_some_iff.1 h1).1
  refine ⟨hi, ?_⟩
  conv => lhs; rw [← List.take_append_drop i s, List.drop_eq_getElem_cons hi]
  rw [List.getElem?_eq_getElem hi] at h1
  simp at h1
  rw [h1]
theorem ext_list (s : ByteArray) (i j : Nat) : (s.extract i j).data.toList = (s.data.toList.drop i).take (j - i) := by rw [Lib.extract_data]
theorem ext0 (s : ByteArray) (i : Nat) : (s.extract 0 i).data.toList = s.data.toList.take i := by rw [ext_list]; simp
theorem extR (s : ByteArray) (i : Nat) : (s.extract i s.size).data.toList = s.data.toList.drop i := by
  rw [ext_list, List.take_of_length_le]
  rw [List.length_drop, Lib.size_eq]; omega
theorem size_l (s : ByteArray) : s.size = s.data.toList.length := Lib.size_eq s
theorem ba_eq {a b : ByteArray} (h : a.data.toList = b.data.toList) : a = b := by
  cases a; cases b
  congr 1
  exact Array.ext' h

/-- what a cut gives. -/
def CutEnd (s : ByteArray) (c : UInt8) (w : World) (e : Ending) (w' : World) : Prop :=
  ∃ (a r : ByteArray) (f : Bool), e = .returned (.tuple #[.string a, .string r, .bool f]) ∧ (∃ n, w' = w.drewN n) ∧ a.size ≤ s.size ∧ r.size ≤ s.size ∧ (f = true → s.data.toList = a.data.toList ++ c :: r.data.toList ∧ r.size < s.size)
set_option maxHeartbeats 1000000 in
theorem lcut_any (s : ByteArray) (c : UInt8) (hs : s.size ≤ 3000) (w : World) : Calls Tryd.prog 40 #[.string s, .string ⟨#[c]⟩] w (CutEnd s c w) := by
  have hm : (s.size : Int) ≤ 3000 := by omega
  have sz1 : (⟨#[c]⟩ : ByteArray).size = 1 := rfl
  rcases Int.lt_or_le (Lib.indexByte s.data.toList c) 0 with h | h
  · have ge := Lib.indexByte_ge s.data.toList c
    have e : Lib.indexByte s.data.toList c = -1 := by omega
    have I : Hid (Lib.indexByte s.data.toList c = -1) := Lib.hid e
    clear h e ge
    go_enter Tryd.func40, Tryd.ntmps40
    go_wp2_with fail
    go_at_call 51; refine (Tryd.stringslite_Index_one _ _ _).mono ?_; rintro e w' ⟨rfl, rfl⟩; rw [I.out]
    go_wp2_with fail
    go_ret3
    exact ⟨_, _, _, rfl, ⟨0, rfl⟩, Nat.le_refl _, Nat.zero_le _, fun h => by cases h⟩
  · obtain ⟨i, hi⟩ : ∃ i : Nat, Lib.indexByte s.data.toList c = i := ⟨_, (Int.toNat_of_nonneg h).symm⟩
    have I : Hid (Lib.indexByte s.data.toList c = i) := Lib.hid hi
    obtain ⟨hlt, hsp⟩ := hit_split hi
    rw [← size_l] at hlt
    have SP := Lib.hid hsp
    have c1 : (0 : Int) ≤ (i : Int) := by omega
    have c2 : (i : Int) ≤ (s.size : Int) := by omega
    have c3 : (0 : Int) ≤ (i : Int) + 1 := by omega
    have c4 : (i : Int) + 1 ≤ (s.size : Int) := by omega
    have i3 : (i : Int) ≤ 3000 := by omega
    have LT := Lib.hid hlt
    clear h hi hsp hlt hs
    go_enter Tryd.func40, Tryd.ntmps40
    go_wp2_with fail
    go_at_call 51; refine (Tryd.stringslite_Index_one _ _ _).mono ?_; rintro e w' ⟨rfl, rfl⟩; rw [I.out]
    go_wp2_with fail
    go_region
    go_wp2_with fail
    go_ret3
    refine ⟨_, _, _, rfl, ⟨1, rfl⟩, ?_, ?_, fun _ => ⟨?_, ?_⟩⟩
    · rw [size_l, ext0, List.length_take, ← size_l]; omega
    · rw [size_l, extR, List.length_drop, ← size_l]; omega
    · rw [ext0, extR]; exact SP.out
    · rw [size_l, extR, List.length_drop, ← size_l]; have := LT.out; omega
set_option maxHeartbeats 1000000 in
theorem cut_any (s : ByteArray) (c : UInt8) (hs : s.size ≤ 3000) (w : World) : Calls Tryd.prog 28 #[.string s, .string ⟨#[c]⟩] w (CutEnd s c w) := by
  have C := Lib.hid (lcut_any s c hs w)
  clear hs
  go_enter Tryd.func28, Tryd.ntmps28
  go_wp2_with fail
  go_at_call 40; refine C.out.mono ?_; rintro e w' ⟨a, r, f, rfl, hw, h1, h2, h3⟩
  have R := Lib.hid (show CutEnd s c w (.returned (.tuple #[.string a, .string r, .bool f])) w' from ⟨a, r, f, rfl, hw, h1, h2, h3⟩)
  clear hw h1 h2 h3
  go_wp2_with fail
  go_ret3
  exact R.out

/-! ### in pieces -/
def joinL (c : UInt8) : List Bs → Bs
  | [] => []
  | [x] => x
  | x :: y :: l => x ++ c :: joinL c (y :: l)
theorem split_join (c : UInt8) : ∀ (k : Nat) (s : ByteArray), joinL c ((Lib.splitB ⟨#[c]⟩ 0 k s).map (·.data.toList)) = s.data.toList
  | 0, s => rfl
  | k + 1, s => by
    rcases Int.lt_or_le (Lib.indexByte s.data.toList c) 0 with h | h
    · have ge := Lib.indexByte_ge s.data.toList c
      have e : Lib.indexB s ⟨#[c]⟩ = -1 := by
        show Lib.index s.data.toList [c] = -1
        rw [Lib.index_one]; omega
      rw [Lib.splitB_miss _ _ _ _ e]; rfl
    · obtain ⟨i, hi⟩ : ∃ i : Nat, Lib.indexByte s.data.toList c = i := ⟨_, (Int.toNat_of_nonneg h).symm⟩
      have e : Lib.indexB s ⟨#[c]⟩ = i := by
        show Lib.index s.data.toList [c] = i
        rw [Lib.index_one]; exact hi
      rw [Lib.splitB_hit _ _ _ _ i e]
      have ih := split_join c k (s.extract (i + 1) s.size)
      have sz1 : (⟨#[c]⟩ : ByteArray).size = 1 := rfl
      rw [sz1]
      obtain ⟨x, l, hl⟩ : ∃ x l, Lib.splitB ⟨#[c]⟩ 0 k (s.extract (i + 1) s.size) = x :: l := by
        cases hh : Lib.splitB ⟨#[c]⟩ 0 k (s.extract (i + 1) s.size) with
        | nil =>
          exfalso
          cases k with
          | zero => rw [Lib.splitB_zero] at hh; cases hh
          | succ k =>
            unfold Lib.splitB at hh
            split at hh <;> cases hh
        | cons x l => exact ⟨x, l, rfl⟩
      rw [hl] at ih ⊢
      simp only [List.map_cons] at ih ⊢
      unfold joinL
      rw [ih, extR, Nat.add_zero, ext0]
      exact (hit_split hi).2.symm
theorem info_str : (Tryd.prog.info? 9).map (fun i => (i.zero, i.size, i.bytes)) = some (some (.string ByteArray.empty), 1, 16) := by kernel_rfl
theorem count_l (s : ByteArray) (c : UInt8) : Lib.countB s ⟨#[c]⟩ = Lib.countByte s.data.toList c := by
  show Lib.count s.data.toList [c] = _
  rw [Lib.count_one]; rfl
theorem gen_any (s : ByteArray) (c : UInt8) (hs : s.size ≤ 3000) (w : World) : Calls Tryd.prog 52 #[.string s, .string ⟨#[c]⟩, .int .i64 0, .int .i64 (-1)] w fun e w' =>
    ∃ N, e = .returned (.slice (some ⟨w.heap.size, 0, none⟩) N N) ∧ N = (Lib.splitB ⟨#[c]⟩ 0 (Lib.countB s ⟨#[c]⟩) s).length ∧ w' = w.alloc (.cells ((Lib.splitB ⟨#[c]⟩ 0 (Lib.countB s ⟨#[c]⟩) s).map Value.string).toArray 9) := by
  have hle := Lib.countB_le ⟨#[c]⟩ (show 1 ≤ (⟨#[c]⟩ : ByteArray).size from Nat.le_refl _) s.size s (Nat.le_refl _)
  have hN : (((Lib.countB s ⟨#[c]⟩ + 1 : Nat)) : Int) = min (if (-1 : Int) < 0 then (Lib.countB s ⟨#[c]⟩ : Int) + 1 else -1) ((s.size : Int) + 1) := by
    rw [if_pos (by omega)]; omega
  have h := Any.strings_genSplit_core Tryd.lays221 info_str s ⟨#[c]⟩ 0 (-1) (Lib.countB s ⟨#[c]⟩ + 1) w (by omega) (Nat.le_refl _) (Nat.zero_le _)
    (fun x cs _ => by
      have t := Tryd.strings_Index_one x c (w.alloc (.cells cs 9))
      have e : Lib.indexB x ⟨#[c]⟩ = Lib.indexByte x.data.toList c := Lib.index_one _ _
      rw [e]; exact t)
    (by rw [count_l]; exact Tryd.strings_Count_one s c w) (by omega) (by omega) hN
  refine h.mono ?_
  rintro e w' ⟨he, hw⟩
  have hall := Lib.splitB_all ⟨#[c]⟩ (Nat.le_refl _) 0 (Lib.countB s ⟨#[c]⟩) s rfl
  rw [Nat.add_sub_cancel] at he hw
  refine ⟨Lib.countB s ⟨#[c]⟩ + 1, by rw [he, hall], hall.symm, ?_⟩
  rw [hw]
  have hf := Lib.cellsOf_full (Lib.splitB ⟨#[c]⟩ 0 (Lib.countB s ⟨#[c]⟩) s)
  rw [hall] at hf
  rw [hf]
  rfl
theorem split_any (s : ByteArray) (c : UInt8) (hs : s.size ≤ 3000) (w : World) : Calls Tryd.prog 41 #[.string s, .string ⟨#[c]⟩] w fun e w' =>
    ∃ N, e = .returned (.slice (some ⟨w.heap.size, 0, none⟩) N N) ∧ N = (Lib.splitB ⟨#[c]⟩ 0 (Lib.countB s ⟨#[c]⟩) s).length ∧ w' = w.alloc (.cells ((Lib.splitB ⟨#[c]⟩ 0 (Lib.countB s ⟨#[c]⟩) s).map Value.string).toArray 9) := by
  have G := Lib.hid (gen_any s c hs w)
  clear hs
  go_enter Tryd.func41, Tryd.ntmps41
  go_wp2_with fail
  go_at_call 52; refine G.out.mono ?_; rintro e w' ⟨N, rfl, h1, h2⟩
  have R := Lib.hid (And.intro h1 h2)
  clear h1 h2 G
  go_wp2_with fail
  go_ret
  exact ⟨N, rfl, R.out⟩

end Go.Proofs.YtlgakejjakeomaaDoor.Rd
