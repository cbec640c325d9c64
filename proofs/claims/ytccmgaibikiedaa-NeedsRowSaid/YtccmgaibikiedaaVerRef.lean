/- The document's May, Less and Compare. -/
import Derived.Test.YtccmgaibikiedaaVerCmp
namespace Go.Proofs.Ytccmgaibikiedaa.Ver
set_option linter.unusedVariables false
open Go.RowKit Go.Shelf

theorem part_list (a : Bs) (w : World) (ha : a.length ≤ maxLen) : Calls Try.prog 52 #[str a] w fun e w' => e = .returned (.bool (partP a)) ∧ w = w' :=
  part_any ⟨a.toArray⟩ w (by rw [size_str]; exact ha)
theorem all_take (l : List Bs) (k : Nat) (h : k < l.length) (ha : (l.take k).all partP = true) (hp : partP (l.getD k []) = true) : (l.take (k + 1)).all partP = true := by
  rw [List.take_succ_eq_append_getElem h, List.all_append, ha]
  have e : l.getD k [] = l[k] := by simp [List.getD_eq_getElem?_getD, List.getElem?_eq_getElem h]
  rw [e] at hp
  simp [hp]
theorem all_bad (l : List Bs) (k : Nat) (h : k < l.length) (hp : partP (l.getD k []) = false) : l.all partP = false := by
  have e : l.getD k [] = l[k] := by simp [List.getD_eq_getElem?_getD, List.getElem?_eq_getElem h]
  rw [e] at hp
  rw [List.all_eq_false]
  exact ⟨_, List.getElem_mem h, by simp [hp]⟩

set_option maxHeartbeats 2000000 in
theorem rmay_in (s : ByteArray) (w : World) (h1 : 0 < s.size) (h2 : s.size ≤ 40) :
    Calls Try.prog 29 #[.string s] w fun e w' => e = .returned (.bool (mayV s.data.toList)) ∧ Below w.heap.size w w' := by
  have h2' : (s.size : Int) ≤ 40 := by omega
  have he : s.toList.isEmpty = false := (empty_toList s).trans (ne_isEmpty s h1)
  have M := Lib.hid (may_len (s := s.data.toList) (by rw [len_list]; exact h1) (by rw [len_list]; exact h2))
  have hc := cut_length 46 s.data.toList
  rw [len_list] at hc
  have C := Lib.hid (cut_any s 46 w (by omega))
  have hpl : ∀ i, ((cutAt 46 s.data.toList).getD i []).length ≤ 40 := fun i => by
    rcases Nat.lt_or_ge i (cutAt 46 s.data.toList).length with h | h
    · have e : (cutAt 46 s.data.toList).getD i [] = (cutAt 46 s.data.toList)[i] := by simp [List.getD_eq_getElem?_getD, List.getElem?_eq_getElem h]
      rw [e]
      have := part_le 46 s.data.toList _ (List.getElem_mem h)
      rw [len_list] at this; omega
    · rw [getD_past _ _ h]; simp
  have HPL := Lib.hid hpl
  clear hpl
  obtain ⟨l, hl⟩ : ∃ l, l = cutAt 46 s.data.toList := ⟨_, rfl⟩
  rw [← hl] at M hc C HPL
  have hn : l.length ≤ 41 := by omega
  clear hc h1 h2 hl
  go_enter Try.func29, Try.ntmps29
  go_wp2_with fail
  go_at_call 51; refine C.out.mono ?_; intro e w1 hcp
  obtain ⟨A, cap, rfl, hrow, hb1⟩ := hcp.row
  have HR := Lib.hid hrow
  have HB := Lib.hid hb1
  clear hcp hrow hb1 C
  obtain ⟨n, hnn⟩ : ∃ n, n = l.length := ⟨_, rfl⟩
  rw [← hnn] at hn ⊢
  have HN := Lib.hid hnn
  clear hnn
  have hn' : (n : Int) ≤ 41 := by omega
  go_wp2_with fail
  go_loopw [4, 16] (fun _ v wr => ∃ k : Nat, v = .int .i64 k ∧ k ≤ n ∧ wr = w1 ∧ (l.take k).all partP = true) (fun _ v _ => n - (intOf v).toNat)
  case atStart => exact ⟨0, rfl, Nat.zero_le _, rfl, rfl⟩
  case round =>
    obtain ⟨k, rfl, hk, rfl, hall⟩ := hrel
    have HALL := Lib.hid hall
    clear hall
    by_cases hlt : k < n
    · have hlt' : (k : Int) < (n : Int) := by omega
      obtain ⟨ad, rfl, _, hc⟩ := HR.out k (by rw [← HN.out]; exact hlt)
      have hpl := HPL.out k
      have NX := Lib.hid (all_take l k (by rw [← HN.out]; exact hlt) HALL.out)
      have BD := Lib.hid (all_bad l k (by rw [← HN.out]; exact hlt))
      obtain ⟨p, hp⟩ : ∃ p, p = l.getD k [] := ⟨_, rfl⟩
      rw [← hp] at hc hpl NX BD
      have P := part_list p wr (by unfold maxLen; omega)
      clear hp hpl
      cases hpp : partP p with
      | true =>
        have NX1 := Lib.hid (NX.out hpp)
        rw [hpp] at P
        clear NX BD hpp
        go_wp2_with fail
        go_at_call 52; refine P.mono ?_; rintro e w' ⟨rfl, rfl⟩
        go_wp2_with fail
        go_roundw
        case rel => exact ⟨k + 1, by go_num, by omega, trivial, NX1.out⟩
        case measure => simp [intOf]; omega
      | false =>
        have BD1 : Hid (mayV s.data.toList = false) := Lib.hid (by rw [M.out, BD.out hpp]; rfl)
        rw [hpp] at P
        clear NX BD hpp
        go_wp2_with fail
        go_at_call 52; refine P.mono ?_; rintro e w' ⟨rfl, rfl⟩
        go_wp2_with fail
        go_ret
        exact ⟨ret_bool BD1.out.symm, HB.out⟩
    · obtain rfl : k = n := by omega
      have F : Hid (mayV s.data.toList = decide ((k : Int) ≤ 8)) := Lib.hid (by
        have h := HALL.out
        rw [HN.out, List.take_of_length_le (Nat.le_refl _)] at h
        rw [M.out, h, ← HN.out]; simp; omega)
      go_wp2_with fail
      go_ret
      exact ⟨ret_bool F.out.symm, HB.out⟩

set_option maxHeartbeats 400000 in
theorem rmay_not (s : ByteArray) (w : World) (hm : s.size ≤ maxLen) (h : s.size = 0 ∨ 40 < s.size) :
    Calls Try.prog 29 #[.string s] w fun e w' => e = .returned (.bool (mayV s.data.toList)) ∧ Below w.heap.size w w' := by
  have F : Hid (mayV s.data.toList = false) := Lib.hid (by
    have e : (decide (0 < s.data.toList.length) && decide (s.data.toList.length ≤ 40)) = false := by
      rw [len_list]
      rcases h with h | h
      · rw [h]; rfl
      · simp; omega
    simp only [mayV, e, Bool.false_and])
  unfold maxLen at hm
  rcases h with h | h
  · have he : s.toList.isEmpty = true := by rw [empty_toList, nil_of s h]; rfl
    clear h
    go_enter Try.func29, Try.ntmps29
    go_wp2_with fail
    go_ret
    exact ⟨ret_bool F.out.symm, Below.refl _ _⟩
  · have he : s.toList.isEmpty = false := (empty_toList s).trans (ne_isEmpty s (by omega))
    have h' : 40 < (s.size : Int) := by omega
    clear h
    go_enter Try.func29, Try.ntmps29
    go_wp2_with fail
    go_ret
    exact ⟨ret_bool F.out.symm, Below.refl _ _⟩
theorem rmay_any (s : ByteArray) (w : World) (hm : s.size ≤ maxLen) :
    Calls Try.prog 29 #[.string s] w fun e w' => e = .returned (.bool (mayV s.data.toList)) ∧ Below w.heap.size w w' := by
  by_cases h : 0 < s.size ∧ s.size ≤ 40
  · exact rmay_in s w h.1 h.2
  · exact rmay_not s w hm (by omega)

end Go.Proofs.Ytccmgaibikiedaa.Ver
