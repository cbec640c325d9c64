/- Lines of words: some blanks; a text without what may not be. -/
import Derived.Test.YtlgakejjakeomaaDoorLxU
import Derived.Test.YtlgakejjakeomaaDoorAppend1
import Derived.Laws.MakeOwn
import Derived.Laws.OwnMore
import Derived.Laws.BytesString
namespace Go.Proofs.YtlgakejjakeomaaDoor.Lx
set_option linter.unusedVariables false
set_option linter.unusedSimpArgs false
open Go.RowKit
theorem fold_push : ∀ (l : Bs) (s : ByteArray), (l.map fun c => (c.toNat : Int)).foldl (fun r n => r.push (UInt8.ofNat n.toNat)) s = s ++ ⟨l.toArray⟩
  | [], s => by apply ba_eq; simp
  | c :: l, s => by
    rw [List.map_cons, List.foldl_cons, fold_push l]
    apply ba_eq
    simp [ByteArray.push]
/-- bytes as a text. -/
theorem conv_any {w : World} {g m c : Nat} (l : Bs) (hm : m = l.length) (h : ∀ j, j < m → w.cell? ⟨g, j, none⟩ = some (.int .u8 (l.getD j 0).toNat)) :
    (convert 40 9 (.slice (some ⟨g, 0, none⟩) m c)).run Tryd.prog w = .ok (.string ⟨l.toArray⟩) w := by
  rw [run_convert_bytes_string w _ _ 5 _ _ _ Tryd.underlying40 Tryd.underlying5 Tryd.underlying9]
  have hl := run_loadCells_list (w := w) (P := Tryd.prog) ⟨g, 0, none⟩ (l.map fun c => Value.int .u8 c.toNat) (fun j v hj => by
    rw [List.getElem?_map] at hj
    have hjl : j < l.length := by
      rcases Nat.lt_or_ge j l.length with h | h
      · exact h
      · rw [List.getElem?_eq_none h] at hj; cases hj
    have := h j (by omega)
    rw [List.getD_eq_getElem?_getD, List.getElem?_eq_getElem hjl] at this
    rw [List.getElem?_eq_getElem hjl] at hj
    simp only [Option.map_some, Option.some.injEq] at hj
    subst hj
    cases j <;> simpa [Addr.add] using this)
  rw [List.length_map, ← hm] at hl
  rw [run_bytesToString w _ m c (l.map fun c => (c.toNat : Int)) (by rw [List.map_map]; exact hl), fold_push]
  congr 2

theorem info_byte : (Tryd.prog.info? 5).map (fun i => (i.zero, i.size, i.bytes)) = some (some (.int .u8 0), 1, 1) := by kernel_rfl
theorem make_bytes (n : Nat) (hn : n ≤ 100000) (w : World) : (Instr.makeSlice 40 (.int .u8 n) (.int .u8 n)).run Tryd.prog w =
    .ok (.slice (some ⟨w.heap.size, 0, none⟩) n n) (w.alloc (.cells (madeCells #[.int .u8 0] n) 5)) := by
  obtain ⟨i, hi, hz⟩ := Option.map_eq_some_iff.1 info_byte
  simp only [Prod.mk.injEq] at hz
  obtain ⟨h1, h2, h3⟩ := hz
  have h := run_make w 40 5 i _ Tryd.underlying40 hi h1 .u8 .u8 (n : Int) (n : Int) (by omega) (by omega) (by rw [h3]; omega) (by omega)
  rw [h2, Nat.mul_one] at h
  exact h
/-- block o holds k blanks, of m places. -/
def Blk (W : World) (o m k : Nat) : Prop := ∃ cs : Array Value, W.heap[o]? = some (.cells cs 5 (0, 0)) ∧ cs.size = m ∧ ∀ j, j < k → cs[j]? = some (.int .u8 32)
set_option maxHeartbeats 2000000 in
set_option maxRecDepth 100000 in
theorem blanks_any (n : Nat) (hn : n < 256) (w : World) : Calls Tryd.prog 11 #[.int .u8 n] w fun e w' => ∃ o m, e = .returned (.slice (some ⟨o, 0, none⟩) m m) ∧ m = n % 5 ∧
    (∀ W', Below w'.heap.size w' W' → (convert 40 9 (.slice (some ⟨o, 0, none⟩) m m)).run Tryd.prog W' = .ok (.string ⟨(List.replicate m (32 : UInt8)).toArray⟩) W') ∧ Below w.heap.size w w' := by
  obtain ⟨m, hm⟩ : ∃ m : Nat, m = n % 5 := ⟨_, rfl⟩
  have tm : (n : Int).tmod 5 = (m : Int) := by rw [hm]; rfl
  have m5 : (m : Int) < 5 := by omega
  have n0 : (0 : Int) ≤ (n : Int) := by omega
  have n256 : (n : Int) < 256 := by omega
  have hmk := make_bytes m (by omega) w
  have HM := Lib.hid hm
  clear hm hn
  go_enter Tryd.func11, Tryd.ntmps11
  go_wp2_with fail
  have C0 : Hid (Blk (w.alloc (.cells (madeCells #[.int .u8 0] m) 5)) w.heap.size m 0) := Lib.hid ⟨_, heap_alloc_new w _, size_madeCells _ _, fun j hj => absurd hj (Nat.not_lt_zero _)⟩
  have B0 := Lib.hid ((Below.refl w.heap.size w).alloc (Nat.le_refl _) (.cells (madeCells #[.int .u8 0] m) 5))
  clear hmk
  go_loopw [4, 10] (fun _ v wr => ∃ k : Nat, v = .int .i64 k ∧ k ≤ m ∧ Blk wr w.heap.size m k ∧ Below w.heap.size w wr) (fun _ v _ => m - (intOf v).toNat)
  case atStart => exact ⟨0, rfl, Nat.zero_le _, C0.out, B0.out⟩
  case round =>
    obtain ⟨k, rfl, hk, hc, hb⟩ := hrel
    have C := Lib.hid hc
    have B := Lib.hid hb
    clear hc hb
    by_cases hlt : k < m
    · have hlt' : (k : Int) < (m : Int) := by omega
      obtain ⟨cs, h1, h2, h3⟩ := C.out
      obtain ⟨x, x0⟩ : ∃ x, wr.cell? ⟨w.heap.size, k, none⟩ = some x := ⟨_, blk_cell h1 (Array.getElem?_eq_getElem (show k < cs.size by omega))⟩
      have f0 := blk_free k h1
      have C1 : Hid (Blk (wr.setCell ⟨w.heap.size, k, none⟩ (.int .u8 32)) w.heap.size m (k + 1)) := Lib.hid ⟨_, blk_set k _ h1, by simpa using h2, fun j hj => by
        rcases Nat.lt_or_ge j k with h | h
        · rw [Array.getElem?_setIfInBounds_ne (by omega)]; exact h3 j h
        · obtain rfl : j = k := by omega
          rw [Array.getElem?_setIfInBounds_self_of_lt (by omega)]⟩
      have B1 : Hid (Below w.heap.size w (wr.setCell ⟨w.heap.size, k, none⟩ (.int .u8 32))) := Lib.hid (B.out.setCell (p := ⟨w.heap.size, k, none⟩) (Nat.le_refl _) _)
      clear h1 h2 h3
      go_wp2_with fail
      go_roundw
      case rel => exact ⟨k + 1, by go_num, by omega, C1.out, B1.out⟩
      case measure => simp [intOf]; omega
    · obtain rfl : k = m := by omega
      go_wp2_with fail
      go_ret
      obtain ⟨cs, h1, h2, h3⟩ := C.out
      exact ⟨_, _, rfl, HM.out, fun W' hW' => conv_any _ (by simp) (fun j hj => by rw [hW'.cell (p := ⟨w.heap.size, j, none⟩) (lt_of_block h1), blk_cell h1 (h3 j hj)]; simp [List.getD_eq_getElem?_getD, hj]), B.out⟩

/-- what may stand in a text. -/
def cleanL (l : Bs) : Bs := l.filter fun c => decide (32 ≤ c.toNat) && decide (c.toNat ≤ 126)
theorem cleanL_pr (l : Bs) : ∀ c ∈ cleanL l, Pr c := by
  intro c hc
  have := (List.mem_filter.1 hc).2
  simp at this
  unfold Pr
  omega
theorem cleanL_take {s : ByteArray} {i : Nat} (h : i < s.size) : cleanL (s.data.toList.take (i + 1)) = cleanL (s.data.toList.take i) ++ (if 32 ≤ s[i].toNat ∧ s[i].toNat ≤ 126 then [s[i]] else []) := by
  have e : s.data.toList.take (i + 1) = s.data.toList.take i ++ [s[i]] := by
    have h' : i < s.data.toList.length := by rw [← Lib.size_eq]; exact h
    rw [List.take_add_one, List.getElem?_eq_getElem h']
    rfl
  rw [e]
  unfold cleanL
  rw [List.filter_append]
  congr 1
  simp only [List.filter_cons, List.filter_nil]
  by_cases hc : 32 ≤ s[i].toNat ∧ s[i].toNat ≤ 126
  · rw [if_pos hc, if_pos (by simp [hc.1, hc.2])]
  · rw [if_neg hc, if_neg (by simp; omega)]
theorem cleanL_le (l : Bs) : (cleanL l).length ≤ l.length := List.length_filter_le _ _
set_option maxHeartbeats 4000000 in
set_option maxRecDepth 100000 in
theorem clean_any (s : ByteArray) (hs : s.size ≤ 200) (w : World) : Calls Tryd.prog 12 #[.string s] w fun e w' => e = .returned (.string ⟨(cleanL s.data.toList).toArray⟩) ∧ Below w.heap.size w w' := by
  obtain ⟨i0, hi0, hz⟩ := Option.map_eq_some_iff.1 info_byte
  simp only [Prod.mk.injEq] at hz
  obtain ⟨hz0, hz1, hz2⟩ := hz
  have INF := Lib.hid (And.intro hi0 (And.intro hz0 (And.intro hz1 hz2)))
  have s2 : (s.size : Int) ≤ 200 := by omega
  clear hi0 hz0 hz1 hz2 hs
  go_enter Tryd.func12, Tryd.ntmps12
  go_wp2_with fail
  have OW0 : Hid ((w.alloc (.cells #[] 5)).ownsRow w.heap.size 5 1 (.slice (some ⟨w.heap.size, 0, none⟩) 0 0) 0 (Lib.byteCells (cleanL (s.data.toList.take 0)))) := Lib.hid ⟨rfl, .inr ⟨w.heap.size, 0, #[], rfl, Nat.le_refl _, heap_alloc_new w _, Nat.le_refl _, by unfold maxLen; omega, rfl, rfl⟩⟩
  have B0 : Hid (Below w.heap.size w (w.alloc (.cells #[] 5))) := Lib.hid ((Below.refl _ _).alloc (Nat.le_refl _) _)
  go_loopw [3, 4, 8] (fun row _ v wr => ∃ (i m g cap : Nat), v = .int .i64 i ∧ i ≤ s.size ∧ row = .slice (some ⟨g, 0, none⟩) m cap ∧ m = (cleanL (s.data.toList.take i)).length ∧ m ≤ i ∧ wr.ownsRow w.heap.size 5 1 (.slice (some ⟨g, 0, none⟩) m cap) m (Lib.byteCells (cleanL (s.data.toList.take i))) ∧ Below w.heap.size w wr) (fun _ _ v _ => s.size - (intOf v).toNat)
  case atStart => exact ⟨0, 0, w.heap.size, 0, rfl, Nat.zero_le _, rfl, rfl, Nat.le_refl _, OW0.out, B0.out⟩
  case round =>
    obtain ⟨i, m, g, cap, rfl, hi, rfl, hm, hmi, hown, hbw⟩ := hrel
    have OW := Lib.hid hown
    have BW := Lib.hid hbw
    have HM := Lib.hid hm
    have HMI := Lib.hid hmi
    clear hown hbw hm hmi
    by_cases hlt : i < s.size
    · have hlt' : (i : Int) < (s.size : Int) := by omega
      have CT := Lib.hid (cleanL_take hlt)
      by_cases h1 : 32 ≤ (s[i].toNat : Int)
      · by_cases h2 : (s[i].toNat : Int) ≤ 126
        · have CT2 : Hid (Lib.byteCells (cleanL (s.data.toList.take (i + 1))) = Lib.byteCells (cleanL (s.data.toList.take i)) ++ [.int .u8 s[i].toNat]) := Lib.hid (by
            rw [CT.out, if_pos (by omega), Lib.byteCells_append]; rfl)
          have CL2 : Hid (m + 1 = (cleanL (s.data.toList.take (i + 1))).length) := Lib.hid (by rw [CT.out, if_pos (by omega), List.length_append, ← HM.out]; rfl)
          go_wp2_with (at_builtin; refine wp_append_one wr rfl (.tmp 21) (.tmp 25) 40 rfl w.heap.size 5 i0 _ 1 Tryd.underlying40 INF.out.1 INF.out.2.1 INF.out.2.2.1 INF.out.2.2.2 rfl (.slice (some ⟨g, 0, none⟩) m cap) m _ rfl OW.out (.int .u8 s[i].toNat) rfl rfl ?c1 ?c2 ?c3 ?_)
          case c1 => have := HMI.out; unfold maxLen; omega
          case c2 => have := HMI.out; omega
          case c3 => exact BW.out.size
          intro g2 cap2 w2 hown2 _ _ hb2 _ _
          have OW2 := Lib.hid hown2
          have BW2 := Lib.hid (BW.out.trans hb2)
          clear hown2 hb2
          go_wp2_with fail
          go_roundw
          case rel => exact ⟨i + 1, m + 1, g2, cap2, by go_num, by omega, rfl, CL2.out, by have := HMI.out; omega, by rw [CT2.out]; exact OW2.out, BW2.out⟩
          case measure => simp [intOf]; omega
        · have CT2 : Hid (cleanL (s.data.toList.take (i + 1)) = cleanL (s.data.toList.take i)) := Lib.hid (by rw [CT.out, if_neg (by omega), List.append_nil])
          go_wp2_with fail
          go_roundw
          case rel => exact ⟨i + 1, m, g, cap, by go_num, by omega, rfl, by rw [CT2.out]; exact HM.out, by have := HMI.out; omega, by rw [CT2.out]; exact OW.out, BW.out⟩
          case measure => simp [intOf]; omega
      · have CT2 : Hid (cleanL (s.data.toList.take (i + 1)) = cleanL (s.data.toList.take i)) := Lib.hid (by rw [CT.out, if_neg (by omega), List.append_nil])
        go_wp2_with fail
        go_roundw
        case rel => exact ⟨i + 1, m, g, cap, by go_num, by omega, rfl, by rw [CT2.out]; exact HM.out, by have := HMI.out; omega, by rw [CT2.out]; exact OW.out, BW.out⟩
        case measure => simp [intOf]; omega
    · have TI : Hid (s.data.toList.take i = s.data.toList) := Lib.hid (List.take_of_length_le (by rw [← size_l]; omega))
      have CV := conv_any (w := wr) (g := g) (m := m) (c := cap) (cleanL s.data.toList) (by rw [HM.out, TI.out]) (fun j hj => by
        have h := OW.out.cellAt j (by omega)
        rw [h, TI.out]
        have hj' : j < (cleanL s.data.toList).length := by have := HM.out; rw [TI.out] at this; omega
        unfold Lib.byteCells
        rw [List.getElem?_map, List.getD_eq_getElem?_getD, List.getElem?_eq_getElem hj']
        rfl)
      go_wp2_with fail
      go_ret
      exact ⟨rfl, BW.out⟩

end Go.Proofs.YtlgakejjakeomaaDoor.Lx
