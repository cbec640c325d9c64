/- Lines of words: the text of lines, walked. -/
import Derived.Test.YtlgakejjakeomaaDoorLxM
import Derived.Test.YtlgakejjakeomaaDoorLxS
import Derived.Test.YtlgakejjakeomaaDoorLxT
namespace Go.Proofs.YtlgakejjakeomaaDoor.Lx
set_option linter.unusedVariables false
set_option linter.unusedSimpArgs false
open Go.RowKit
theorem tx_getD (ls : List LnT) (i : Nat) : (tx ls).getD i [] = ((ls.getD i (0, [])).2).map (·.2) := by
  unfold tx
  rw [List.getD_eq_getElem?_getD, List.getD_eq_getElem?_getD, List.getElem?_map]
  cases ls[i]? <;> rfl
theorem map_getD (X : List WdT) (k : Nat) : (X.map (·.2)).getD k [] = (X.getD k (0, [])).2 := by
  rw [List.getD_eq_getElem?_getD, List.getD_eq_getElem?_getD, List.getElem?_map]
  cases X[k]? <;> rfl
set_option maxHeartbeats 8000000 in
set_option maxRecDepth 100000 in
theorem text_any {B n c : Nat} {A : Option Addr} {ls : List LnT} {VS : List Value} {w : World} (hr : RowsL B A n c ls VS w) (hk : Small 500 (tx ls)) (hl : ls.length ≤ 200) :
    Calls Tryd.prog 13 #[.slice A n c] w fun e w' => e = .returned (.string ⟨(textF (tx ls)).toArray⟩) ∧ Below w.heap.size w w' := by
  have HR := Lib.hid hr
  have HK := Lib.hid hk
  have n2 : (n : Int) ≤ 200 := by have := hr.len; omega
  have HN := Lib.hid hr.len
  have T0 : Hid (BT w.heap.size w.heap.size [] (w.alloc (.cells #[.pointer none, .slice none 0 0] 61))) := Lib.hid (.inl ⟨Nat.le_refl _, .slice none 0 0, heap_alloc_new w _, World.ownsRowF_nil _ _ _ _, by simp [Value.ownBlock]⟩)
  have B0 : Hid (Below w.heap.size w (w.alloc (.cells #[.pointer none, .slice none 0 0] 61))) := Lib.hid ((Below.refl _ _).alloc (Nat.le_refl _) _)
  clear hr hk hl
  go_enter Tryd.func13, Tryd.ntmps13
  go_wp2_with fail
  go_loopw [5, 6, 7, 10, 17] (fun _ _ _ v _ wr => ∃ i : Nat, v = .int .i64 i ∧ i ≤ n ∧ BT w.heap.size w.heap.size (textF ((tx ls).take i)) wr ∧ Below w.heap.size w wr) (fun _ _ _ v _ _ => n - (intOf v).toNat)
  case atStart => exact ⟨0, rfl, Nat.zero_le _, T0.out, B0.out⟩
  case round =>
    obtain ⟨i, rfl, hi, hbt, hbw⟩ := hrel
    have BTW := Lib.hid hbt
    have BW := Lib.hid hbw
    clear hbt hbw
    by_cases hlt : i < n
    · have hlt' : (i : Int) < (n : Int) := by omega
      have HRW := Lib.hid (HR.out.below BW.out)
      obtain ⟨g, cap, hv, -, -, -⟩ := owned_shape HRW.out.own (by omega)
      injection hv with hv _ hcc
      subst hv hcc
      obtain ⟨A1, n1, c1, l1, p1, p2, p3⟩ := HR.out.each i hlt
      have a1 := (HRW.out.own.cellAt (i * 2) (by omega)).trans p1
      have a2 := (HRW.out.own.cellAt (i * 2 + 1) (by omega)).trans p2
      obtain ⟨X, hX⟩ : ∃ X, X = (ls.getD i (0, [])).2 := ⟨_, rfl⟩
      obtain ⟨y, hy⟩ : ∃ y, y = (ls.getD i (0, [])).1 := ⟨_, rfl⟩
      obtain ⟨J, hJ⟩ : ∃ J : Nat → Bs, J = fun k => textF ((tx ls).take i) ++ joinW (X.map (·.2)) k := ⟨_, rfl⟩
      have hTX : (tx ls).getD i [] = X.map (·.2) := by rw [tx_getD, hX]
      have hin : i < (tx ls).length := by rw [tx_len, ← HN.out]; exact hlt
      have hsm := HK.out _ (show (tx ls).getD i [] ∈ tx ls by rw [List.getD_eq_getElem?_getD, List.getElem?_eq_getElem hin]; exact List.getElem_mem _)
      rw [hTX] at hsm
      have hle := textF_le _ (HK.out.take i)
      have J0 : Hid (J 0 = textF ((tx ls).take i)) := Lib.hid (by rw [hJ]; simp [joinW])
      have J1 : Hid (J 1 = J 0 ++ (X.getD 0 (0, [])).2) := Lib.hid (by rw [hJ]; simp only [joinW, map_getD]; simp)
      have JS : Hid (∀ k, k ≠ 0 → J (k + 1) = (J k ++ [32]) ++ (X.getD k (0, [])).2) := Lib.hid (fun k hk => by rw [hJ]; simp only [joinW, map_getD]; rw [if_neg hk]; simp)
      have JL : Hid (∀ k, k ≤ n1 → (J k).length ≤ 60000000) := Lib.hid (fun k hk => by
        have h2 := joinW_le hsm.2 k (by rw [List.length_map, hX, ← l1]; exact hk)
        have h1 := hsm.1
        rw [List.length_map, hX, ← l1] at h1
        have h3 : k * (500 + 1) ≤ 500 * (500 + 1) := Nat.mul_le_mul_right _ (by omega)
        have h4 : ((tx ls).take i).length * (500 * (500 + 1) + 1) ≤ 200 * (500 * (500 + 1) + 1) := Nat.mul_le_mul_right _ (by rw [List.length_take]; omega)
        rw [hJ]
        show (textF _ ++ joinW _ k).length ≤ _
        rw [List.length_append]
        omega)
      have JE : Hid (J n1 ++ [10] = textF ((tx ls).take (i + 1))) := Lib.hid (by
        rw [textF_take hin, hTX, hJ]
        unfold lineT
        rw [List.length_map, hX, ← l1]
        simp)
      rw [← hX] at p3 l1
      rw [← hy] at a1
      have P3 := Lib.hid p3
      have NL := Lib.hid l1
      have w5 : (n1 : Int) ≤ 500 := by have := hsm.1; rw [List.length_map] at this; omega
      clear hX hy hJ hTX hin hsm hle p1 p2 p3 l1
      go_wp2_with fail
      have Q0 : Hid (BT w.heap.size w.heap.size (J 0) (wr.alloc (.cells #[.int .i64 (y : Nat), .slice A1 n1 c1] 37))) := Lib.hid (by rw [J0.out]; exact BTW.out.alloc _)
      have R0 : Hid (Below w.heap.size w (wr.alloc (.cells #[.int .i64 (y : Nat), .slice A1 n1 c1] 37))) := Lib.hid (BW.out.alloc BW.out.size _)
      have R1 : Hid (wr.heap.size ≤ (wr.alloc (.cells #[.int .i64 (y : Nat), .slice A1 n1 c1] 37)).heap.size) := Lib.hid (by simp)
      clear a1 a2
      clear R1
      go_loopw [6, 7, 17] (fun _ _ v wq => ∃ k : Nat, v = .int .i64 k ∧ k ≤ n1 ∧ BT w.heap.size w.heap.size (J k) wq ∧ Below w.heap.size w wq) (fun _ _ v _ => n1 - (intOf v).toNat)
      case atStart => exact ⟨0, rfl, Nat.zero_le _, Q0.out, R0.out⟩
      case round =>
        obtain ⟨k, rfl, hk, hbt, hbw⟩ := hrel
        have BTQ := Lib.hid hbt
        have BWQ := Lib.hid hbw
        have JLK : Hid ((J k).length ≤ 60000000) := Lib.hid (JL.out k hk)
        clear hbt hbw
        by_cases hkl : k < n1
        · have hkl' : (k : Int) < (n1 : Int) := by omega
          have P4 := Lib.hid (keep2 P3.out BWQ.out)
          obtain ⟨h, cap, hv, -, -, -⟩ := owned_shape P4.out (by omega)
          injection hv with hv _ hcc
          subst hv hcc
          obtain ⟨t1, t2⟩ := flatT_get X k (by have := NL.out; omega)
          have x1 := (P4.out.cellAt (k * 2) (by omega)).trans t1
          have x2 := (P4.out.cellAt (k * 2 + 1) (by omega)).trans t2
          obtain ⟨u1, hu1⟩ : ∃ u, u = (X.getD k (0, [])).1 := ⟨_, rfl⟩
          obtain ⟨u2, hu2⟩ : ∃ u : ByteArray, u = ⟨(X.getD k (0, [])).2.toArray⟩ := ⟨_, rfl⟩
          rw [← hu1] at x1
          rw [← hu2] at x2
          have U2 : Hid (u2.data.toList = (X.getD k (0, [])).2) := Lib.hid (by rw [hu2])
          have hlt2 : Hid (w.heap.size < wr.heap.size) := Lib.hid (by have := BWQ.out.size; rcases BTQ.out with h | h <;> exact h.lt)
          have BTA := Lib.hid (BTQ.out.alloc (.cells #[.int .i64 (u1 : Nat), .string u2] 51))
          have BWA : Hid (Below w.heap.size w (wr.alloc (.cells #[.int .i64 (u1 : Nat), .string u2] 51))) := Lib.hid (BWQ.out.alloc BWQ.out.size _)
          clear hu1 hu2 t1 t2
          by_cases hk0 : k = 0
          · subst hk0
            have WS := Lib.hid (write_bt BTA.out BWA.out.size u2 (J 1) (by rw [J1.out, U2.out]) (by have := JL.out 1 (by omega); omega))
            go_wp2_with fail
            go_at_call 22; refine WS.out.mono ?_
            rintro e w5 ⟨rfl, ht5, hb5, -⟩
            have T5 := Lib.hid ht5
            have B5 := Lib.hid (BWA.out.trans hb5)
            clear ht5 hb5 WS
            go_wp2_with fail
            go_roundw
            case rel => exact ⟨1, by go_num, by omega, T5.out, B5.out⟩
            case measure => simp [intOf]; omega
          · have hk0' : (0 : Int) < (k : Int) := by omega
            have WB := Lib.hid (byte_bt BTA.out BWA.out.size 32 (J k ++ [32]) rfl (by simp; have := JLK.out; omega))
            rw [show ((32 : UInt8).toNat : Int) = 32 from rfl] at WB
            go_wp2_with fail
            go_at_call 21; refine WB.out.mono ?_
            rintro e w4 ⟨rfl, ht4, hb4, hk4⟩
            have m4 : w4.heap[wr.heap.size]? = some (.cells #[.int .i64 (u1 : Nat), .string u2] 51) := hk4 _ _ (heap_alloc_new wr _) (by intro h; injection h with h; have := hlt2.out; omega) (fun c fz h => by simp only [Obj.cells.injEq] at h; exact absurd h.2.1 (by decide))
            have z1 := blk_cell (j := 1) m4 rfl
            have T4 := Lib.hid ht4
            have B4 := Lib.hid (BWA.out.trans hb4)
            have WS := Lib.hid (write_bt T4.out B4.out.size u2 (J (k + 1)) (by rw [JS.out k hk0, U2.out]) (by have := JL.out (k + 1) (by omega); omega))
            clear ht4 hb4 hk4 m4 WB
            go_wp2_with fail
            go_at_call 22; refine WS.out.mono ?_
            rintro e w5 ⟨rfl, ht5, hb5, -⟩
            have T5 := Lib.hid ht5
            have B5 := Lib.hid (B4.out.trans hb5)
            clear ht5 hb5 WS
            go_wp2_with fail
            go_roundw
            case rel => exact ⟨k + 1, by go_num, by omega, T5.out, B5.out⟩
            case measure => simp [intOf]; omega
        · obtain rfl : k = n1 := by omega
          have WB := Lib.hid (byte_bt BTQ.out BWQ.out.size 10 (textF ((tx ls).take (i + 1))) JE.out.symm (by rw [← JE.out]; simp; have := JLK.out; omega))
          rw [show ((10 : UInt8).toNat : Int) = 10 from rfl] at WB
          go_wp2_with fail
          go_at_call 21; refine WB.out.mono ?_
          rintro e w4 ⟨rfl, ht4, hb4, -⟩
          have T4 := Lib.hid ht4
          have B4 := Lib.hid (BWQ.out.trans hb4)
          clear ht4 hb4 WB
          go_wp2_with fail
          go_roundw
          case rel => exact ⟨i + 1, by go_num, by omega, T4.out, B4.out⟩
          case measure => simp [intOf]; omega
    · have TI : Hid ((tx ls).take i = tx ls) := Lib.hid (List.take_of_length_le (by rw [tx_len]; have := HN.out; omega))
      have ST := Lib.hid (Tryd.Builder_String_any_k w.heap.size w.heap.size (textF (tx ls)) wr (by have h := BTW.out; rw [TI.out] at h; exact h) BW.out.size)
      go_wp2_with fail
      go_at_call 23; refine ST.out.mono ?_
      rintro e w5 ⟨rfl, -, hb5, -⟩
      have B5 : Hid (Below w.heap.size w w5) := Lib.hid (BW.out.trans hb5)
      clear hb5 ST
      go_wp2_with fail
      go_ret
      exact ⟨rfl, B5.out⟩

end Go.Proofs.YtlgakejjakeomaaDoor.Lx
