/- Lines of words: too many words, too many lines: the law walked. -/
import Derived.Test.YtlgakejjakeomaaDoorLxM
import Derived.Test.YtlgakejjakeomaaDoorLxP
namespace Go.Proofs.YtlgakejjakeomaaDoor.Lx
set_option linter.unusedVariables false
set_option linter.unusedSimpArgs false
open Go.RowKit
def rep (l : Bs) (k : Nat) : ByteArray := ⟨(times l k).toArray⟩
theorem rep_list (l : Bs) (k : Nat) : (rep l k).data.toList = times l k := by simp [rep]
theorem rep_size (l : Bs) (k : Nat) : (rep l k).size = k * l.length := by rw [size_l, rep_list, times_len]
theorem rep_add (l : Bs) (k : Nat) : rep l k ++ ⟨l.toArray⟩ = rep l (k + 1) := by
  apply ba_eq
  rw [rep_list, times_snoc]
  simp [rep]
theorem one_rows {B n c k : Nat} {A : Option Addr} {VS : List Value} {ws : List WdT} {W : World} (hr : RowsL B A n c [(1, ws)] VS W) (hk : ws.length = k) (o : Obj) :
    ∃ g A1 c1, A = some ⟨g, 0, none⟩ ∧ n = 1 ∧ (W.alloc o).cell? ⟨g, 1, none⟩ = some (.slice A1 k c1) := by
  obtain rfl : n = 1 := hr.len
  obtain ⟨g, cap, hv, -, -, -⟩ := owned_shape hr.own (by decide)
  simp only [Value.slice.injEq] at hv
  obtain ⟨rfl, -, rfl⟩ := hv
  obtain ⟨A1, n1, c1, l1, p1, p2, p3⟩ := hr.each 0 (by decide)
  obtain rfl : n1 = k := l1.trans hk
  exact ⟨g, A1, c1, rfl, rfl, ((hr.own.alloc o).cellAt 1 (by decide)).trans p2⟩
set_option maxHeartbeats 8000000 in
set_option maxRecDepth 100000 in
theorem many_go (a b : Nat) (w : World) (ha : a < 65536) (hb : b < 65536) : Calls Tryd.prog 4 #[.int .u16 a, .int .u16 b] w fun e w' => e = .returned (.bool true) ∧ Below w.heap.size w w' := by
  have a5 : (a : Int) < 65536 := by omega
  have b5 : (b : Int) < 65536 := by omega
  have a0 : (0 : Int) ≤ (a : Int) := by omega
  have b0 : (0 : Int) ≤ (b : Int) := by omega
  obtain ⟨n, hn⟩ : ∃ n : Nat, n = a % 50 := ⟨_, rfl⟩
  obtain ⟨m, hm⟩ : ∃ m : Nat, m = b % 2010 := ⟨_, rfl⟩
  have ta : (a : Int).tmod 50 = (n : Int) := by rw [hn]; rfl
  have tb : (b : Int).tmod 2010 = (m : Int) := by rw [hm]; rfl
  have n5 : (n : Int) < 50 := by omega
  have m5 : (m : Int) < 2010 := by omega
  have LA := Lib.hid (linesF_a n (by omega))
  have LB := Lib.hid (linesF_b m (by omega))
  clear hn hm ha hb
  go_enter Tryd.func4, Tryd.ntmps4
  go_wp2_with fail
  go_loopw [7, 19] (fun row v wr => ∃ k : Nat, v = .int .i64 k ∧ k ≤ n ∧ row = .string (rep [97, 32] k) ∧ wr = w) (fun _ v _ => n - (intOf v).toNat)
  case atStart => exact ⟨0, rfl, Nat.zero_le _, rfl, by first | rfl | trivial⟩
  case round =>
    obtain ⟨k, rfl, hk, rfl, hwr⟩ := hrel
    by_cases hlt : k < n
    · have hlt' : (k : Int) < (n : Int) := by omega
      have AD := rep_add [97, 32] k
      have SZ := rep_size [97, 32] k
      have SZ' : ((rep [97, 32] k).size : Int) = 2 * k := by rw [SZ]; simp; omega
      go_wp2_with fail
      go_roundw
      case rel => exact ⟨k + 1, by go_num, by omega, by first | rfl | (rw [← rep_add]; rfl), by first | exact hwr | trivial⟩
      case measure => simp [intOf]; omega
    · obtain rfl : n = k := by omega
      obtain rfl : w = wr := by first | exact hwr.symm | rfl
      clear hk hlt ta tb a0 b0 a5 b5
      have SZ := rep_size [97, 32] n
      rcases Nat.lt_or_ge 40 n with h40 | h40
      · have LAF := Lib.hid (show linesF (rep [97, 32] n).data.toList = ([], (1, 81), 4) by rw [rep_list]; exact LA.out.2.2 h40)
        have h40' : (40 : Int) < (n : Int) := by omega
        go_wp2_with (go_at_call 8; refine (lines_any _ _ (by rw [rep_size]; unfold maxLen; simp; omega)).mono ?_; rintro e W1 ⟨A, n1, c, VS, rfl, hr, hb⟩; rw [LAF.out] at hr ⊢; obtain rfl : n1 = 0 := hr.len; have B1 := Lib.hid hb; clear hr hb)
        go_loopw [8, 65] (fun row v wr => ∃ k : Nat, v = .int .i64 k ∧ k ≤ m ∧ row = .string (rep [10, 32, 98, 10] k) ∧ wr = W1.alloc (.cells #[.int .i64 1, .int .i64 81] 25)) (fun _ v _ => m - (intOf v).toNat)
        case atStart => exact ⟨0, rfl, Nat.zero_le _, rfl, by first | rfl | trivial⟩
        case round =>
          obtain ⟨k, rfl, hk, rfl, hwr⟩ := hrel
          by_cases hlt : k < m
          · have hlt' : (k : Int) < (m : Int) := by omega
            have AD := rep_add [10, 32, 98, 10] k
            have SZ := rep_size [10, 32, 98, 10] k
            have SZ' : ((rep [10, 32, 98, 10] k).size : Int) = 4 * k := by rw [SZ]; simp; omega
            go_wp2_with fail
            go_roundw
            case rel => exact ⟨k + 1, by go_num, by omega, by first | rfl | (rw [← rep_add]; rfl), by first | exact hwr | trivial⟩
            case measure => simp [intOf]; omega
          · obtain rfl : m = k := by omega
            have HWR := Lib.hid hwr
            clear hwr
            rcases Nat.lt_or_ge 2000 m with hm | hm
            · have LAF2 := Lib.hid (show linesF (rep [10, 32, 98, 10] m).data.toList = ([], (4002, 2), 4) by rw [rep_list]; exact LB.out.2 hm)
              have hm' : (2000 : Int) < (m : Int) := by omega
              go_wp2_with (first
                | (go_at_call 8; refine (lines_any _ _ (by rw [rep_size]; unfold maxLen; simp; omega)).mono ?_; rintro e W2 ⟨A2, n2, c2, VS2, rfl, hr, hb⟩; rw [LAF2.out] at hr ⊢; rw [HWR.out] at hb; obtain rfl : n2 = 0 := hr.len; have e1 := (hb.block W1.heap.size (by simp)).trans (heap_alloc_new W1 _); have B2 := Lib.hid (B1.out.trans (((Below.refl w.heap.size W1).alloc B1.out.size _).trans (hb.mono (by have := B1.out.size; simp; omega)))); have x0 := blk_cell (j := 0) e1 rfl; have x1 := blk_cell (j := 1) e1 rfl; have y0 := blk_free 0 e1; have y1 := blk_free 1 e1; have E1 := Lib.hid e1; clear hr hb e1)
                | (go_at_call 7; refine (fixed_any _).mono ?_; rintro e W3 ⟨rfl, hb⟩; have e3 := (hb.block W1.heap.size (by have := lt_of_block E1.out; simpa using this)).trans (blk_set 1 _ (blk_set 0 _ E1.out)); have z0 := blk_cell (j := 0) e3 rfl; have z1 := blk_cell (j := 1) e3 rfl; have HB3 := Lib.hid hb; clear hb e3))
              go_ret
              exact ⟨rfl, (B2.out.trans (((Below.refl w.heap.size _).setCell (p := ⟨W1.heap.size, 0, none⟩) B1.out.size _).setCell (p := ⟨W1.heap.size, 1, none⟩) B1.out.size _)).trans (HB3.out.mono (by have := B2.out.size; simp; omega))⟩
            · obtain ⟨ls2, hl2, hf2⟩ := LB.out.1 hm
              have LAF2 := Lib.hid (show linesF (rep [10, 32, 98, 10] m).data.toList = (ls2, (0, 0), 0) by rw [rep_list]; exact hf2)
              have HL2 := Lib.hid hl2
              have hm' : ¬ ((2000 : Int) < (m : Int)) := by omega
              clear hf2 hl2
              go_wp2_with (first
                | (go_at_call 8; refine (lines_any _ _ (by rw [rep_size]; unfold maxLen; simp; omega)).mono ?_; rintro e W2 ⟨A2, n2, c2, VS2, rfl, hr, hb⟩; rw [LAF2.out] at hr ⊢; rw [HWR.out] at hb; obtain rfl : n2 = m := hr.len.trans HL2.out; have e1 := (hb.block W1.heap.size (by simp)).trans (heap_alloc_new W1 _); have B2 := Lib.hid (B1.out.trans (((Below.refl w.heap.size W1).alloc B1.out.size _).trans (hb.mono (by have := B1.out.size; simp; omega)))); have x0 := blk_cell (j := 0) e1 rfl; have x1 := blk_cell (j := 1) e1 rfl; have y0 := blk_free 0 e1; have y1 := blk_free 1 e1; have E1 := Lib.hid e1; clear hr hb e1)
                | (go_at_call 7; refine (fixed_any _).mono ?_; rintro e W3 ⟨rfl, hb⟩; have e3 := (hb.block W1.heap.size (by have := lt_of_block E1.out; simpa using this)).trans (blk_set 1 _ (blk_set 0 _ E1.out)); have z0 := blk_cell (j := 0) e3 rfl; have z1 := blk_cell (j := 1) e3 rfl; have HB3 := Lib.hid hb; clear hb e3))
              go_ret
              exact ⟨rfl, (B2.out.trans (((Below.refl w.heap.size _).setCell (p := ⟨W1.heap.size, 0, none⟩) B1.out.size _).setCell (p := ⟨W1.heap.size, 1, none⟩) B1.out.size _)).trans (HB3.out.mono (by have := B2.out.size; simp; omega))⟩
      · have h40' : (n : Int) ≤ 40 := by omega
        rcases Nat.eq_zero_or_pos n with h0 | h0
        · have LAF := Lib.hid (show linesF (rep [97, 32] n).data.toList = ([], (0, 0), 0) by rw [rep_list]; exact LA.out.1 h0)
          have h0' : (n : Int) ≤ 0 := by omega
          clear h0 h40
          go_wp2_with (go_at_call 8; refine (lines_any _ _ (by rw [rep_size]; unfold maxLen; simp; omega)).mono ?_; rintro e W1 ⟨A, n1, c, VS, rfl, hr, hb⟩; rw [LAF.out] at hr ⊢; obtain rfl : n1 = 0 := hr.len; have B1 := Lib.hid hb; clear hr hb)
          go_loopw [8, 65] (fun row v wr => ∃ k : Nat, v = .int .i64 k ∧ k ≤ m ∧ row = .string (rep [10, 32, 98, 10] k) ∧ wr = W1.alloc (.cells #[.int .i64 0, .int .i64 0] 25)) (fun _ v _ => m - (intOf v).toNat)
          case atStart => exact ⟨0, rfl, Nat.zero_le _, rfl, by first | rfl | trivial⟩
          case round =>
            obtain ⟨k, rfl, hk, rfl, hwr⟩ := hrel
            by_cases hlt : k < m
            · have hlt' : (k : Int) < (m : Int) := by omega
              have AD := rep_add [10, 32, 98, 10] k
              have SZ := rep_size [10, 32, 98, 10] k
              have SZ' : ((rep [10, 32, 98, 10] k).size : Int) = 4 * k := by rw [SZ]; simp; omega
              go_wp2_with fail
              go_roundw
              case rel => exact ⟨k + 1, by go_num, by omega, by first | rfl | (rw [← rep_add]; rfl), by first | exact hwr | trivial⟩
              case measure => simp [intOf]; omega
            · obtain rfl : m = k := by omega
              have HWR := Lib.hid hwr
              clear hwr
              rcases Nat.lt_or_ge 2000 m with hm | hm
              · have LAF2 := Lib.hid (show linesF (rep [10, 32, 98, 10] m).data.toList = ([], (4002, 2), 4) by rw [rep_list]; exact LB.out.2 hm)
                have hm' : (2000 : Int) < (m : Int) := by omega
                go_wp2_with (first
                  | (go_at_call 8; refine (lines_any _ _ (by rw [rep_size]; unfold maxLen; simp; omega)).mono ?_; rintro e W2 ⟨A2, n2, c2, VS2, rfl, hr, hb⟩; rw [LAF2.out] at hr ⊢; rw [HWR.out] at hb; obtain rfl : n2 = 0 := hr.len; have e1 := (hb.block W1.heap.size (by simp)).trans (heap_alloc_new W1 _); have B2 := Lib.hid (B1.out.trans (((Below.refl w.heap.size W1).alloc B1.out.size _).trans (hb.mono (by have := B1.out.size; simp; omega)))); have x0 := blk_cell (j := 0) e1 rfl; have x1 := blk_cell (j := 1) e1 rfl; have y0 := blk_free 0 e1; have y1 := blk_free 1 e1; have E1 := Lib.hid e1; clear hr hb e1)
                  | (go_at_call 7; refine (fixed_any _).mono ?_; rintro e W3 ⟨rfl, hb⟩; have e3 := (hb.block W1.heap.size (by have := lt_of_block E1.out; simpa using this)).trans (blk_set 1 _ (blk_set 0 _ E1.out)); have z0 := blk_cell (j := 0) e3 rfl; have z1 := blk_cell (j := 1) e3 rfl; have HB3 := Lib.hid hb; clear hb e3))
                go_ret
                exact ⟨rfl, (B2.out.trans (((Below.refl w.heap.size _).setCell (p := ⟨W1.heap.size, 0, none⟩) B1.out.size _).setCell (p := ⟨W1.heap.size, 1, none⟩) B1.out.size _)).trans (HB3.out.mono (by have := B2.out.size; simp; omega))⟩
              · obtain ⟨ls2, hl2, hf2⟩ := LB.out.1 hm
                have LAF2 := Lib.hid (show linesF (rep [10, 32, 98, 10] m).data.toList = (ls2, (0, 0), 0) by rw [rep_list]; exact hf2)
                have HL2 := Lib.hid hl2
                have hm' : ¬ ((2000 : Int) < (m : Int)) := by omega
                clear hf2 hl2
                go_wp2_with (first
                  | (go_at_call 8; refine (lines_any _ _ (by rw [rep_size]; unfold maxLen; simp; omega)).mono ?_; rintro e W2 ⟨A2, n2, c2, VS2, rfl, hr, hb⟩; rw [LAF2.out] at hr ⊢; rw [HWR.out] at hb; obtain rfl : n2 = m := hr.len.trans HL2.out; have e1 := (hb.block W1.heap.size (by simp)).trans (heap_alloc_new W1 _); have B2 := Lib.hid (B1.out.trans (((Below.refl w.heap.size W1).alloc B1.out.size _).trans (hb.mono (by have := B1.out.size; simp; omega)))); have x0 := blk_cell (j := 0) e1 rfl; have x1 := blk_cell (j := 1) e1 rfl; have y0 := blk_free 0 e1; have y1 := blk_free 1 e1; have E1 := Lib.hid e1; clear hr hb e1)
                  | (go_at_call 7; refine (fixed_any _).mono ?_; rintro e W3 ⟨rfl, hb⟩; have e3 := (hb.block W1.heap.size (by have := lt_of_block E1.out; simpa using this)).trans (blk_set 1 _ (blk_set 0 _ E1.out)); have z0 := blk_cell (j := 0) e3 rfl; have z1 := blk_cell (j := 1) e3 rfl; have HB3 := Lib.hid hb; clear hb e3))
                go_ret
                exact ⟨rfl, (B2.out.trans (((Below.refl w.heap.size _).setCell (p := ⟨W1.heap.size, 0, none⟩) B1.out.size _).setCell (p := ⟨W1.heap.size, 1, none⟩) B1.out.size _)).trans (HB3.out.mono (by have := B2.out.size; simp; omega))⟩
        · obtain ⟨ws, hws, hf⟩ := LA.out.2.1 h0 h40
          have LAF := Lib.hid (show linesF (rep [97, 32] n).data.toList = ([(1, ws)], (0, 0), 0) by rw [rep_list]; exact hf)
          have h0' : (0 : Int) < (n : Int) := by omega
          have HWS := Lib.hid hws
          clear hf hws h0 h40
          go_wp2_with (go_at_call 8; refine (lines_any _ _ (by rw [rep_size]; unfold maxLen; simp; omega)).mono ?_; rintro e W1 ⟨A, n1, c, VS, rfl, hr, hb⟩; rw [LAF.out] at hr ⊢; obtain ⟨g, A1, c1, rfl, rfl, a2⟩ := one_rows hr HWS.out (.cells #[.int .i64 0, .int .i64 0] 25); have B1 := Lib.hid hb; clear hr hb)
          go_loopw [8, 65] (fun row v wr => ∃ k : Nat, v = .int .i64 k ∧ k ≤ m ∧ row = .string (rep [10, 32, 98, 10] k) ∧ wr = W1.alloc (.cells #[.int .i64 0, .int .i64 0] 25)) (fun _ v _ => m - (intOf v).toNat)
          case atStart => exact ⟨0, rfl, Nat.zero_le _, rfl, by first | rfl | trivial⟩
          case round =>
            obtain ⟨k, rfl, hk, rfl, hwr⟩ := hrel
            by_cases hlt : k < m
            · have hlt' : (k : Int) < (m : Int) := by omega
              have AD := rep_add [10, 32, 98, 10] k
              have SZ := rep_size [10, 32, 98, 10] k
              have SZ' : ((rep [10, 32, 98, 10] k).size : Int) = 4 * k := by rw [SZ]; simp; omega
              go_wp2_with fail
              go_roundw
              case rel => exact ⟨k + 1, by go_num, by omega, by first | rfl | (rw [← rep_add]; rfl), by first | exact hwr | trivial⟩
              case measure => simp [intOf]; omega
            · obtain rfl : m = k := by omega
              have HWR := Lib.hid hwr
              clear hwr
              rcases Nat.lt_or_ge 2000 m with hm | hm
              · have LAF2 := Lib.hid (show linesF (rep [10, 32, 98, 10] m).data.toList = ([], (4002, 2), 4) by rw [rep_list]; exact LB.out.2 hm)
                have hm' : (2000 : Int) < (m : Int) := by omega
                go_wp2_with (first
                  | (go_at_call 8; refine (lines_any _ _ (by rw [rep_size]; unfold maxLen; simp; omega)).mono ?_; rintro e W2 ⟨A2, n2, c2, VS2, rfl, hr, hb⟩; rw [LAF2.out] at hr ⊢; rw [HWR.out] at hb; obtain rfl : n2 = 0 := hr.len; have e1 := (hb.block W1.heap.size (by simp)).trans (heap_alloc_new W1 _); have B2 := Lib.hid (B1.out.trans (((Below.refl w.heap.size W1).alloc B1.out.size _).trans (hb.mono (by have := B1.out.size; simp; omega)))); have x0 := blk_cell (j := 0) e1 rfl; have x1 := blk_cell (j := 1) e1 rfl; have y0 := blk_free 0 e1; have y1 := blk_free 1 e1; have E1 := Lib.hid e1; clear hr hb e1)
                  | (go_at_call 7; refine (fixed_any _).mono ?_; rintro e W3 ⟨rfl, hb⟩; have e3 := (hb.block W1.heap.size (by have := lt_of_block E1.out; simpa using this)).trans (blk_set 1 _ (blk_set 0 _ E1.out)); have z0 := blk_cell (j := 0) e3 rfl; have z1 := blk_cell (j := 1) e3 rfl; have HB3 := Lib.hid hb; clear hb e3))
                go_ret
                exact ⟨rfl, (B2.out.trans (((Below.refl w.heap.size _).setCell (p := ⟨W1.heap.size, 0, none⟩) B1.out.size _).setCell (p := ⟨W1.heap.size, 1, none⟩) B1.out.size _)).trans (HB3.out.mono (by have := B2.out.size; simp; omega))⟩
              · obtain ⟨ls2, hl2, hf2⟩ := LB.out.1 hm
                have LAF2 := Lib.hid (show linesF (rep [10, 32, 98, 10] m).data.toList = (ls2, (0, 0), 0) by rw [rep_list]; exact hf2)
                have HL2 := Lib.hid hl2
                have hm' : ¬ ((2000 : Int) < (m : Int)) := by omega
                clear hf2 hl2
                go_wp2_with (first
                  | (go_at_call 8; refine (lines_any _ _ (by rw [rep_size]; unfold maxLen; simp; omega)).mono ?_; rintro e W2 ⟨A2, n2, c2, VS2, rfl, hr, hb⟩; rw [LAF2.out] at hr ⊢; rw [HWR.out] at hb; obtain rfl : n2 = m := hr.len.trans HL2.out; have e1 := (hb.block W1.heap.size (by simp)).trans (heap_alloc_new W1 _); have B2 := Lib.hid (B1.out.trans (((Below.refl w.heap.size W1).alloc B1.out.size _).trans (hb.mono (by have := B1.out.size; simp; omega)))); have x0 := blk_cell (j := 0) e1 rfl; have x1 := blk_cell (j := 1) e1 rfl; have y0 := blk_free 0 e1; have y1 := blk_free 1 e1; have E1 := Lib.hid e1; clear hr hb e1)
                  | (go_at_call 7; refine (fixed_any _).mono ?_; rintro e W3 ⟨rfl, hb⟩; have e3 := (hb.block W1.heap.size (by have := lt_of_block E1.out; simpa using this)).trans (blk_set 1 _ (blk_set 0 _ E1.out)); have z0 := blk_cell (j := 0) e3 rfl; have z1 := blk_cell (j := 1) e3 rfl; have HB3 := Lib.hid hb; clear hb e3))
                go_ret
                exact ⟨rfl, (B2.out.trans (((Below.refl w.heap.size _).setCell (p := ⟨W1.heap.size, 0, none⟩) B1.out.size _).setCell (p := ⟨W1.heap.size, 1, none⟩) B1.out.size _)).trans (HB3.out.mono (by have := B2.out.size; simp; omega))⟩

theorem many_law (a b : Int) (w : World) (ha : (Lit.int .u16 a).wf = true) (hb : (Lit.int .u16 b).wf = true) : Calls Tryd.prog 4 #[.int .u16 a, .int .u16 b] w fun e w' => e = .returned (.bool true) ∧ Below w.heap.size w w' := by
  simp [Lit.wf, IntKind.min, IntKind.max, IntKind.signed, IntKind.bits] at ha hb
  obtain ⟨m, rfl⟩ : ∃ m : Nat, a = m := ⟨a.toNat, by omega⟩
  obtain ⟨n, rfl⟩ : ∃ n : Nat, b = n := ⟨b.toNat, by omega⟩
  exact many_go m n w (by omega) (by omega)

end Go.Proofs.YtlgakejjakeomaaDoor.Lx
