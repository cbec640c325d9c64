/- The document's row of luby, as a slice of the call's own. -/
import Derived.Test.YtapconhgcoefeaaLubyFixedWalk
import Derived.Test.YtapconhgcoefeaaAppend1
namespace Go.Proofs.Ytapconhgcoefeaa.Luby
set_option linter.unusedVariables false
open Go.RowKit

theorem info_int : (Try.prog.info? 3).map (fun i => (i.zero, i.size, i.bytes)) = some (some (.int .i64 0), 1, 8) := by kernel_rfl

def lst (k : Nat) : List Value := (List.range (k + 1)).map fun i => Value.int .i64 (lub i)
theorem lst_succ (k : Nat) : lst k ++ [Value.int .i64 (lub (k + 1))] = lst (k + 1) := by
  unfold lst
  rw [List.range_succ (n := k + 1)]
  simp
theorem lst_len (k : Nat) : (lst k).length = k + 1 := by simp [lst]
theorem lst_at (k i : Nat) (h : i ≤ k) : (lst k)[i]? = some (.int .i64 (lub i)) := by
  unfold lst
  rw [List.getElem?_map, List.getElem?_range (by omega)]
  rfl
theorem lub_zero : lub 0 = 0 := by decide +kernel

/-- a power of two. -/
def Pow (p : Nat) : Prop := ∃ q, p = 2 ^ q
theorem pow_log (m p : Nat) (hp : Pow p) (h1 : p ≤ m) (h2 : m < 2 * p) : p = 2 ^ m.log2 := by
  obtain ⟨q, rfl⟩ := hp
  have hm : m ≠ 0 := by have := Nat.one_le_two_pow (n := q); omega
  have : m.log2 = q := by
    apply Nat.le_antisymm
    · have : m.log2 < q + 1 := (Nat.log2_lt hm).2 (by rw [Nat.pow_succ]; omega)
      omega
    · exact (Nat.le_log2 hm).2 h1
  rw [this]
theorem lub_yes (m p : Nat) (hp : Pow p) (h0 : m < 2 ^ 64) (h1 : p ≤ m) (h2 : m < 2 * p) (h : m = 2 * p - 1) : lub m = p := by
  have e := pow_log m p hp h1 h2
  have := lub_eq m (by omega) h0
  rw [← e, if_pos h] at this
  exact this
theorem lub_no (m p : Nat) (hp : Pow p) (h0 : m < 2 ^ 64) (hm : 1 ≤ m) (h1 : p ≤ m) (h2 : m < 2 * p) (h : ¬ m = 2 * p - 1) : lub m = lub (m - (p - 1)) := by
  have e := pow_log m p hp h1 h2
  have := lub_eq m hm h0
  rw [← e, if_neg h] at this
  exact this

def Rows1 (B k : Nat) (w : World) (v : Value) (wr : World) : Prop :=
  ∃ g cap, v = .slice (some ⟨g, 0, none⟩) (k + 1) cap ∧ wr.ownsRow B 3 1 (.slice (some ⟨g, 0, none⟩) (k + 1) cap) (k + 1) (lst k) ∧ Below B w wr ∧ B ≤ wr.heap.size ∧ g < wr.heap.size

theorem rows_step {B k p g cap : Nat} {w wr : World} (hp : lub (k + 1) = p) (h : wr.ownsRow B 3 1 (.slice (some ⟨g, 0, none⟩) (k + 1 + 1) cap) (k + 1 + 1) (lst k ++ [Value.int .i64 p]))
    (hb : Below B w wr) (hB : B ≤ wr.heap.size) (hg : g < wr.heap.size) : Rows1 B (k + 1) w (.slice (some ⟨g, 0, none⟩) (k + 1 + 1) cap) wr := by
  rw [← hp, lst_succ] at h
  exact ⟨g, cap, rfl, h, hb, hB, hg⟩

set_option maxHeartbeats 1000000 in
set_option maxRecDepth 100000 in
theorem ref_any (n : Nat) (hn : n ≤ 3000) (w : World) :
    Calls Try.prog 19 #[.int .i64 n] w fun e w' => ∃ v, e = .returned v ∧ Rows1 w.heap.size n w v w' := by
  obtain ⟨i0, hi, hz0, hz1, hz2⟩ := info_parts info_int
  have hstart : Rows1 w.heap.size 0 w (.slice (some ⟨w.heap.size, 0, none⟩) 1 1) (w.alloc (.cells #[.int .i64 0] 3)) := by
    refine ⟨w.heap.size, 1, rfl, ?_, (Below.refl _ _).alloc (Nat.le_refl _) _, by simp, by simp⟩
    have h := World.ownsRow_lit (base := w.heap.size) (e := 3) (size := 1) w #[.int .i64 0] 1 (Nat.le_refl _) (by decide) rfl
    have e : lst 0 = [Value.int .i64 0] := by simp [lst, lub_zero]
    rw [e]
    exact h
  go_enter Try.func19, Try.ntmps19
  go_wp2_with fail
  go_loopw [3, 4, 5] (fun v i _ wr => ∃ k : Nat, i = .int .i64 ((k : Int) + 1) ∧ k ≤ n ∧ Rows1 w.heap.size k w v wr) (fun _ i _ _ => n + 1 - (intOf i).toNat)
  case atStart => exact ⟨0, rfl, by omega, hstart⟩
  case round =>
    obtain ⟨k, rfl, hk, hR⟩ := hrel
    clear hstart
    by_cases hlt : k < n
    · go_wp2_with fail
      go_loop [5] (fun h => ∃ p : Nat, h = .int .i64 p ∧ 1 ≤ p ∧ p ≤ k + 1 ∧ Pow p) (fun h => k + 1 - (intOf h).toNat)
      case atStart => exact ⟨1, rfl, by omega, by omega, 0, rfl⟩
      case round =>
        obtain ⟨p, rfl, hp1, hp2, hpw⟩ := hrel
        have HW := Lib.hid hpw; clear hpw
        have HR := Lib.hid hR; clear hR
        by_cases h2 : 2 * p ≤ k + 1
        · go_wp2_with fail
          go_round
          case rel => exact ⟨2 * p, by go_num, by omega, by omega, by obtain ⟨q, hq⟩ := HW.out; exact ⟨q + 1, by rw [Nat.pow_succ]; omega⟩⟩
          case measure => simp [intOf]; omega
        · obtain ⟨g, cap, rfl, hown, hbel, hB, hg⟩ := HR.out
          by_cases h3 : k + 1 = 2 * p - 1
          · have hb : (((k : Int) + 1) == 2 * (p : Int) - 1) = true := by simp; omega
            have hl := lub_yes (k + 1) p HW.out (by omega) hp2 (by omega) h3
            have HL := Lib.hid hl; clear hl
            have H3 := Lib.hid h3; clear h3
            go_wp2_with (at_builtin; refine wp_append_one _ rfl (.tmp 23) (.tmp 25) 31 rfl w.heap.size 3 i0 _ 8 Try.underlying31 hi hz0 hz1 hz2 rfl _ _ _ rfl hown _ rfl rfl (by unfold maxLen; omega) (by omega) hB ?_; intro g2 cap2 w2 hown2 hg2 hgs2 hbel2 hsz2 hgr2)
            go_roundw
            case rel => exact ⟨k + 1, by go_num, by omega, rows_step HL.out hown2 (hbel.trans hbel2) (by omega) hgs2⟩
            case measure => simp [intOf]; omega
          · have hb : (((k : Int) + 1) == 2 * (p : Int) - 1) = false := by simp; omega
            have hp3 : 2 ≤ p := by omega
            have hl := lub_no (k + 1) p HW.out (by omega) (by omega) hp2 (by omega) h3
            have hc : wr.cell? ⟨g, k + 1 - p + 1, none⟩ = some (.int .i64 (lub (k + 1 - p + 1))) := by
              rw [hown.cellAt _ (by omega), lst_at _ _ (by omega)]
            have hl2 : lub (k + 1) = lub (k + 1 - p + 1) := by rw [hl]; congr 1; omega
            have HL := Lib.hid hl2; clear hl hl2
            clear h3
            go_wp2_with (at_builtin; refine wp_append_one _ rfl (.tmp 27) (.tmp 35) 31 rfl w.heap.size 3 i0 _ 8 Try.underlying31 hi hz0 hz1 hz2 rfl _ _ _ rfl hown _ rfl rfl (by unfold maxLen; omega) (by omega) hB ?_; intro g2 cap2 w2 hown2 hg2 hgs2 hbel2 hsz2 hgr2)
            go_roundw
            case rel => exact ⟨k + 1, by go_num, by omega, rows_step HL.out hown2 (hbel.trans hbel2) (by omega) hgs2⟩
            case measure => simp [intOf]; omega
    · obtain rfl : k = n := by omega
      go_wp2_with fail
      go_ret
      exact ⟨_, rfl, hR⟩

end Go.Proofs.Ytapconhgcoefeaa.Luby
