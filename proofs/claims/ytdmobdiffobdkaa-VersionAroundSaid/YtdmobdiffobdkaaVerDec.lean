/- The law's decimal numbers: digits, at most nine. -/
import Derived.Test.YtdmobdiffobdkaaVerTailWalk
import Derived.Laws.IdiomStrings
namespace Go.Proofs.Ytdmobdiffobdkaa.Ver
set_option linter.unusedVariables false
set_option linter.unusedSimpArgs false
open Go.RowKit Go.Shelf

theorem ten_step (m k : Nat) (h : m < 10 ^ (9 - k)) (hk : k ≤ 8) : m / 10 < 10 ^ (9 - (k + 1)) := by
  have e : 9 - k = (9 - (k + 1)) + 1 := by omega
  rw [e, Nat.pow_succ] at h
  omega
theorem ten_small (m k : Nat) (h : m < 10 ^ (9 - k)) (hm : k = 0 ∨ 0 < m) : k ≤ 8 := by
  rcases hm with rfl | hm
  · omega
  · rcases Nat.lt_or_ge k 9 with h' | h'
    · omega
    · rw [show 9 - k = 0 by omega] at h
      simp at h; omega

/-- digits, and how many. -/
def DigPost (w : World) (e : Ending) (w' : World) : Prop := ∃ d : ByteArray, e = .returned (.string d) ∧ digitsP d.data.toList = true ∧ d.size ≤ 9 ∧ Below w.heap.size w w'

set_option maxHeartbeats 2000000 in
theorem decimal_any (n : Nat) (w : World) (hn : n < 1000000000) : Calls Try.prog 25 #[.int .u32 n] w (DigPost w) := by
  go_enter Try.func25, Try.ntmps25
  go_wp2_with fail
  go_loopw [0, 3] (fun x y wr => ∃ (m : Nat) (d : ByteArray), x = .int .u32 m ∧ y = .string d ∧ m < 10 ^ (9 - d.size) ∧ (d.size = 0 ∨ 0 < m) ∧ d.data.toList.all dig = true ∧ Below w.heap.size w wr) (fun x _ _ => (intOf x).toNat)
  case atStart => exact ⟨n, ⟨#[]⟩, rfl, rfl, hn, .inl rfl, rfl, Below.refl _ _⟩
  case round =>
    obtain ⟨m, d, rfl, rfl, h1, h2, h3, hb⟩ := hrel
    have H1 := Lib.hid h1
    have hk := ten_small m d.size h1 h2
    have hm9 : (m : Int) ≤ 1000000000 := by
      have : (10 : Nat) ^ (9 - d.size) ≤ 10 ^ 9 := Nat.pow_le_pow_right (by omega) (by omega)
      omega
    have hk' : (d.size : Int) ≤ 8 := by omega
    clear h1
    obtain ⟨b, hbn⟩ : ∃ b : UInt8, b.toNat = 48 + m % 10 := ⟨UInt8.ofNat (48 + m % 10), by simp; omega⟩
    have hbi : (b.toNat : Int) = 48 + (m : Int) % 10 := by omega
    have hdig : dig b = true := by simp [dig]; omega
    have hcv : (convert 56 9 (.slice (some ⟨wr.heap.size, 0, none⟩) 1 1)).run Try.prog (wr.alloc (.cells #[.int .u8 (48 + (m : Int) % 10)] 5)) = .ok (.string ⟨#[b]⟩) (wr.alloc (.cells #[.int .u8 (48 + (m : Int) % 10)] 5)) := by
      refine run_convert_bytes_back (P := Try.prog) _ _ _ _ ⟨wr.heap.size, 0, none⟩ 1 [b] Try.underlying56 Try.underlying5 Try.underlying9 ?_
      intro j hj
      match j, hj with
      | 0, _ =>
        simp only [List.getElem_cons_zero]
        rw [hbi]
        exact blk_cell (j := 0) (heap_alloc_new wr _) rfl
    have HBI := Lib.hid hbi
    have HBN := Lib.hid hbn
    have ND : Hid (((⟨#[b]⟩ : ByteArray) ++ d).data.toList.all dig = true) := Lib.hid (by rw [ByteArray.data_append]; simp [hdig]; simpa using h3)
    have NS : Hid (((⟨#[b]⟩ : ByteArray) ++ d).size = d.size + 1) := Lib.hid (by rw [ByteArray.size_append]; show 1 + d.size = _; omega)
    have HB := Lib.hid (hb.alloc hb.size (.cells #[.int .u8 (48 + (m : Int) % 10)] 5))
    clear hbi hbn hdig h3 hb
    by_cases hz : m / 10 = 0
    · have hz1 : ((m : Int) / 10 == 0) = true := by simp; omega
      go_wp2_with fail
      go_ret
      refine ⟨_, rfl, ?_, by rw [NS.out]; omega, HB.out⟩
      have : ((⟨#[b]⟩ : ByteArray) ++ d).data.toList.isEmpty = false := ne_isEmpty _ (by rw [NS.out]; omega)
      rw [digitsP, ND.out, this]; rfl
    · have hz1 : ((m : Int) / 10 == 0) = false := beq_eq_false_iff_ne.2 (by omega)
      have T := Lib.hid (ten_step m d.size H1.out hk)
      go_wp2_with fail
      go_roundw
      case rel => exact ⟨m / 10, _, by go_num, rfl, by rw [NS.out]; exact T.out, .inr (by omega), ND.out, HB.out⟩
      case measure => simp [intOf]; omega

end Go.Proofs.Ytdmobdiffobdkaa.Ver
