/- Variants: the usual settings. -/
import Derived.Test.YtbffcehaednefaaVariantF
import Derived.Deep.RegionLaw
import Derived.Deep.AppendLies
namespace Go.Proofs.Ytbffcehaednefaa.Variant
set_option linter.unusedVariables false
set_option linter.unusedSimpArgs false
open Go.RowKit

theorem setting_info : ∃ i, Try.prog.info? 33 = some i ∧ i.zero = some (.agg #[.string ⟨#[]⟩, .string ⟨#[]⟩]) ∧ i.size = 2 ∧ i.bytes = 32 := by
  obtain ⟨i, hi, hz⟩ := Option.map_eq_some_iff.1 info_setting
  simp only [Prod.mk.injEq] at hz
  exact ⟨i, hi, hz⟩
theorem own_base {w : World} {base : Nat} {e : TypeId} {size : Nat} {v : Value} {n : Nat} {xs : List Value} (h : w.ownsRow base e size v n xs) : ∀ j, v.ownBlock = some j → base ≤ j := by
  intro j hj
  rcases h.2 with ⟨hv, _⟩ | ⟨g, cap, cur, hv, hb, _⟩
  · rw [hv] at hj; simp [Value.ownBlock] at hj
  · rw [hv] at hj; simp [Value.ownBlock] at hj; omega
/-- the cells of the first k usual settings. -/
def usualTo (L : List Vr) : Nat → List Value
  | 0 => []
  | k + 1 => usualTo L k ++ [.string (L.getD k vr0).1, .string ((L.getD k vr0).2.getD 0 ByteArray.empty)]

set_option maxHeartbeats 2000000 in
theorem usual_any (A : Option Addr) (L : List Vr) (m c : Nat) (w : World) (h : VRow w w.heap.size A L) (hn : m = L.length) (hm : m ≤ 4) (hv : ∀ j, j < L.length → 0 < (L.getD j vr0).2.length) :
    Calls Try.prog 41 #[.slice A m c] w fun e w' => ∃ v, e = .returned v ∧ w'.ownsRow w.heap.size 33 2 v m (usualTo L m) ∧ Below w.heap.size w w' := by
  have z4 : (m : Int) ≤ 4 := by omega
  obtain ⟨i0, hi, hz0, hz1, hz2⟩ := setting_info
  have HN := Lib.hid hn
  have H := Lib.hid h
  have HV := Lib.hid hv
  have HM := Lib.hid hm
  have HI := Lib.hid (And.intro hi (And.intro hz0 (And.intro hz1 hz2)))
  clear hn h hv hm hi hz0 hz1 hz2
  go_enter Try.func41, Try.ntmps41
  go_wp2_with fail
  go_loopw [3, 5, 8] (fun s _ v wr => ∃ k : Nat, v = .int .i64 k ∧ k ≤ m ∧ Below w.heap.size w wr ∧ wr.ownsRow w.heap.size 33 2 s k (usualTo L k)) (fun _ _ v _ => m - (intOf v).toNat)
  case atStart => exact ⟨0, rfl, Nat.zero_le _, Below.refl _ _, World.ownsRow_nil _ _ _ _⟩
  case round =>
    obtain ⟨k, rfl, hk, hbel, hown⟩ := hrel
    have J := Lib.hid hbel
    have OWN := Lib.hid hown
    clear hbel hown
    by_cases hlt : k < m
    · have hlt' : (k : Int) < (m : Int) := by omega
      have h' := H.out.below (Nat.le_refl _) J.out
      rcases h' with h' | ⟨b, bo, rfl, hb, hcell⟩
      · exfalso; have := HN.out; rw [h'] at this; simp at this; omega
      · obtain ⟨A', n', c', e1, e2, e3, e4, e5, e6⟩ := hcell k (by have := HN.out; omega)
        have hv := HV.out k (by have := HN.out; omega)
        rw [← e1] at hv
        rcases e4 with e4 | ⟨b', bo', rfl, hb', hc'⟩
        · exfalso; rw [e4] at e1; simp at e1; omega
        · have hval := hc' 0 (by omega)
          rw [Nat.add_zero] at hval
          obtain ⟨x, hx⟩ : ∃ x, x = (L.getD k vr0).1 := ⟨_, rfl⟩
          obtain ⟨val, hp⟩ : ∃ val, val = (L.getD k vr0).2.getD 0 ByteArray.empty := ⟨_, rfl⟩
          rw [← hx] at e5
          rw [← hp] at hval
          have hn1 : 0 < (n' : Int) := by omega
          have R := Lib.hid (boxV_cells wr x (some ⟨b', bo', none⟩) n' c')
          obtain ⟨c0, c1⟩ := R.out
          have hcv : (wr.alloc (.cells #[.string x, .slice (some ⟨b', bo', none⟩) n' c'] 30)).cell? ⟨b', bo', none⟩ = some (.string val) := (((Below.refl wr.heap.size wr).alloc (Nat.le_refl _) _).cell (p := ⟨b', bo', none⟩) (by have := J.out.size; show b' < _; omega)).trans hval
          have US : Hid (usualTo L (k + 1) = usualTo L k ++ [.string x, .string val]) := Lib.hid (by rw [hx, hp]; rfl)
          clear hcell hc' hx hp e1 e2 e3 hv
          go_wp2_with fail
          have hsz : ((wr.alloc (.cells #[.string x, .slice (some ⟨b', bo', none⟩) n' c'] 30)).alloc (.cells #[.string x, .string val] 33)).drew.heap.size = wr.heap.size + 1 + 1 := by show ((wr.alloc (.cells #[.string x, .slice (some ⟨b', bo', none⟩) n' c'] 30)).alloc (.cells #[.string x, .string val] 33)).heap.size = _; simp
          have hnw : ((wr.alloc (.cells #[.string x, .slice (some ⟨b', bo', none⟩) n' c'] 30)).alloc (.cells #[.string x, .string val] 33)).drew.heap[wr.heap.size + 1]? = some (.cells #[.string x, .string val] 33) := by
            have h := heap_alloc_new (wr.alloc (.cells #[.string x, .slice (some ⟨b', bo', none⟩) n' c'] 30)) (.cells #[.string x, .string val] 33)
            rw [World.size_alloc] at h
            exact h
          have hNEWS : ∀ j u, [Value.string x, .string val][j]? = some u → ((wr.alloc (.cells #[.string x, .slice (some ⟨b', bo', none⟩) n' c'] 30)).alloc (.cells #[.string x, .string val] 33)).drew.cell? ((⟨wr.heap.size + 1, 0, none⟩ : Addr).add j) = some u := World.news_of_block (w := ((wr.alloc (.cells #[.string x, .slice (some ⟨b', bo', none⟩) n' c'] 30)).alloc (.cells #[.string x, .string val] 33)).drew) (cs := #[Value.string x, .string val]) hnw
          have hONE : ∀ u ∈ [Value.string x, .string val], u.oneCell' = true := by
            intro u hu
            simp at hu
            rcases hu with rfl | rfl <;> rfl
          have hOWN : ((wr.alloc (.cells #[.string x, .slice (some ⟨b', bo', none⟩) n' c'] 30)).alloc (.cells #[.string x, .string val] 33)).drew.ownsRow w.heap.size 33 2 u3 k (usualTo L k) := ((OWN.out.alloc _).alloc _).drew
          have hBASE : w.heap.size ≤ ((wr.alloc (.cells #[.string x, .slice (some ⟨b', bo', none⟩) n' c'] 30)).alloc (.cells #[.string x, .string val] 33)).drew.heap.size := by rw [hsz]; have := J.out.size; omega
          have hMAX : k + 1 ≤ maxLen := by unfold maxLen; omega
          have hBY : (k + 1) * 32 ≤ 140737488355328 := by have := HM.out; omega
          have BW2 : Hid (Below w.heap.size w ((wr.alloc (.cells #[.string x, .slice (some ⟨b', bo', none⟩) n' c'] 30)).alloc (.cells #[.string x, .string val] 33)).drew) := Lib.hid (((J.out.alloc J.out.size _).alloc (by have := J.out.size; simp; omega) _).drew)
          obtain ⟨hi, hz0, hz1, hz2⟩ := HI.out
          have hblk : ∀ j, u3.ownBlock = some j → w.heap.size ≤ j := own_base OWN.out
          go_region_law
            ((refine step_append_lies _ (by rfl) _ _ _ (by rfl) w.heap.size 33 i0 (.agg #[.string ⟨#[]⟩, .string ⟨#[]⟩]) 2 32 Try.underlying31 hi hz0 hz1 hz2 (by rfl) (by omega) u3 k (usualTo L k) (by rfl) hOWN ⟨wr.heap.size + 1, 0, none⟩ 1 1 [.string x, .string val] (by rfl) (by rfl) hNEWS hONE (Nat.lt_succ_self 0) hMAX hBY hBASE (wr.heap.size + 1 + 1) hsz ?_; intro g cap w1 hown1 hgrow hat hlt1))
          all_goals
            have BF := Lib.hid (BW2.out.grown hgrow hBASE (hblk))
            have OF := Lib.hid (show w1.ownsRow w.heap.size 33 2 (.slice (some ⟨g, 0, none⟩) (k + 1) cap) (k + 1) (usualTo L (k + 1)) from by rw [US.out]; exact hown1)
            clear hown1 hgrow hat hlt1 hsz hnw hNEWS hONE hOWN hBASE hMAX hBY hblk
            go_wp2_with fail
            go_roundw
            case rel => exact ⟨k + 1, by go_num, by omega, BF.out, OF.out⟩
            case measure => simp [intOf]; omega
    · have e : k = m := by omega
      subst e
      go_wp2_with fail
      go_ret
      exact ⟨_, rfl, OWN.out, J.out⟩

end Go.Proofs.Ytbffcehaednefaa.Variant
