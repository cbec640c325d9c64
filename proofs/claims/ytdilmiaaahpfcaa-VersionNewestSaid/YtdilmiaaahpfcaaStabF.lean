/- Stable sorting: by putting in, one after the other. -/
import Derived.Test.YtdilmiaaahpfcaaStabC
namespace Go.Proofs.Ytdilmiaaahpfcaa.Stab
set_option linter.unusedVariables false
set_option linter.unusedSimpArgs false
open Go.RowKit
open Go.Proofs.Ytdilmiaaahpfcaa.Ver (cmpV ord_v Ord Bs)

theorem MergedIn.trans {a i k : Nat} {f f' f'' : Fn'} (h1 : MergedIn ltN a i f f') (h2 : MergedIn ltN a k f' f'') (ha : a ≤ i) (hk : i ≤ k) : MergedIn ltN a k f f'' :=
  ⟨fun t ht => by rw [h2.out t ht, h1.out t (by omega)], h2.mrg.srt, (h1.alike (Nat.le_refl _) hk ha).trans h2.mrg.alike⟩
theorem MergedIn.one (f : Fn') (a : Nat) : MergedIn ltN a (a + 1) f f := by
  refine ⟨fun _ _ => rfl, merged_left woN ?_⟩
  rw [seg_one]
  exact List.pairwise_singleton _ _
theorem MergedIn.none (f : Fn') (a : Nat) : MergedIn ltN a a f f := by
  refine ⟨fun _ _ => rfl, merged_left woN ?_⟩
  rw [seg_nil f (Nat.le_refl _)]
  exact List.Pairwise.nil

set_option maxHeartbeats 8000000 in
set_option maxRecDepth 100000 in
theorem insSort_any (hC : CMP) {B g n cap a b : Nat} {f : Fn'} {w W : World} (h : St B g n f w W) (hg : B ≤ g) (hw : B ≤ w.heap.size) (hab : a ≤ b) (hb : b ≤ n) (hn : n ≤ 1000) (hz : SZ f) :
    Calls Try.prog 40 #[.slice (some ⟨g, 0, none⟩) n cap, .int .i64 (a : Nat), .int .i64 (b : Nat), cv] W fun e w' => e = .returned (.tuple #[]) ∧ ∃ f', St B g n f' w w' ∧ MergedIn ltN a b f f' := by
  have z1 : (b : Int) ≤ 1000 := by omega
  have z2 : (a : Int) ≤ 1000 := by omega
  have z3 : (n : Int) ≤ 1000 := by omega
  have HD : Hid (a ≤ b ∧ b ≤ n ∧ n ≤ 1000) := Lib.hid ⟨hab, hb, hn⟩
  have S0 := Lib.hid h
  have HG := Lib.hid hg
  have HZ := Lib.hid hz
  have HC := Lib.hid hC
  have HW := Lib.hid hw
  clear h hg hab hb hn hz hC hw
  go_enter Try.func40, Try.ntmps40
  go_wp2_with fail
  go_loopw [8, 9] (fun v _ wr => ∃ (i : Nat) (h : Fn'), v = .int .i64 i ∧ a + 1 ≤ i ∧ i ≤ 1001 ∧ ((i ≤ b ∧ MergedIn ltN a i f h) ∨ (b = a ∧ i = a + 1 ∧ h = f)) ∧ St B g n h w wr ∧ SZ h) (fun v _ _ => b - (intOf v).toNat)
  case atStart => exact ⟨a + 1, f, by first | rfl | go_num, Nat.le_refl _, by omega, by
      have := HD.out
      rcases Nat.lt_or_ge a b with k | k
      · exact .inl ⟨by omega, MergedIn.one _ _⟩
      · exact .inr ⟨by omega, rfl, rfl⟩, S0.out, HZ.out⟩
  case round =>
    obtain ⟨i, h, rfl, hi, hi2, hor, hst, hzz⟩ := hrel
    have SI := Lib.hid hst
    have HO := Lib.hid hor
    have ZI := Lib.hid hzz
    have HI := Lib.hid hi
    have i1 : (i : Int) ≤ 1001 := by omega
    clear hst hor hzz S0 hi hi2
    by_cases hlt : i < b
    · have hlt' : (i : Int) < (b : Int) := by omega
      have MI : Hid (MergedIn ltN a i f h) := Lib.hid (by
        rcases HO.out with ⟨_, k⟩ | ⟨k1, k2, _⟩
        · exact k
        · omega)
      have S1 : Hid (St B g n (movB h i i) w wr) := Lib.hid (by rw [movB_start]; exact SI.out)
      clear HO
      go_wp2_with fail
      go_loopw [9] (fun v wq => ∃ j : Nat, v = .int .i64 j ∧ a ≤ j ∧ j ≤ i ∧ St B g n (movB h i j) w wq ∧ ∀ t, j ≤ t → t < i → ltN (h i) (h t) = true) (fun v _ => (intOf v).toNat)
      case atStart => exact ⟨i, rfl, by have := HI.out; omega, Nat.le_refl _, S1.out, fun t h1 h2 => by omega⟩
      case round =>
        obtain ⟨j, rfl, hja, hji, hst, hlo⟩ := hrel
        have SI := Lib.hid hst
        have LOW := Lib.hid hlo
        have JB : Hid (a ≤ j ∧ j ≤ i ∧ a + 1 ≤ i) := Lib.hid ⟨hja, hji, HI.out⟩
        have j1 : (j : Int) ≤ 1000 := by have := HD.out; omega
        have MG : Hid ((∀ t, a ≤ t → t < j → ltN (h i) (h t) = false) → MergedIn ltN a (i + 1) f (movB h i j)) := Lib.hid (fun k => MI.out.trans (movB_merged hja hji MI.out.mrg.srt k hlo) (by have := HI.out; omega) (by omega))
        have ZN : Hid (SZ (movB h i j)) := Lib.hid (fun t => by
          unfold movB
          split
          · exact ZI.out _
          · split
            · exact ZI.out _
            · exact ZI.out _)
        clear hst hlo S1 hja hji
        by_cases hj0 : j = a
        · have hj0' : ¬ (a : Int) < (j : Int) := by omega
          have MG := Lib.hid (MG.out (fun t h1 h2 => by omega))
          have hbj : decide ((a : Int) < (j : Int)) = false := decide_eq_false (by omega)
          have hbj2 : ¬ (a : Int) < (j : Int) := by omega
          have hbj3 : decide (a < j) = false := decide_eq_false (by omega)
          have hbj4 : ¬ a < j := by omega
          have SD := Lib.hid SI.out.drew1
          clear hj0
          go_wp2_with fail
          go_region
          go_wp2_with fail
          go_roundw
          case rel => exact ⟨i + 1, _, by go_num, by have := HI.out; omega, by omega, .inl ⟨by omega, MG.out⟩, SD.out, ZN.out⟩
          case measure => simp [intOf]; omega
        · have hja' : (a : Int) < (j : Int) := by have := JB.out; omega
          obtain ⟨q, hq⟩ : ∃ q, j = q + 1 := ⟨j - 1, by have := JB.out; omega⟩
          have eq' : (j : Int) - 1 = (q : Int) := by omega
          have QB : Hid (j = q + 1 ∧ a ≤ q) := Lib.hid ⟨hq, by have := JB.out; omega⟩
          have pn : j < n := by have := JB.out; have := HD.out; omega
          have qn : q < n := by omega
          have pn' : (j : Int) < (n : Int) := by omega
          have qn' : (q : Int) < (n : Int) := by omega
          have q1' : (q : Int) ≤ 1000 := by omega
          have wq0 : IntKind.i64.wrap (q : Int) = (q : Int) := IntWalk.i64_in _ (by omega)
          have wq2 : IntKind.i64.wrap ((j : Int) - 1) = (q : Int) := by rw [eq']; exact wq0
          have vj : movB h i j j = h i := by unfold movB; rw [if_pos rfl]
          have vq : movB h i j q = h q := by unfold movB; rw [if_neg (by omega), if_neg (by omega)]
          obtain ⟨z, hz⟩ : ∃ z, z = cfN (h i) (h q) := ⟨_, rfl⟩
          have CC : Hid (∀ W, Calls Try.prog 25 #[.string (h i), .string (h q)] W fun e w' => e = .returned (.int .i64 z) ∧ Below W.heap.size W w') := Lib.hid (fun W => by rw [hz]; exact HC.out _ _ W (ZI.out i) (ZI.out q))
          have VJ := Lib.hid vj
          have VQ := Lib.hid vq
          clear hj0 hq vj vq
          cases hl : ltN (h i) (h q) with
          | false =>
            have znn : 0 ≤ z := by
              have := cfN_lt (h i) (h q)
              rw [← hz, hl] at this
              simp at this; omega
            have zb : decide (z < 0) = false := by simp; omega
            have MG := Lib.hid (MG.out (fun t h1 h2 => by
              rcases Nat.lt_or_ge t q with h3 | h3
              · have := srt_seg.1 MI.out.mrg.srt t q h1 h3 (by have := JB.out; have := QB.out; omega)
                exact woN.ntrans _ _ _ hl this
              · rw [show t = q by have := QB.out; omega]; exact hl))
            clear hz hl
            go_wp2_with fail
            have R := Lib.hid SI.out.drew1
            have c0 : wr.drew.cell? ⟨g, j, none⟩ = some (.string (h i)) := by rw [← VJ.out]; exact R.out.row.cell pn
            have c1 : wr.drew.cell? ⟨g, q, none⟩ = some (.string (h q)) := by rw [← VQ.out]; exact R.out.row.cell qn
            go_region_held3 (fun W' => W'.cell? ⟨g, j, none⟩ = some (.string (h i)) ∧ W'.cell? ⟨g, q, none⟩ = some (.string (h q)))
              (first | exact ⟨c0, c1⟩ | go_keep)
              (first | (go_at_call 25; (with_reducible refine (CC.out _).mono ?_); rintro e w1 ⟨rfl, hb⟩; have R := Lib.hid (R.out.below HW.out hb); clear hb; clear c0 c1; have c0 := R.out.row.cell pn; have c1 := R.out.row.cell qn; rw [VJ.out] at c0; rw [VQ.out] at c1))
            go_wp2_with fail
            go_roundw
            case rel => exact ⟨i + 1, _, by go_num, by have := HI.out; omega, by omega, .inl ⟨by omega, MG.out⟩, R.out, ZN.out⟩
            case measure => simp [intOf]; omega
          | true =>
            have zneg : z < 0 := by rw [hz]; exact (cfN_lt _ _).2 hl
            have zb : decide (z < 0) = true := by simp; omega
            have LN : Hid (∀ t, q ≤ t → t < i → ltN (h i) (h t) = true) := Lib.hid (fun t h1 h2 => by
              rcases Nat.lt_or_ge q t with h3 | h3
              · exact LOW.out t (by have := QB.out; omega) h2
              · rw [show t = q by omega]; exact hl)
            clear hz hl
            go_wp2_with fail
            have R := Lib.hid SI.out.drew1
            have c0 : wr.drew.cell? ⟨g, j, none⟩ = some (.string (h i)) := by rw [← VJ.out]; exact R.out.row.cell pn
            have c1 : wr.drew.cell? ⟨g, q, none⟩ = some (.string (h q)) := by rw [← VQ.out]; exact R.out.row.cell qn
            go_region_held3 (fun W' => W'.cell? ⟨g, j, none⟩ = some (.string (h i)) ∧ W'.cell? ⟨g, q, none⟩ = some (.string (h q)))
              (first | exact ⟨c0, c1⟩ | go_keep)
              (first | (go_at_call 25; (with_reducible refine (CC.out _).mono ?_); rintro e w1 ⟨rfl, hb⟩; have R := Lib.hid (R.out.below HW.out hb); clear hb; clear c0 c1; have c0 := R.out.row.cell pn; have c1 := R.out.row.cell qn; rw [VJ.out] at c0; rw [VQ.out] at c1))
            go_wp2_with fail
            have cp := c0
            have cq := c1
            have fp := R.out.row.free j
            have fq := R.out.row.free q
            have ne1 : ¬ j = q := by have := QB.out; omega
            have ne2 : ¬ q = j := by omega
            have NX : Hid (swp (movB h i j) j q = movB h i q) := Lib.hid (by rw [QB.out.1]; exact movB_step h (by have := JB.out; have := QB.out; omega))
            have R2 : Hid (St B g n (movB h i q) w ((w1.setCell ⟨g, j, none⟩ (.string (h q))).setCell ⟨g, q, none⟩ (.string (h i))).drew) := Lib.hid (by rw [← NX.out, ← VJ.out]; conv => { arg 6; rw [← VQ.out] }; exact (R.out.set2 HG.out (R.out.row.swap1 pn qn ne1)).drew1)
            go_region
            go_wp2_with fail
            go_roundw
            case rel => exact ⟨q, by first | rfl | go_num, by have := QB.out; omega, by have := QB.out; have := JB.out; omega, R2.out, LN.out⟩
            case measure => have := QB.out; simp [intOf]; omega
    · go_wp2_with fail
      go_end0
      refine ⟨rfl, h, SI.out, ?_⟩
      rcases HO.out with ⟨k1, k2⟩ | ⟨k1, k2, k3⟩
      · rw [show b = i by omega]; exact k2
      · rw [k1, k3]; exact MergedIn.none _ _

end Go.Proofs.Ytdilmiaaahpfcaa.Stab
