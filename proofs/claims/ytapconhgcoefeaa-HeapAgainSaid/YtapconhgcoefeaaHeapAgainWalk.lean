/- The law of putting all in again, walked. -/
import Derived.Test.YtapconhgcoefeaaHeapAgain
namespace Go.Proofs.Ytapconhgcoefeaa.Heap
set_option linter.unusedVariables false
open Go.RowKit

def G3Head (I : Ids) (B n : Nat) (sc fl : List Nat) (w : World) (v : Value) (t : Nat) (i : Value) (wr : World) : Prop :=
  ∃ j : Nat, i = .int .i64 j ∧ j ≤ n ∧ G3 I B n sc fl w v (putIn fl n t j) wr
def G4Head (I : Ids) (B n : Nat) (sc fl : List Nat) (w : World) (v : Value) (i : Value) (wr : World) : Prop :=
  ∃ j : Nat, i = .int .i64 j ∧ j ≤ n ∧ G3 I B n sc fl w v (notin (fl.take j)) wr

theorem nats_at (l : List Nat) (k : Nat) (h : k < l.length) : (nats l)[k]? = some (.int .i64 (l.getD k 0 : Nat)) := by
  simp [nats, List.getD_eq_getElem?_getD, h]

set_option maxHeartbeats 4000000 in
set_option maxRecDepth 100000 in
theorem loop_again (a0 : Option Addr) (len0 cap0 : Nat) (z0 : List Int) (a1 : Int) (w : World) (w0 : IsRow .u32 w a0 len0 cap0 z0) (w1 : (Lit.int .u8 a1).wf = true) (hlen : len0 ≤ 200) :
    Calls Try.prog 12 #[.slice a0 len0 cap0, .int .u8 a1] w fun e w' => e = .returned (.bool true) ∧ Below w.heap.size w w' := by
  obtain ⟨i0, hi, hz0, hz1, hz2⟩ := info_parts info_int
  obtain ⟨bx, ox, z, hcell⟩ := isrow_u32 w0
  have hb := bounds_u8 w1
  obtain ⟨t, rfl⟩ := Int.eq_ofNat_of_zero_le hb.1
  have ht : t ≤ 255 := by omega
  have HC := Lib.hid hcell
  have hdec : ¬ (200 < (len0 : Int)) := by omega
  clear hcell w0 w1 hb
  go_enter Try.func12, Try.ntmps12
  go_wp2_with fail
  refine (new_nat len0 (by omega) _).mono ?_
  rintro e wa ⟨I, rfl, ha, hids, hba⟩
  have hst : F1 I len0 z w (.int .i64 0) wa := ⟨0, zeros len0, rfl, Nat.zero_le _, Told.zeros z len0, ha, hba⟩
  have HST := Lib.hid hst
  clear ha hst hba
  go_wp2_with fail
  go_loopw [7, 8, 22] (fun _ _ v wr => F1 I len0 z w v wr) (fun _ _ v _ => len0 - (intOf v).toNat)
  case atStart => exact HST.out
  case round =>
    clear HST
    obtain ⟨j, sc, rfl, hj, htold, hI, hbel⟩ := hrel
    by_cases hlt : j < len0
    · obtain ⟨rfl, hc0, hbx, hz⟩ := HC.out j hlt
      have hc : wr.cell? ⟨bx, ox + j, none⟩ = some (.int .u32 (z j : Nat)) := (hbel.cell (p := ⟨bx, ox + j, none⟩) hbx).trans hc0
      have hb := bump_yes hI (j + 1) (z j) (by omega) (by omega) (by omega)
      rw [bump_first (htold.2 j (Nat.le_refl _)) (by unfold most; omega)] at hb
      have hl := hI.len
      have hts := htold.step (by omega)
      have HB := Lib.hid hb
      have HTS := Lib.hid hts
      clear hb hI htold hc0 hl hts
      go_wp2_with fail
      refine HB.out.mono ?_
      rintro e w2 ⟨rfl, h2, s2⟩
      have hend : F1 I len0 z w (.int .i64 ((j : Int) + 1)) w2 := ⟨j + 1, _, by go_num, by omega, HTS.out, h2, hbel.trans (s2.below hbel.size hids)⟩
      have HEND := Lib.hid hend
      clear hend h2 s2
      go_wp2_with fail
      go_roundw
      case rel => exact HEND.out
      case measure => simp [intOf]; omega
    · obtain rfl : j = len0 := by omega
      obtain ⟨B, hB⟩ : ∃ B, B = wr.heap.size := ⟨_, rfl⟩
      have hhi : ∀ k, I.has k → k < B := fun k hk => by rw [hB]; exact hI.lt k hk
      have hst2 : G2Head I B j sc w (.slice none 0 0) (.int .i64 0) wr :=
        ⟨0, [], rfl, Nat.zero_le _, rfl, by rw [notin_nil]; exact hI, World.ownsRow_nil _ _ _ _, Order.nil _ _, by rw [notin_nil, cin_all]; rfl, hbel, by omega⟩
      have HST2 := Lib.hid hst2
      clear hI htold hbel hst2 hB
      go_wp2_with fail
      go_loopw [9, 35] (fun v i wr => G2Head I B j sc w v i wr) (fun _ i _ => j - (intOf i).toNat)
      case atStart => exact HST2.out
      case round =>
        clear HST2
        obtain ⟨i, fl, rfl, hi2, hG⟩ := hrel
        by_cases hlt2 : i < j
        · have hpop := pop_any hG.is
          have hcnt := hG.cnt
          have HPOP := Lib.hid hpop
          have HG := Lib.hid hG
          clear hpop hG
          go_wp2_with fail
          refine HPOP.out.mono ?_
          rintro e w2 ⟨s2, h | ⟨a, hbest, rfl, h2⟩⟩
          · omega
          · have hown := own_keep HG.out.own s2 hhi
            have hcp := cin_pop hbest.lo hbest.hi hbest.mem
            have hsz : B ≤ w2.heap.size := Nat.le_trans HG.out.sz s2.size
            have hst3 : ∀ (v' : Value) (w3 : World), Below B w2 w3 → w3.ownsRow B 3 1 v' (i + 1) (nats fl ++ [.int .i64 (a : Nat)]) → B ≤ w3.heap.size → G2Head I B j sc w v' (.int .i64 ((i : Int) + 1)) w3 := by
              intro v' w3 hb3 ho3 hs3
              have hsm : Sm (fun k => B ≤ k) w2 w3 := ⟨hb3.os, hb3.tape, hb3.output, hb3.size, fun k _ hk => hb3.block k (by omega)⟩
              have hl := HG.out.len
              refine ⟨i + 1, fl ++ [a], by go_num, by omega, by simp [hl], ?_, ?_, HG.out.ord.snoc hbest, ?_, ?_, hs3⟩
              · exact (h2.congr (fun x _ _ => notin_snoc fl a x)).keep hsm (fun k hk x => by have := hhi k hk; omega)
              · have e : nats (fl ++ [a]) = nats fl ++ [.int .i64 (a : Nat)] := by simp [nats]
                rw [e]; exact ho3
              · have e : cin (notin (fl ++ [a])) j = cin (fun x => notin fl x && decide (x ≠ a)) j := cin_congr (fun x _ _ => (notin_snoc fl a x).symm)
                rw [e]; omega
              · exact (HG.out.bel.trans (s2.below HG.out.bel.size hids)).trans (hb3.mono (by
                  rcases Nat.lt_or_ge B w.heap.size with x | x
                  · have := hids I.hb (.inl rfl)
                    have := hhi I.hb (.inl rfl)
                    omega
                  · exact x))
            have HST3 := Lib.hid hst3
            clear hst3 hcp hbest h2 s2 HPOP
            go_wp2_with (at_builtin; refine wp_append_one _ rfl (.tmp 37) (.tmp 40) 31 rfl B 3 i0 _ 8 Try.underlying31 hi hz0 hz1 hz2 rfl _ _ _ rfl hown _ rfl rfl (by unfold maxLen; omega) (by omega) hsz ?_; intro g2 cap2 w3 hown2 hg2 hgs2 hbel2 hsz2 hgr2)
            have HEND := Lib.hid (HST3.out _ w3 hbel2 hown2 (by omega))
            clear hown2 hgr2 hbel2
            go_roundw
            case rel => exact HEND.out
            case measure => simp [intOf]; omega
        · obtain rfl : i = j := by omega
          obtain ⟨ad, cap, rfl⟩ : ∃ ad cap, u9 = .slice ad i cap := by
            rcases hG.own.2 with ⟨e, e0⟩ | ⟨g, cap, cur, e, _⟩
            · subst e0; exact ⟨none, 0, e⟩
            · exact ⟨_, cap, e⟩
          have hzero : cin (notin fl) i = 0 := by have := hG.cnt; omega
          have hfl := hG.len
          have hord := hG.ord
          have hall : ∀ x, 1 ≤ x → x ≤ i → x ∈ fl := fun x h1 h2 => all_in hzero h1 h2
          have hnone : ∀ x, 1 ≤ x → x ≤ i → notin fl x = false := fun x h1 h2 => by simp [notin, hall x h1 h2]
          have hst4 : G3Head I B i sc fl w (.slice ad i cap) t (.int .i64 0) wr :=
            ⟨0, rfl, Nat.zero_le _, hG.is.congr (fun x h1 h2 => by rw [hnone x h1 h2]; rfl), hG.own, hG.bel, hG.sz⟩
          have HST4 := Lib.hid hst4
          have HORD := Lib.hid hord
          have HALL := Lib.hid hall
          have HZ := Lib.hid hzero
          have HFL := Lib.hid hfl
          clear hG hst4 hord hall hzero hfl hnone
          go_wp2_with fail
          go_loopw [10, 44] (fun _ v wr => G3Head I B i sc fl w (.slice ad i cap) t v wr) (fun _ v _ => i - (intOf v).toNat)
          case atStart => exact HST4.out
          case round =>
            clear HST4
            obtain ⟨k, rfl, hk, hG⟩ := hrel
            by_cases hlt3 : k < i
            · obtain ⟨m, hm⟩ : ∃ m, m = (k + t) % i := ⟨_, rfl⟩
              have hmi : m < i := by rw [hm]; exact Nat.mod_lt _ (by omega)
              have em : ((k : Int) + (t : Int)) % (i : Int) = (m : Int) := by rw [hm]; simp
              obtain ⟨x, hx⟩ : ∃ x, x = fl.getD m 0 := ⟨_, rfl⟩
              have hbest := HORD.out.best m (by rw [HFL.out]; exact hmi)
              have hx1 : 1 ≤ x := by rw [hx]; exact hbest.lo
              have hx2 : x ≤ i := by rw [hx]; exact hbest.hi
              obtain ⟨g, cap', e, _, _, _⟩ := owned_shape hG.own (by omega)
              simp only [Value.slice.injEq] at e
              obtain ⟨rfl, -, rfl⟩ := e
              have hfalse : putIn fl i t k x = false := by rw [hx, hm]; exact putIn_new HORD.out HFL.out hlt3
              have hc : wr.cell? ⟨g, m, none⟩ = some (.int .i64 (x : Nat)) := by
                rw [hG.own.cellAt m (by omega), nats_at _ _ (by rw [HFL.out]; exact hmi), ← hx]
              obtain ⟨pl, rw, hAt⟩ := hG.is
              have hpush := push_yes hAt x hx1 hx2 hfalse
              have HPUSH := Lib.hid hpush
              have HG := Lib.hid hG
              have HX := Lib.hid hx
              have HM := Lib.hid hm
              clear hpush hG hAt hbest hfalse hx hm
              go_wp2_with fail
              refine HPUSH.out.mono ?_
              rintro e w2 ⟨rfl, h2, s2⟩
              have hin : putIn fl i t (k + 1) x = true := by rw [← putIn_succ, ← HM.out, ← HX.out]; simp
              have h2' : Is w2 I i sc (putIn fl i t (k + 1)) := h2.congr (fun y _ _ => by rw [← putIn_succ, ← HM.out, ← HX.out])
              have hG2 := HG.out.next h2' s2 hids hhi
              have hc2 : w2.cell? ⟨g, m, none⟩ = some (.int .i64 (x : Nat)) := by
                rw [hG2.own.cellAt m (by omega), nats_at _ _ (by rw [HFL.out]; exact hmi), ← HX.out]
              obtain ⟨pl2, rw2, hAt2⟩ := h2'
              have hno := push_no2 hAt2 x hx1 hx2 hin
              have HNO := Lib.hid hno
              have hend : G3Head I B i sc fl w (.slice (some ⟨g, 0, none⟩) i cap) t (.int .i64 ((k : Int) + 1)) w2 := ⟨k + 1, by go_num, by omega, hG2⟩
              have HEND := Lib.hid hend
              clear h2 s2 hin hG2 hAt2 hno hend hc
              go_wp2_with fail
              refine HNO.out.mono ?_
              rintro e w3 ⟨rfl, rfl⟩
              clear HNO
              go_wp2_with fail
              go_roundw
              case rel => exact HEND.out
              case measure => simp [intOf]; omega
            · obtain rfl : k = i := by omega
              have hst5 : G4Head I B k sc fl w (.slice ad k cap) (.int .i64 0) wr :=
                ⟨0, rfl, Nat.zero_le _, hG.is.congr (fun x h1 h2 => by rw [putIn_all HFL.out (HALL.out x h1 h2)]; simp [notin]), hG.own, hG.bel, hG.sz⟩
              have HST5 := Lib.hid hst5
              clear hG hst5
              go_wp2_with fail
              go_loopw [12, 75] (fun _ v wr => G4Head I B k sc fl w (.slice ad k cap) v wr) (fun _ v _ => k - (intOf v).toNat)
              case atStart => exact HST5.out
              case round =>
                clear HST5
                obtain ⟨q, rfl, hq, hG⟩ := hrel
                by_cases hlt4 : q < k
                · obtain ⟨x, hx⟩ : ∃ x, x = fl.getD q 0 := ⟨_, rfl⟩
                  have hbest := HORD.out.best q (by rw [HFL.out]; exact hlt4)
                  rw [← hx] at hbest
                  obtain ⟨g, cap', e, _, _, _⟩ := owned_shape hG.own (by omega)
                  simp only [Value.slice.injEq] at e
                  obtain ⟨rfl, -, rfl⟩ := e
                  have hc : wr.cell? ⟨g, q, none⟩ = some (.int .i64 (x : Nat)) := by
                    rw [hG.own.cellAt q (by omega), nats_at _ _ (by rw [HFL.out]; exact hlt4), ← hx]
                  have hpop := pop_any hG.is
                  have HPOP := Lib.hid hpop
                  have HG := Lib.hid hG
                  have HX := Lib.hid hx
                  have HB := Lib.hid hbest
                  clear hpop hG hx hbest
                  go_wp2_with fail
                  refine HPOP.out.mono ?_
                  rintro e w2 h
                  obtain ⟨rfl, h2, s2⟩ := h.some HB.out
                  have h2' : Is w2 I k sc (notin (fl.take (q + 1))) := h2.congr (fun y _ _ => by
                    rw [notin_snoc, HX.out, ← take_snoc _ _ (by rw [HFL.out]; exact hlt4)])
                  have hend : G4Head I B k sc fl w (.slice (some ⟨g, 0, none⟩) k cap) (.int .i64 ((q : Int) + 1)) w2 := ⟨q + 1, by go_num, by omega, HG.out.next h2' s2 hids hhi⟩
                  have HEND := Lib.hid hend
                  clear h h2 s2 h2' hend
                  go_wp2_with fail
                  go_roundw
                  case rel => exact HEND.out
                  case measure => simp [intOf]; omega
                · obtain rfl : q = k := by omega
                  have HG := Lib.hid hG
                  clear hG
                  go_wp2_with fail
                  refine (fixed_any _).mono ?_
                  rintro e w2 ⟨rfl, hb2⟩
                  have hI2 := HG.out.is.fixed hb2
                  obtain ⟨pl, rw, h3⟩ := hI2
                  have hl := len_at h3
                  have et : fl.take q = fl := List.take_of_length_le (by rw [HFL.out]; exact Nat.le_refl _)
                  rw [h3.cnt, et, HZ.out] at hl
                  have HL := Lib.hid hl
                  have HB := Lib.hid (HG.out.bel.trans (hb2.mono HG.out.bel.size))
                  clear hl h3 et hb2
                  go_wp2_with (go_at_call 39; refine HL.out.mono ?_; rintro e w' ⟨rfl, rfl⟩)
                  go_ret
                  exact ⟨rfl, HB.out⟩

set_option maxHeartbeats 1000000 in
theorem law_again (a0 : Option Addr) (len0 cap0 : Nat) (z0 : List Int) (a1 : Int) (w : World) (w0 : IsRow .u32 w a0 len0 cap0 z0) (w1 : (Lit.int .u8 a1).wf = true) :
    Calls Try.prog 12 #[.slice a0 len0 cap0, .int .u8 a1] w fun e w' => e = .returned (.bool true) ∧ Below w.heap.size w w' := by
  by_cases hlen : len0 ≤ 200
  · exact loop_again a0 len0 cap0 z0 a1 w w0 w1 hlen
  · have h : (200 : Int) < (len0 : Int) := by omega
    clear w0 hlen w1
    go_enter Try.func12, Try.ntmps12
    go_wp2_with (go_at_call 35; refine (fixed_any _).mono ?_; rintro e w' ⟨rfl, hb⟩)
    go_ret
    exact ⟨rfl, hb⟩

end Go.Proofs.Ytapconhgcoefeaa.Heap
