/- The law OrderMore, walked. -/
import Derived.Test.YtbffcehaednefaaOrderMoreC
namespace Go.Proofs.Ytbffcehaednefaa.Order
set_option linter.unusedVariables false
set_option linter.unusedSimpArgs false
open Go.RowKit

theorem cnt_small (E : Es) (h : ∀ p, (E.getD p []).length ≤ 140737488355328) (k : Nat) (hk : k ≤ 40) : cnt E k ≤ 5629499534213160 := by
  have h1 := cnt_le E 140737488355328 h k
  omega

set_option maxHeartbeats 8000000 in
set_option maxRecDepth 100000 in
theorem law_more (A : Option Addr) (E : Es) (n c a b : Nat) (w : World) (h : ERow w w.heap.size A E) (hn : n = E.length) (h40 : n ≤ 40) (hB : ∀ p, (E.getD p []).length ≤ 140737488355328) (ha : a < 256) (hb : b < 256) :
    Calls Try.prog 9 #[.slice A n c, .int .u8 (a : Nat), .int .u8 (b : Nat)] w fun e w' => e = .returned (.bool true) ∧ Below w.heap.size w w' := by
  have z40 : (n : Int) ≤ 40 := by omega
  have ha' : (a : Int) < 256 := by omega
  have hb' : (b : Int) < 256 := by omega
  have HN := Lib.hid hn
  have H := Lib.hid h
  have HB := Lib.hid hB
  have N40 := Lib.hid h40
  have hmk := make_rows n (by omega)
  obtain ⟨i0, hi0, hz0, hz1, hz2⟩ := info_parts info_int
  have HII := Lib.hid (And.intro hi0 (And.intro hz0 (And.intro hz1 hz2)))
  clear hn h hB h40 hi0 hz0 hz1 hz2
  go_enter Try.func9, Try.ntmps9
  go_wp2_with fail
  go_loopw [8, 24] (fun tot v wr => ∃ k : Nat, tot = .int .i64 (cnt E k : Nat) ∧ v = .int .i64 k ∧ k ≤ n ∧ wr = w) (fun _ v _ => n - (intOf v).toNat)
  case atStart => exact ⟨0, rfl, rfl, Nat.zero_le _, rfl⟩
  case round =>
    obtain ⟨k, rfl, rfl, hk, hw0⟩ := hrel
    obtain rfl := hw0.symm
    by_cases hlt : k < n
    · have hlt' : (k : Int) < (n : Int) := by omega
      have HK : Hid (k < E.length) := Lib.hid (by have := HN.out; omega)
      rcases H.out with h' | ⟨b1, o, rfl, hb1, hcE⟩
      · exfalso; have := HK.out; rw [h'] at this; simp at this
      obtain ⟨A', n', c', e1, e2, e3, e4, e5⟩ := hcE k HK.out
      have hl1 : n' ≤ 140737488355328 := by rw [e1]; exact HB.out k
      have hl' : (n' : Int) ≤ 140737488355328 := by omega
      have hc1 := cnt_small E HB.out k (by have := N40.out; omega)
      have hcs : cnt E (k + 1) = cnt E k + (1 + n') := by rw [e1]; rfl
      obtain ⟨y, hy⟩ : ∃ y, y = cnt E k := ⟨_, rfl⟩
      rw [← hy] at hc1 hcs ⊢
      have hc1' : (y : Int) ≤ 5629499534213160 := by omega
      have HCS := Lib.hid hcs
      clear hcE e1 e2 e3 e4 hy hcs
      go_wp2_with fail
      go_roundw
      case rel => exact ⟨k + 1, by rw [HCS.out]; first | (push_cast; rfl) | (congr 1; push_cast; omega) | (congr 1; rw [IntWalk.i64_in _ (by omega)]; push_cast; omega), by go_num, by omega, by first | rfl | trivial⟩
      case measure => simp [intOf]; omega
    · obtain rfl : k = n := by omega
      clear hlt hk
      by_cases h240 : cnt E k ≤ 240
      · have C240 := Lib.hid h240
        obtain ⟨y, hy⟩ : ∃ y, y = cnt E k := ⟨_, rfl⟩
        rw [← hy] at h240 ⊢
        have hy' : (y : Int) ≤ 240 := by omega
        clear hy
        rcases Nat.eq_zero_or_pos k with h0 | h0
        · have h0' : ((k : Int) == 0) = true := by simp [h0]
          have FX := Lib.hid (fixed_any w)
          go_wp2_with fail
          go_at_call 34; refine FX.out.mono ?_; rintro e w3 ⟨rfl, hb⟩
          go_wp2_with fail
          go_ret
          exact ⟨rfl, hb⟩
        · have h0' : ((k : Int) == 0) = false := by
            cases hx : ((k : Int) == 0) with
            | false => rfl
            | true => have := eq_of_beq hx; omega
          have h0n : ¬ k = 0 := by omega
          have CR := Lib.hid (circle_any A E k c w H.out HN.out (by have := N40.out; omega))
          go_wp2_with (go_at_call 35; refine CR.out.mono ?_; rintro e w1 ⟨A', c', Q, rfl, hbel, hq⟩; have B1 := Lib.hid hbel; have HAD : Hid (decide (0 < Q.length) = true ↔ Cyclic E) := (Lib.hid (by rcases hq with ⟨h1, h2⟩ | ⟨h1, h2, _⟩; exact (⟨fun h => (by rw [h1] at h; simp at h), fun h => absurd h h2⟩); exact (⟨fun _ => ⟨_, h2⟩, fun _ => (by have := List.length_pos_iff.2 h1.ne; simp; omega)⟩))); clear hbel hq; obtain ⟨q, hqq⟩ : ∃ q : Bool, decide (0 < Q.length) = q := ⟨_, rfl⟩; rw [hqq] at HAD)
          have M0 := Lib.hid (MW.first E k w w1 B1.out)
          obtain ⟨gm, hgm⟩ : ∃ g, g = w1.heap.size := ⟨_, rfl⟩
          rw [← hgm] at M0 ⊢
          obtain ⟨gb, hgb⟩ : ∃ g, g = gm + 1 := ⟨_, rfl⟩
          rw [← hgb] at M0 ⊢
          obtain ⟨gu, hgu⟩ : ∃ g, g = gb + 1 := ⟨_, rfl⟩
          rw [← hgu] at M0 ⊢
          clear hgm hgb hgu hmk CR
          go_loopw [57] (fun v wr => ∃ (p : Nat) (V : Nat → Nat → Value) (L : Nat → Nat → List Int), v = .int .i64 p ∧ p ≤ k ∧ MW E k gm gb gu p p 0 V L w wr) (fun v _ => k - (intOf v).toNat)
          case atStart => exact ⟨0, _, _, rfl, Nat.zero_le _, M0.out⟩
          case round =>
            obtain ⟨p, V, L, rfl, hp, hM⟩ := hrel
            have M := Lib.hid hM
            clear hM M0
            by_cases hpk : p < k
            · have hpk' : (p : Int) < (k : Int) := by omega
              have PE : Hid (p < E.length) := Lib.hid (by have := HN.out; omega)
              rcases H.out with h' | ⟨b1, o, rfl, hb1, hcE⟩
              · exfalso; have := PE.out; rw [h'] at this; simp at this
              obtain ⟨A1, n', c1, e1, e2, e3, e4, e5⟩ := hcE p PE.out
              replace e5 := (M.out.rs.bel.cell (p := ⟨b1, o + p, none⟩) hb1).trans e5
              obtain ⟨l, hl⟩ : ∃ l, l = E.getD p [] := ⟨_, rfl⟩
              rw [← hl] at e1 e4
              have NL := Lib.hid e1
              have ROW := Lib.hid e4
              have LE := Lib.hid hl
              have CN : Hid (cnt E p + n' ≤ 240) := Lib.hid (by
                have h1 := cnt_mono E (show p + 1 ≤ k by omega)
                have h2 : cnt E (p + 1) = cnt E p + (1 + l.length) := by rw [hl]; rfl
                have := C240.out
                omega)
              have hn1 : n' ≤ 240 := by have := CN.out; omega
              have hn1' : (n' : Int) ≤ 240 := by omega
              have OWN0 : Hid ((wr.alloc (.cells #[] 3)).ownsRow wr.heap.size 3 1 (.slice (some ⟨wr.heap.size, 0, none⟩) 0 0) 0 []) := Lib.hid (World.ownsRow_lit wr #[] 0 (Nat.le_refl _) (Nat.zero_le _) rfl)
              have NEWS := Lib.hid (src_news (w1 := wr.alloc (.cells #[] 3)) e4 (M.out.rs.bel.alloc (M.out.rs.size M.out.gm').2 _))
              have h63 : n' ≤ maxLen := by unfold maxLen; omega
              have hby : n' * 8 ≤ 140737488355328 := by omega
              have BSZ0 : Hid (wr.heap.size ≤ (wr.alloc (.cells #[] 3)).heap.size) := Lib.hid (by simp)
              have CP := Lib.hid (fun v3 w3 h1 h2 => M.out.copy_step (v := v3) (w3 := w3) hpk hl e1 h1 h2)
              obtain ⟨hi0, hz0, hz1, hz2⟩ := HII.out
              clear hcE e1 e2 e3 e4 hl
              go_wp2_with (at_builtin; refine wpList_append_src _ rfl (.tmp 64) (.tmp 65) 52 rfl wr.heap.size 3 i0 _ 8 Try.underlying52 hi0 hz0 hz1 hz2 rfl wr.heap.size 0 rfl OWN0.out A1 n' c1 (rowV l) rfl (by rw [List.length_map]; exact NL.out.symm) NEWS.out (row_one l) h63 hby BSZ0.out ?_; intro v3 w3 hown hgrow; obtain ⟨A3, n3, c3, rfl⟩ := own_slice hown; obtain ⟨M1, fc1, fc2⟩ := CP.out _ w3 hown hgrow; have M1 := Lib.hid M1; clear hown hgrow)
              clear e5 fc1 fc2 OWN0 NEWS CP BSZ0
              go_loopw [70] (fun v wr => ∃ (j : Nat) (V : Nat → Nat → Value) (L : Nat → Nat → List Int), v = .int .i64 j ∧ j ≤ n' ∧ MW E k gm gb gu (p + 1) p j V L w wr) (fun v _ => n' - (intOf v).toNat)
              case atStart => exact ⟨0, _, _, rfl, Nat.zero_le _, M1.out⟩
              case round =>
                obtain ⟨j, V2, L2, rfl, hj, hM2⟩ := hrel
                have M2 := Lib.hid hM2
                clear hM2 M1 M
                by_cases hjn : j < n'
                · have hjn' : (j : Int) < (n' : Int) := by omega
                  have JL : Hid (j < (E.getD p []).length) := Lib.hid (by rw [← LE.out, ← NL.out]; exact hjn)
                  rcases ROW.out with h' | ⟨b', o', rfl, hb', hc'⟩
                  · exfalso; have := NL.out; rw [h'] at this; simp at this; omega
                  have ft := (M2.out.rs.bel.cell (p := ⟨b', o' + j, none⟩) hb').trans (hc' j (by rw [← NL.out]; exact hjn))
                  obtain ⟨t, ht⟩ : ∃ t, t = l.getD j 0 := ⟨_, rfl⟩
                  rw [← ht] at ft
                  have TT : Hid ((E.getD p []).getD j 0 = t) := Lib.hid (by rw [← LE.out, ht])
                  have hbb : ∀ q, (L2 gb q).length ≤ 239 := fun q => by have := M2.out.turned.lb q; have := CN.out; omega
                  have huu : ∀ q, (L2 gu q).length ≤ 239 := fun q => by have := M2.out.turned.lu q; have := CN.out; omega
                  obtain ⟨uc1, uc2⟩ := M2.out.rs.cell M2.out.gu' hpk
                  have hb2 : (L2 gu p).length + 1 ≤ maxLen ∧ ((L2 gu p).length + 1) * 8 ≤ 140737488355328 := by have := huu p; unfold maxLen; omega
                  have nbu : ¬ gb = gu := M2.out.bu
                  have nub : ¬ gu = gb := fun e => M2.out.bu e.symm
                  clear ht hc' huu
                  by_cases h0 : 0 ≤ t
                  · by_cases h1 : t < (k : Int)
                    · obtain ⟨u, rfl⟩ : ∃ u : Nat, t = (u : Int) := ⟨t.toNat, by omega⟩
                      have hun : u < k := by omega
                      have TU := TT
                      obtain ⟨bc1, bc2⟩ := M2.out.rs.cell M2.out.gb' hun
                      have hb1 : (L2 gb u).length + 1 ≤ maxLen ∧ ((L2 gb u).length + 1) * 8 ≤ 140737488355328 := by have := hbb u; unfold maxLen; omega
                      clear hbb
                      by_cases hup : (p : Int) < (u : Int)
                      · go_wp2_with (first | (at_builtin;refine wpList_append_lies _ rfl (.tmp 86) (.tmp 88) 52 rfl w.heap.size 3 i0 _ 1 8 Try.underlying52 hi0 hz0 hz1 hz2 rfl (by decide) _ _ _ rfl (M2.out.back_own hun (.cells #[.int .i64 (p : Nat)] 3)) ⟨wr.heap.size, 0, none⟩ 1 1 [.int .i64 (p : Nat)] rfl rfl (one_news wr (p : Nat)) (row_one [((p : Nat) : Int)]) (Nat.lt_succ_self 0) hb1.1 hb1.2 (M2.out.base_le (.cells #[.int .i64 (p : Nat)] 3)) _ rfl ?_; intro g3 cap3 w3 hown hgrow hat _; obtain ⟨M3, lk, ⟨fc1, fc2⟩, gc1, gc2⟩ := M2.out.back_step hpk JL.out hun TU.out hown hgrow hat; have M3 := Lib.hid M3; clear hown hgrow hat) | (at_builtin;refine wpList_append_lies _ rfl (.tmp 99) (.tmp 101) 52 rfl w.heap.size 3 i0 _ 1 8 Try.underlying52 hi0 hz0 hz1 hz2 rfl (by decide) _ _ _ rfl (M3.out.up_own (vv := V2 gu p) (ll := L2 gu p) (by rw [upd2_other _ _ _ (Ne.symm M2.out.bu)]) (by rw [upd2_other _ _ _ (Ne.symm M2.out.bu)]) hpk (.cells #[.int .i64 (u : Nat)] 3)) ⟨w3.heap.size, 0, none⟩ 1 1 [.int .i64 (u : Nat)] rfl rfl (one_news_at _ (u : Nat) w3.heap.size (by simp)) (row_one [((u : Nat) : Int)]) (Nat.lt_succ_self 0) hb2.1 hb2.2 (M3.out.base_le (.cells #[.int .i64 (u : Nat)] 3)) _ rfl ?_; intro g5 cap5 w5 hown hgrow hat _; obtain ⟨⟨V5, L5, M5⟩, hc1, hc2⟩ := M3.out.rise_step (vv := V2 gu p) (ll := L2 gu p) (by rw [upd2_other _ _ _ (Ne.symm M2.out.bu)]) (by rw [upd2_other _ _ _ (Ne.symm M2.out.bu)]) lk hpk hup hown hgrow hat; have M5 := Lib.hid M5; clear hown hgrow hat))
                        go_roundw
                        case rel => exact ⟨j + 1, V5, L5, by go_num, by omega, M5.out⟩
                        case measure => simp [intOf]; omega
                      · have hup' : (u : Int) ≤ (p : Int) := by omega
                        go_wp2_with (at_builtin;refine wpList_append_lies _ rfl (.tmp 86) (.tmp 88) 52 rfl w.heap.size 3 i0 _ 1 8 Try.underlying52 hi0 hz0 hz1 hz2 rfl (by decide) _ _ _ rfl (M2.out.back_own hun (.cells #[.int .i64 (p : Nat)] 3)) ⟨wr.heap.size, 0, none⟩ 1 1 [.int .i64 (p : Nat)] rfl rfl (one_news wr (p : Nat)) (row_one [((p : Nat) : Int)]) (Nat.lt_succ_self 0) hb1.1 hb1.2 (M2.out.base_le (.cells #[.int .i64 (p : Nat)] 3)) _ rfl ?_; intro g3 cap3 w3 hown hgrow hat _; obtain ⟨M3, lk, ⟨fc1, fc2⟩, gc1, gc2⟩ := M2.out.back_step hpk JL.out hun TU.out hown hgrow hat; have M3 := Lib.hid M3; clear hown hgrow hat)
                        go_roundw
                        case rel => exact ⟨j + 1, _, _, by go_num, by omega, M3.out⟩
                        case measure => simp [intOf]; omega
                    · have h2 : (k : Int) ≤ t := by omega
                      have hup : (p : Int) < t := by omega
                      have M3 := Lib.hid (M2.out.out JL.out (fun t' ht' e => by rw [TT.out] at e; omega))
                      clear hbb
                      go_wp2_with (at_builtin;refine wpList_append_lies _ rfl (.tmp 99) (.tmp 101) 52 rfl w.heap.size 3 i0 _ 1 8 Try.underlying52 hi0 hz0 hz1 hz2 rfl (by decide) _ _ _ rfl (M3.out.1.up_own (vv := V2 gu p) (ll := L2 gu p) rfl rfl hpk (.cells #[.int .i64 t] 3)) ⟨wr.heap.size, 0, none⟩ 1 1 [.int .i64 t] rfl rfl (one_news wr t) (row_one [t]) (Nat.lt_succ_self 0) hb2.1 hb2.2 (M3.out.1.base_le (.cells #[.int .i64 t] 3)) _ rfl ?_; intro g5 cap5 w5 hown hgrow hat _; obtain ⟨⟨V5, L5, M5⟩, hc1, hc2⟩ := M3.out.1.rise_step (vv := V2 gu p) (ll := L2 gu p) rfl rfl M3.out.2 hpk hup hown hgrow hat; have M5 := Lib.hid M5; clear hown hgrow hat)
                      go_roundw
                      case rel => exact ⟨j + 1, V5, L5, by go_num, by omega, M5.out⟩
                      case measure => simp [intOf]; omega
                  · have h2 : t < 0 := by omega
                    have h3 : t ≤ (p : Int) := by omega
                    have M3 := Lib.hid (M2.out.out JL.out (fun t' ht' e => by rw [TT.out] at e; omega))
                    clear hbb
                    go_wp2_with fail
                    go_roundw
                    case rel => exact ⟨j + 1, _, _, by go_num, by omega, M3.out.1⟩
                    case measure => simp [intOf]; omega
                · obtain rfl : j = n' := by omega
                  have F := Lib.hid (show MW E k gm gb gu (p + 1) (p + 1) 0 V2 L2 w wr from by
                    have h := M2.out
                    have e : j = (E.getD p []).length := by rw [← LE.out]; exact NL.out
                    rw [e] at h
                    exact h.next)
                  go_wp2_with fail
                  go_roundw
                  case rel => exact ⟨p + 1, _, _, by go_num, by omega, F.out⟩
                  case measure => simp [intOf]; omega
            · obtain rfl : p = k := by omega
              obtain ⟨ra, hra⟩ : ∃ r, r = a % p := ⟨_, rfl⟩
              obtain ⟨rb, hrb⟩ : ∃ r, r = b % p := ⟨_, rfl⟩
              have hap : ra < p := by rw [hra]; exact Nat.mod_lt _ h0
              have hap' : (ra : Int) < (p : Int) := by omega
              have hma : (a : Int).tmod (p : Int) = (ra : Int) := by rw [hra]; exact Int.ofNat_tmod a p
              have hmb : (b : Int).tmod (p : Int) = (rb : Int) := by rw [hrb]; exact Int.ofNat_tmod b p
              clear hra hrb
              have MD := Lib.hid M.out
              have hwb : IntKind.i64.wrap ((b : Nat) : Int) = (b : Int) := IntWalk.i64_in _ (by omega)
              have LEN : (L gm ra).length ≤ 240 := by
                rw [M.out.more ra hap]
                have h1 := cnt_mono E (show ra + 1 ≤ p by omega)
                have h2 : cnt E (ra + 1) = cnt E ra + (1 + (E.getD ra []).length) := rfl
                have := C240.out
                omega
              obtain ⟨gc1, gc2⟩ := MD.out.drew.rs.cell MD.out.gm' hap
              obtain ⟨gd1, gd2⟩ : (wr.alloc (.cells #[.int .i64 (rb : Nat)] 3)).drew.cell? ⟨gm, ra, none⟩ = some (V gm ra) ∧ (wr.alloc (.cells #[.int .i64 (rb : Nat)] 3)).drew.frozen? ⟨gm, ra, none⟩ = false := by
                have e := Below.heap_alloc wr (.cells #[.int .i64 (rb : Nat)] 3) gm (MD.out.rs.size MD.out.gm').1
                exact ⟨(World.cell?_of_block (w := wr) (w' := wr.alloc (.cells #[.int .i64 (rb : Nat)] 3)) (a := ⟨gm, ra, none⟩) e).trans (MD.out.rs.cell MD.out.gm' hap).1, (World.frozen?_of_block (w := wr) (w' := wr.alloc (.cells #[.int .i64 (rb : Nat)] 3)) (a := ⟨gm, ra, none⟩) e).trans (MD.out.rs.cell MD.out.gm' hap).2⟩
              have ngm : ¬ gm = wr.heap.size := by have := (M.out.rs.size M.out.gm').1; omega
              have hlen : (L gm ra).length + 1 ≤ maxLen ∧ ((L gm ra).length + 1) * 8 ≤ 140737488355328 := by unfold maxLen; omega
              have OW : Hid ((wr.alloc (.cells #[.int .i64 (rb : Nat)] 3)).drew.ownsRow w.heap.size 3 1 (V gm ra) (L gm ra).length (rowV (L gm ra))) := Lib.hid ((MD.out.rs.own gm ra MD.out.gm' hap).alloc _)
              have NW : Hid (∀ j u, [Value.int .i64 (rb : Nat)][j]? = some u → (wr.alloc (.cells #[.int .i64 (rb : Nat)] 3)).drew.cell? ((⟨wr.heap.size, 0, none⟩ : Addr).add j) = some u) := Lib.hid (fun j u h => one_news wr (rb : Nat) j u h)
              have BZ : Hid (w.heap.size ≤ (wr.alloc (.cells #[.int .i64 (rb : Nat)] 3)).drew.heap.size) := Lib.hid (MD.out.base_le (.cells #[.int .i64 (rb : Nat)] 3))
              obtain ⟨hi0, hz0, hz1, hz2⟩ := HII.out
              clear hqq
              go_wp2_with fail
              go_region_law
                ((refine step_append_lies _ (by rfl) _ _ _ (by rfl) w.heap.size 3 i0 (.int .i64 0) 1 8 Try.underlying52 hi0 hz0 hz1 hz2 (by rfl) (by decide) (V gm ra) (L gm ra).length (rowV (L gm ra)) (by rfl) OW.out ⟨wr.heap.size, 0, none⟩ 1 1 [.int .i64 (rb : Nat)] (by rfl) (by rfl) NW.out (row_one [((rb : Nat) : Int)]) (Nat.lt_succ_self 0) hlen.1 hlen.2 BZ.out _ rfl ?_; intro g5 cap5 w5 hown hgrow hat _; obtain ⟨⟨V9, L9, F0⟩, fc1, fc2⟩ := MD.out.more_step HN.out hap hown ⟨hgrow.os, hgrow.tape, hgrow.output, hgrow.size, hgrow.block⟩ hat; have F0 := Lib.hid F0; clear hown hgrow hat))
              all_goals
                obtain ⟨W9, hW9⟩ : ∃ W, W = w5.setCell ⟨gm, ra, none⟩ (.slice (some ⟨g5, 0, none⟩) ((L gm ra).length + 1) cap5) := ⟨_, rfl⟩
                rw [← hW9] at F0 ⊢
                clear hW9
                cases q with
                | true =>
                  have CY : Hid (Cyclic E) := Lib.hid (HAD.out.1 rfl)
                  have FX := Lib.hid (fixed_any W9)
                  go_wp2_with fail
                  go_at_call 34; refine FX.out.mono ?_; rintro e w6 ⟨rfl, hb⟩
                  have F1 := Lib.hid (F0.out.below hb)
                  clear hb FX
                  have C1 := Lib.hid (circle_any (some ⟨gm, 0, none⟩) (rowsOf p (L9 gm)) p p w6 (F1.out.rs.erow (.inl rfl)) (rowsOf_len p _).symm (by have := N40.out; omega))
                  go_wp2_with fail
                  go_at_call 35; refine C1.out.mono ?_; rintro e w7 ⟨A1, c1, Q1, rfl, hb, hq⟩
                  have F2 := Lib.hid (F1.out.below hb)
                  have hl1 : 0 < Q1.length := circle_yes (F0.out.more CY.out) hq
                  have hl1' : (0 : Int) < (Q1.length : Int) := by omega
                  clear hb hq C1
                  have C2 := Lib.hid (circle_any (some ⟨gu, 0, none⟩) (rowsOf p (L9 gu)) p p w7 (F2.out.rs.erow (.inr (.inr rfl))) (rowsOf_len p _).symm (by have := N40.out; omega))
                  go_wp2_with fail
                  go_at_call 35; refine C2.out.mono ?_; rintro e w8 ⟨A2, c2, Q2, rfl, hb, hq⟩
                  have F3 := Lib.hid (F2.out.below hb)
                  have hl2 : Q2.length = 0 := circle_no F0.out.up hq
                  rw [hl2]
                  clear hb hq C2
                  have C3 := Lib.hid (circle_any (some ⟨gb, 0, none⟩) (rowsOf p (L9 gb)) p p w8 (F3.out.rs.erow (.inr (.inl rfl))) (rowsOf_len p _).symm (by have := N40.out; omega))
                  go_wp2_with fail
                  go_at_call 35; refine C3.out.mono ?_; rintro e w9 ⟨A3, c3, Q3, rfl, hb, hq⟩
                  have F4 := Lib.hid (F3.out.below hb)
                  have hl3 : 0 < Q3.length := circle_yes (F0.out.back.1 CY.out) hq
                  have hl3' : (0 : Int) < (Q3.length : Int) := by omega
                  clear hb hq C3
                  go_wp2_with fail
                  go_ret
                  exact ⟨rfl, F4.out.rs.bel⟩
                | false =>
                  have CY : Hid (¬ Cyclic E) := Lib.hid (fun h => Bool.false_ne_true (HAD.out.2 h))
                  have FX := Lib.hid (fixed_any W9)
                  go_wp2_with fail
                  go_at_call 34; refine FX.out.mono ?_; rintro e w6 ⟨rfl, hb⟩
                  have F1 := Lib.hid (F0.out.below hb)
                  clear hb FX
                  have C1 := Lib.hid (circle_any (some ⟨gu, 0, none⟩) (rowsOf p (L9 gu)) p p w6 (F1.out.rs.erow (.inr (.inr rfl))) (rowsOf_len p _).symm (by have := N40.out; omega))
                  go_wp2_with fail
                  go_at_call 35; refine C1.out.mono ?_; rintro e w7 ⟨A1, c1, Q1, rfl, hb, hq⟩
                  have F2 := Lib.hid (F1.out.below hb)
                  have hl1 : Q1.length = 0 := circle_no F0.out.up hq
                  rw [hl1]
                  clear hb hq C1
                  have C2 := Lib.hid (circle_any (some ⟨gb, 0, none⟩) (rowsOf p (L9 gb)) p p w7 (F2.out.rs.erow (.inr (.inl rfl))) (rowsOf_len p _).symm (by have := N40.out; omega))
                  go_wp2_with fail
                  go_at_call 35; refine C2.out.mono ?_; rintro e w8 ⟨A2, c2, Q2, rfl, hb, hq⟩
                  have F3 := Lib.hid (F2.out.below hb)
                  have hl2 : Q2.length = 0 := circle_no (fun h => CY.out (F0.out.back.2 h)) hq
                  rw [hl2]
                  clear hb hq C2
                  go_wp2_with fail
                  go_ret
                  exact ⟨rfl, F3.out.rs.bel⟩
      · have hy' : (240 : Int) < (cnt E k : Nat) := by omega
        obtain ⟨y, hy⟩ : ∃ y, y = cnt E k := ⟨_, rfl⟩
        rw [← hy] at hy' ⊢
        clear h240 hy
        have FX := Lib.hid (fixed_any w)
        go_wp2_with fail
        go_at_call 34; refine FX.out.mono ?_; rintro e w3 ⟨rfl, hb⟩
        go_wp2_with fail
        go_ret
        exact ⟨rfl, hb⟩

end Go.Proofs.Ytbffcehaednefaa.Order
