/- Newest: the law walked. -/
import Derived.Test.YtdilmiaaahpfcaaNewB
import Derived.Deep.CutBlock
import Derived.Deep.DeepCutAuto
namespace Go.Proofs.Ytdilmiaaahpfcaa.Newest
set_option linter.unusedVariables false
set_option linter.unusedSimpArgs false
open Go.RowKit Go.Shelf
open Go.Proofs.Ytdilmiaaahpfcaa.Ver (cmpV ord_v Ord Bs Row str bstep compare_any less_any fixed_any same_any great_any greatB small_of)
open Go.Proofs.Ytdilmiaaahpfcaa.Stab

/-- what the law's loop leaves. -/
def Loop (B : Nat) (l : List ByteArray) (w : World) (v : Value) (W : World) : Prop := ∃ g cap, v = .slice (some ⟨g, 0, none⟩) l.length cap ∧ WS B l.length l (stab ltN l) g cap w W

set_option maxHeartbeats 8000000 in
set_option maxRecDepth 100000 in
theorem law_small (A : Option Addr) (l : List ByteArray) (n c : Nat) (w0 : World) (h : SRow w0 w0.heap.size A l) (hn : n = l.length) (hc : n ≤ c) (hm : n ≤ 200) (hz : ∀ s ∈ l, s.size ≤ maxLen) (hg : greatB (bsL l) = false) :
    Calls Try.prog 5 #[.slice A n c] w0 fun e w' => e = .returned (.bool true) ∧ Below w0.heap.size w0 w' := by
  have hzi : ∀ i, (l.getD i ByteArray.empty).size ≤ maxLen := fun i => by
    rcases Nat.lt_or_ge i l.length with hi | hi
    · rw [List.getD_eq_getElem?_getD, List.getElem?_eq_getElem hi]; exact hz _ (List.getElem_mem hi)
    · rw [List.getD_eq_getElem?_getD, List.getElem?_eq_none hi]; simp
  have GA := Lib.hid (great_any w0 h.row n c (by rw [hn]; simp) (by unfold maxLen; omega) (fun i => by
    rcases Nat.lt_or_ge i l.length with hi | hi
    · have := hzi i
      simp [List.getD_eq_getElem?_getD, hi] at this ⊢; exact this
    · simp [List.getD_eq_getElem?_getD, hi]))
  rw [hg] at GA
  have z : (n : Int) ≤ 200 := by omega
  obtain ⟨i0, hi0, hz0, hz1, hz2⟩ := str_info
  have HI := Lib.hid (And.intro hi0 (And.intro hz0 (And.intro hz1 hz2)))
  have FX := Lib.hid fixed_any
  have HN := Lib.hid hn
  have HM := Lib.hid hm
  have H := Lib.hid h
  have HZ := Lib.hid hz
  have HZI := Lib.hid hzi
  -- the own copy
  have OO : Hid ((w0.alloc (.cells #[] 9)).ownsRow w0.heap.size 9 1 (.slice (some ⟨w0.heap.size, 0, none⟩) 0 0) 0 []) := Lib.hid (by exact own_made)
  have bq : Below w0.heap.size w0 (w0.alloc (.cells #[] 9)) := by exact (Below.refl _ _).alloc (Nat.le_refl _) _
  have BQ := Lib.hid bq
  have SQ : Hid (w0.heap.size ≤ (w0.alloc (.cells #[] 9)).heap.size) := Lib.hid (by have := bq.size; omega)
  have NEWS : Hid (rowS l = [] ∨ ∃ ad, A = some ad ∧ ∀ j u, (rowS l)[j]? = some u → (w0.alloc (.cells #[] 9)).cell? (ad.add j) = some u) := Lib.hid (h.below (Nat.le_refl _) bq).news
  have L1 : Hid ((rowS l).length = n) := Lib.hid (by rw [hn]; simp)
  have ONE1 := Lib.hid (rowS_one l)
  have N1 : Hid (0 + n = n) := Lib.hid (Nat.zero_add _)
  have H63 : Hid (n ≤ maxLen) := Lib.hid (by unfold maxLen; omega)
  have HBY : Hid (n * 16 ≤ 140737488355328) := Lib.hid (by omega)
  have nb : ((n : Int) != (n : Int)) = false := by simp
  clear h hn hm hz hg hzi bq hc
  go_enter Try.func5, Try.ntmps5
  go_wp2_with fail
  go_at_call 12; refine GA.out.mono ?_; rintro e w' ⟨rfl, rfl⟩
  go_wp2_with (first | (at_builtin; refine wpList_append_no _ (by rfl) (.tmp 18) (.tmp 19) 23 (by rfl) w0.heap.size 9 i0 _ 16 Try.underlying23 hi0 hz0 hz1 hz2 (by rfl) w0.heap.size 0 0 [] (by rfl) OO.out A n c (rowS l) (by rfl) L1.out NEWS.out ONE1.out n N1.out H63.out HBY.out SQ.out ?_; intro g1 c1 w1 hown hgrow; have O1 : Hid (w1.ownsRow w0.heap.size 9 1 (.slice (some ⟨g1, 0, none⟩) n c1) n (rowS l)) := Lib.hid (by rw [List.nil_append] at hown; exact hown); have B1 : Hid (Below w0.heap.size w0 w1) := Lib.hid (BQ.out.grown hgrow SQ.out (fun k hk => by injection hk with hk; omega)); clear hown hgrow))
  have R1 : Hid (SRow w1 w1.heap.size (some ⟨g1, 0, none⟩) l) := Lib.hid (by
    obtain ⟨A', c', e, _, _, _, hr, _⟩ := own_srow O1.out
    injection e with e1 e2 e3
    rw [e1]; exact hr)
  have NE := Lib.hid (newest_any (some ⟨g1, 0, none⟩) l n c1 w1 R1.out HN.out (by have := HM.out; omega) HZI.out)
  go_at_call 15; refine NE.out.mono ?_; rintro e w2 ⟨A2, c2, rfl, hr2, hl2, hb2⟩
  have R2 := Lib.hid hr2
  have L2 := Lib.hid hl2
  have B2 := Lib.hid hb2
  have SA := Lib.hid (same_any w2 (R1.out.below (Nat.le_refl _) hb2).row (H.out.below (Nat.le_refl _) (bstep B1.out hb2)).row n n c1 c (by rw [HN.out]; simp) (by rw [HN.out]; simp) H63.out H63.out)
  rw [decide_eq_true (rfl : bsL l = bsL l)] at SA
  clear hr2 hl2 hb2 NE GA
  go_wp2_with fail
  go_at_call 10; refine SA.out.mono ?_; rintro e w3 ⟨rfl, j3, hj3⟩
  have B3 : Hid (Below w2.heap.size w2 w3) := Lib.hid (by rw [hj3]; exact drewN_below (Below.refl _ _) _)
  have LW := Lib.hid (H.out.below (Nat.le_refl _) (bstep (bstep B1.out B2.out) B3.out))
  have R3 := Lib.hid (R2.out.below B3.out.size B3.out)
  have B03 := Lib.hid (bstep (bstep B1.out B2.out) B3.out)
  clear hj3 SA R2 R1 O1 B1 B2 B3 NEWS OO SQ BQ L1 ONE1 N1
  obtain ⟨w, hw⟩ : ∃ w, w = w3 := ⟨_, rfl⟩
  subst hw
  have F0 := Lib.hid (WS.first l w)
  go_wp2_with fail
  go_loopw [5, 7, 8, 9, 37] (fun o _ _ _ v wr => ∃ (k g cap : Nat) (want : List ByteArray), v = .int .i64 k ∧ k ≤ n ∧ o = .slice (some ⟨g, 0, none⟩) k cap ∧ WS w.heap.size k l want g cap w wr) (fun _ _ _ _ v _ => n - (intOf v).toNat)
  case atStart => exact ⟨0, _, 0, [], rfl, Nat.zero_le _, rfl, F0.out⟩
  case round =>
    obtain ⟨k, g, cap, want, rfl, hk, rfl, hws⟩ := hrel
    have RK := Lib.hid hws
    clear hws F0
    have KB : Hid (k ≤ 200) := Lib.hid (by have := HM.out; omega)
    have k200 : (k : Int) ≤ 200 := by have := KB.out; omega
    by_cases hlt : k < n
    · have hlt' : (k : Int) < (n : Int) := by omega
      have KL : Hid (k < l.length) := Lib.hid (by have := HN.out; omega)
      rcases LW.out with h' | ⟨b, o, hA, hb, hcell⟩
      · exfalso; have := KL.out; rw [h'] at this; simp at this
      have hA' := hA
      subst hA'
      have ft := (RK.out.bel.cell (p := ⟨b, o + k, none⟩) (by have := B03.out.size; show b < w.heap.size; omega)).trans (hcell k KL.out)
      have NX := Lib.hid (stab_take KL.out)
      have XZ := Lib.hid (HZI.out k)
      have WZ : Hid (∀ i, (want.getD i ByteArray.empty).size ≤ maxLen) := Lib.hid (fun i => by rw [RK.out.eq]; exact stab_sz HZ.out k i)
      have WL := Lib.hid RK.out.len
      have CAPL := Lib.hid RK.out.capl
      obtain ⟨x, hx⟩ : ∃ x, x = l.getD k ByteArray.empty := ⟨_, rfl⟩
      rw [← hx] at ft XZ NX
      obtain ⟨ws, hws⟩ : ∃ ws : World, ws = wr := ⟨_, rfl⟩
      subst hws
      clear hx hcell hb
      go_upto_block 2 with (fail)
      go_cut [8] (fun v wx => ∃ a : Nat, v = .int .i64 a ∧ a ≤ k ∧ (∀ t, a ≤ t → t < k → ltN x (want.getD t ByteArray.empty) = true) ∧ (a = 0 ∨ ltN x (want.getD (a - 1) ByteArray.empty) = false) ∧ WS w.heap.size k l want g cap w wx)
      case first =>
        go_wp2_with fail
        go_loopw [8] (fun v wx => ∃ a : Nat, v = .int .i64 a ∧ a ≤ k ∧ (∀ t, a ≤ t → t < k → ltN x (want.getD t ByteArray.empty) = true) ∧ WS w.heap.size k l want g cap w wx) (fun v _ => (intOf v).toNat)
        case atStart => exact ⟨k, rfl, Nat.le_refl _, fun t h1 h2 => by omega, RK.out⟩
        case round =>
          obtain ⟨a, rfl, hak, hab, hws⟩ := hrel
          have RA := Lib.hid hws
          have BH := Lib.hid hab
          have AK := Lib.hid hak
          have ak' : (a : Int) ≤ 200 := by omega
          clear hws hab
          by_cases ha0 : a = 0
          · subst ha0
            go_wp2_with fail
            go_meet
            exact ⟨0, rfl, Nat.zero_le _, BH.out, .inl rfl, RA.out⟩
          · obtain ⟨q, hq⟩ : ∃ q, q = a - 1 := ⟨_, rfl⟩
            have eq' : (a : Int) - 1 = (q : Int) := by omega
            have apos : (0 : Int) < (a : Int) := by omega
            have qk : (q : Int) < (k : Int) := by omega
            have QB : Hid (a = q + 1 ∧ q < k) := Lib.hid (by omega)
            have cq := RA.out.cell QB.out.2
            have LE := Lib.hid (fun W => less_any (want.getD q ByteArray.empty) x W (WZ.out q) XZ.out)
            obtain ⟨y, hy⟩ : ∃ y, y = want.getD q ByteArray.empty := ⟨_, rfl⟩
            have HY := Lib.hid hy
            rw [← hy] at cq LE
            clear hq ha0 hak hy
            cases hl : ltN x y with
            | true =>
              have BN : Hid (∀ t, q ≤ t → t < k → ltN x (want.getD t ByteArray.empty) = true) := Lib.hid (fun t h1 h2 => by
                rcases Nat.lt_or_ge q t with h3 | h3
                · exact BH.out t (by have := QB.out; omega) h2
                · rw [show t = q by omega, ← HY.out]; exact hl)
              have LE' : Hid (∀ W, Calls Try.prog 16 #[.string y, .string x] W fun e w' => e = .returned (.bool true) ∧ Below W.heap.size W w') := Lib.hid (fun W => by
                have t := LE.out W
                rwa [decide_eq_true (ltN_iff.1 hl)] at t)
              clear LE hl
              go_wp2_with fail
              go_at_call 16; refine (LE'.out _).mono ?_; rintro e w5 ⟨rfl, hb⟩
              have RN := Lib.hid (RA.out.mem (Nat.le_refl _) hb)
              clear hb
              go_wp2_with fail
              go_roundw
              case rel => exact ⟨q, by first | rfl | go_num, by have := QB.out; omega, BN.out, RN.out⟩
              case measure => have := QB.out; simp [intOf]; omega
            | false =>
              have AN : Hid (a = 0 ∨ ltN x (want.getD (a - 1) ByteArray.empty) = false) := Lib.hid (.inr (by rw [show a - 1 = q by have := QB.out; omega, ← HY.out]; exact hl))
              have LE' : Hid (∀ W, Calls Try.prog 16 #[.string y, .string x] W fun e w' => e = .returned (.bool false) ∧ Below W.heap.size W w') := Lib.hid (fun W => by
                have t := LE.out W
                rwa [decide_eq_false (fun h => by rw [ltN_iff.2 h] at hl; cases hl)] at t)
              clear LE hl
              go_wp2_with fail
              go_at_call 16; refine (LE'.out _).mono ?_; rintro e w5 ⟨rfl, hb⟩
              have RN := Lib.hid (RA.out.mem (Nat.le_refl _) hb)
              clear hb
              go_wp2_with fail
              go_meet
              exact ⟨a, rfl, AK.out, BH.out, AN.out, RN.out⟩
      case rest =>
        obtain ⟨a, rfl, hak, hab, hah, hws⟩ := hcut
        have SC := Lib.hid hws
        have BH := Lib.hid hab
        have AH := Lib.hid hah
        have AK := Lib.hid hak
        have a200 : (a : Int) ≤ 200 := by omega
        have ac' : a ≤ cap := by have := CAPL.out; omega
        have kc' : k ≤ cap := CAPL.out
        clear hws hab hah RK
        by_cases hal : a < k
        · have hal' : (a : Int) < (k : Int) := by omega
          have OO : Hid ((wc.alloc (.cells #[] 9)).ownsRow wc.heap.size 9 1 (.slice (some ⟨wc.heap.size, 0, none⟩) 0 0) 0 []) := Lib.hid (by exact own_made)
          have bq : Below wc.heap.size wc (wc.alloc (.cells #[] 9)) := by exact (Below.refl _ _).alloc (Nat.le_refl _) _
          have SQ : Hid (wc.heap.size ≤ (wc.alloc (.cells #[] 9)).heap.size) := Lib.hid (by have := bq.size; omega)
          have GB : Hid (w.heap.size ≤ wc.heap.size) := Lib.hid (by have := SC.out.bel.size; omega)
          have gq : g < wc.heap.size := by have := (SC.out.own.lt g rfl).2; omega
          have CO : Hid (∀ W, Below wc.heap.size (wc.alloc (.cells #[] 9)) W → ∀ j, j < want.length → W.cell? ⟨g, j, none⟩ = some (.string (want.getD j ByteArray.empty))) := Lib.hid (fun W hb j hj => (hb.cell (p := ⟨g, j, none⟩) gq).trans ((bq.cell (p := ⟨g, j, none⟩) gq).trans (SC.out.cell (by have := WL.out; omega))))
          have BW : Hid (Below w.heap.size w (wc.alloc (.cells #[] 9))) := Lib.hid (SC.out.bel.trans (bq.mono GB.out))
          have NEWS : Hid (rowS (want.take a) = [] ∨ ∃ ad, some (⟨g, 0, none⟩ : Addr) = some ad ∧ ∀ j u, (rowS (want.take a))[j]? = some u → (wc.alloc (.cells #[] 9)).cell? (ad.add j) = some u) := Lib.hid (.inr ⟨_, rfl, news_ahead (CO.out _ (Below.refl _ _))⟩)
          have L1 : Hid ((rowS (want.take a)).length = a) := Lib.hid (by have := WL.out; have := AK.out; simp; omega)
          have ONE1 := Lib.hid (rowS_one (want.take a))
          have N1 : Hid (0 + a = a) := Lib.hid (Nat.zero_add _)
          have H63 : Hid (a ≤ maxLen) := Lib.hid (by unfold maxLen; have := KB.out; have := AK.out; omega)
          have HBY : Hid (a * 16 ≤ 140737488355328) := Lib.hid (by have := KB.out; have := AK.out; omega)
          have H63B : Hid (a + 1 ≤ maxLen) := Lib.hid (by unfold maxLen; have := KB.out; have := AK.out; omega)
          have HBYB : Hid ((a + 1) * 16 ≤ 140737488355328) := Lib.hid (by have := KB.out; have := AK.out; omega)
          have ONE3 := Lib.hid (rowS_one (want.drop a))
          have L3 : Hid ((rowS (want.drop a)).length = (k - a)) := Lib.hid (by have := WL.out; simp; omega)
          have N3 : Hid (a + 1 + (k - a) = k + 1) := Lib.hid (by have := AK.out; omega)
          have H63C : Hid (k + 1 ≤ maxLen) := Lib.hid (by unfold maxLen; have := KB.out; omega)
          have HBYC : Hid ((k + 1) * 16 ≤ 140737488355328) := Lib.hid (by have := KB.out; omega)
          clear bq gq
          obtain ⟨hi0, hz0, hz1, hz2⟩ := HI.out
          have acap : a < cap := by omega
          go_wp2_with (first | (at_builtin; refine wpList_append_no _ (by rfl) (.tmp 56) (.tmp 59) 23 (by rfl) wc.heap.size 9 i0 _ 16 Try.underlying23 hi0 hz0 hz1 hz2 (by rfl) wc.heap.size 0 0 [] (by rfl) OO.out (some ⟨g, 0, none⟩) a cap (rowS (want.take a)) (by rfl) L1.out NEWS.out ONE1.out a N1.out H63.out HBY.out SQ.out ?_; intro g2 c2 w2 hown hgrow; have O2 : Hid (w2.ownsRow wc.heap.size 9 1 (.slice (some ⟨g2, 0, none⟩) a c2) a (rowS (want.take a))) := Lib.hid (by rw [List.nil_append] at hown; exact hown); have B2 : Hid (Below wc.heap.size (wc.alloc (.cells #[] 9)) w2) := Lib.hid ((Below.refl wc.heap.size (wc.alloc (.cells #[] 9))).grown hgrow SQ.out (fun k hk => by injection hk with hk; omega)); clear hown hgrow; have S2 : Hid (wc.heap.size ≤ w2.heap.size) := Lib.hid (by have := B2.out.size; have := SQ.out; omega)) | (at_builtin; refine wp_append_one _ rfl (.tmp 61) (.tmp 63) 23 rfl wc.heap.size 9 i0 _ 16 Try.underlying23 hi0 hz0 hz1 hz2 rfl _ _ _ rfl O2.out _ rfl rfl H63B.out HBYB.out S2.out ?_; intro g3 cap3 w3 hown3 hg3 hgs3 hbel3 hsz3 hgr3; have O3 := Lib.hid hown3; have B3 := Lib.hid (B2.out.trans hbel3); have S3 : Hid (wc.heap.size ≤ w3.heap.size) := Lib.hid (by have := S2.out; omega); have NEWS3 : Hid (rowS (want.drop a) = [] ∨ ∃ ad, some (⟨g, a, none⟩ : Addr) = some ad ∧ ∀ j u, (rowS (want.drop a))[j]? = some u → w3.cell? (ad.add j) = some u) := Lib.hid (by as_aux_lemma => exact .inr ⟨_, rfl, news_cut (CO.out w3 B3.out)⟩); clear hown3 hg3 hgs3 hbel3 hsz3 hgr3) | (at_builtin; refine wpList_append_no _ (by rfl) (.tmp 65) (.tmp 68) 23 (by rfl) wc.heap.size 9 i0 _ 16 Try.underlying23 hi0 hz0 hz1 hz2 (by rfl) g3 (a + 1) cap3 (rowS (want.take a) ++ [.string x]) (by rfl) O3.out (some ⟨g, a, none⟩) (k - a) (cap - a) (rowS (want.drop a)) (by rfl) L3.out NEWS3.out ONE3.out (k + 1) N3.out H63C.out HBYC.out S3.out ?_; intro g4 cap4 w4 hown hgrow; have O4 := Lib.hid hown; have B4 : Hid (Below wc.heap.size w3 w4) := Lib.hid ((Below.refl wc.heap.size w3).grown hgrow S3.out (fun k hk => by have := (O3.out.lt k (by injection hk with hk; rw [← hk]; rfl)).1; omega)); clear hown hgrow))
          have FN : Hid (WS w.heap.size (k + 1) l (want.take a ++ [x] ++ want.drop a) g4 cap4 w w4) := Lib.hid ⟨BW.out.trans ((B3.out.trans B4.out).mono GB.out), by
            have h := own_lower O4.out GB.out
            simpa using h, by rw [NX.out, ← SC.out.eq]; exact (ins_at (by have := WL.out; have := AK.out; omega) (by have := WL.out; intro t h1 h2; exact BH.out t h1 (by omega)) AH.out).symm⟩
          go_roundw
          case rel => first | exact ⟨k + 1, g4, cap4, _, by go_num, by omega, rfl, FN.out⟩ | ((repeat apply Exists.intro); exact ⟨⟨k + 1, g4, cap4, _, by go_num, by omega, rfl, FN.out⟩, rfl⟩)
          case measure => simp [intOf]; omega
        · obtain rfl : a = k := by omega
          by_cases hcap : cap = a
          · subst hcap
            have OO : Hid ((wc.alloc (.cells #[] 9)).ownsRow wc.heap.size 9 1 (.slice (some ⟨wc.heap.size, 0, none⟩) 0 0) 0 []) := Lib.hid (by exact own_made)
            have bq : Below wc.heap.size wc (wc.alloc (.cells #[] 9)) := by exact (Below.refl _ _).alloc (Nat.le_refl _) _
            have SQ : Hid (wc.heap.size ≤ (wc.alloc (.cells #[] 9)).heap.size) := Lib.hid (by have := bq.size; omega)
            have GB : Hid (w.heap.size ≤ wc.heap.size) := Lib.hid (by have := SC.out.bel.size; omega)
            have gq : g < wc.heap.size := by have := (SC.out.own.lt g rfl).2; omega
            have CO : Hid (∀ W, Below wc.heap.size (wc.alloc (.cells #[] 9)) W → ∀ j, j < want.length → W.cell? ⟨g, j, none⟩ = some (.string (want.getD j ByteArray.empty))) := Lib.hid (fun W hb j hj => (hb.cell (p := ⟨g, j, none⟩) gq).trans ((bq.cell (p := ⟨g, j, none⟩) gq).trans (SC.out.cell (by have := WL.out; omega))))
            have BW : Hid (Below w.heap.size w (wc.alloc (.cells #[] 9))) := Lib.hid (SC.out.bel.trans (bq.mono GB.out))
            have NEWS : Hid (rowS (want.take cap) = [] ∨ ∃ ad, some (⟨g, 0, none⟩ : Addr) = some ad ∧ ∀ j u, (rowS (want.take cap))[j]? = some u → (wc.alloc (.cells #[] 9)).cell? (ad.add j) = some u) := Lib.hid (.inr ⟨_, rfl, news_ahead (CO.out _ (Below.refl _ _))⟩)
            have L1 : Hid ((rowS (want.take cap)).length = cap) := Lib.hid (by have := WL.out; have := AK.out; simp; omega)
            have ONE1 := Lib.hid (rowS_one (want.take cap))
            have N1 : Hid (0 + cap = cap) := Lib.hid (Nat.zero_add _)
            have H63 : Hid (cap ≤ maxLen) := Lib.hid (by unfold maxLen; have := KB.out; have := AK.out; omega)
            have HBY : Hid (cap * 16 ≤ 140737488355328) := Lib.hid (by have := KB.out; have := AK.out; omega)
            have H63B : Hid (cap + 1 ≤ maxLen) := Lib.hid (by unfold maxLen; have := KB.out; have := AK.out; omega)
            have HBYB : Hid ((cap + 1) * 16 ≤ 140737488355328) := Lib.hid (by have := KB.out; have := AK.out; omega)
            have ONE3 := Lib.hid (rowS_one (want.drop cap))
            have L3 : Hid ((rowS (want.drop cap)).length = 0) := Lib.hid (by have := WL.out; simp; omega)
            have N3 : Hid (cap + 1 + 0 = cap + 1) := Lib.hid (by have := AK.out; omega)
            have H63C : Hid (cap + 1 ≤ maxLen) := Lib.hid (by unfold maxLen; have := KB.out; omega)
            have HBYC : Hid ((cap + 1) * 16 ≤ 140737488355328) := Lib.hid (by have := KB.out; omega)
            clear bq gq
            obtain ⟨hi0, hz0, hz1, hz2⟩ := HI.out
            have acap : cap ≤ cap := Nat.le_refl _
            go_wp2_with (first | (at_builtin; refine wpList_append_no _ (by rfl) (.tmp 56) (.tmp 59) 23 (by rfl) wc.heap.size 9 i0 _ 16 Try.underlying23 hi0 hz0 hz1 hz2 (by rfl) wc.heap.size 0 0 [] (by rfl) OO.out (some ⟨g, 0, none⟩) cap cap (rowS (want.take cap)) (by rfl) L1.out NEWS.out ONE1.out cap N1.out H63.out HBY.out SQ.out ?_; intro g2 c2 w2 hown hgrow; have O2 : Hid (w2.ownsRow wc.heap.size 9 1 (.slice (some ⟨g2, 0, none⟩) cap c2) cap (rowS (want.take cap))) := Lib.hid (by rw [List.nil_append] at hown; exact hown); have B2 : Hid (Below wc.heap.size (wc.alloc (.cells #[] 9)) w2) := Lib.hid ((Below.refl wc.heap.size (wc.alloc (.cells #[] 9))).grown hgrow SQ.out (fun k hk => by injection hk with hk; omega)); clear hown hgrow; have S2 : Hid (wc.heap.size ≤ w2.heap.size) := Lib.hid (by have := B2.out.size; have := SQ.out; omega)) | (at_builtin; refine wp_append_one _ rfl (.tmp 61) (.tmp 63) 23 rfl wc.heap.size 9 i0 _ 16 Try.underlying23 hi0 hz0 hz1 hz2 rfl _ _ _ rfl O2.out _ rfl rfl H63B.out HBYB.out S2.out ?_; intro g3 cap3 w3 hown3 hg3 hgs3 hbel3 hsz3 hgr3; have O3 := Lib.hid hown3; have B3 := Lib.hid (B2.out.trans hbel3); have S3 : Hid (wc.heap.size ≤ w3.heap.size) := Lib.hid (by have := S2.out; omega); have NEWS3 : Hid (rowS (want.drop cap) = [] ∨ ∃ ad, some (⟨g, 0, none⟩ : Addr) = some ad ∧ ∀ j u, (rowS (want.drop cap))[j]? = some u → w3.cell? (ad.add j) = some u) := Lib.hid (by as_aux_lemma => exact .inl (by rw [List.drop_of_length_le (by have := WL.out; omega)]; rfl)); clear hown3 hg3 hgs3 hbel3 hsz3 hgr3) | (at_builtin; refine wpList_append_no _ (by rfl) (.tmp 65) (.tmp 68) 23 (by rfl) wc.heap.size 9 i0 _ 16 Try.underlying23 hi0 hz0 hz1 hz2 (by rfl) g3 (cap + 1) cap3 (rowS (want.take cap) ++ [.string x]) (by rfl) O3.out (some ⟨g, 0, none⟩) 0 0 (rowS (want.drop cap)) (by rfl) L3.out NEWS3.out ONE3.out (cap + 1) N3.out H63C.out HBYC.out S3.out ?_; intro g4 cap4 w4 hown hgrow; have O4 := Lib.hid hown; have B4 : Hid (Below wc.heap.size w3 w4) := Lib.hid ((Below.refl wc.heap.size w3).grown hgrow S3.out (fun k hk => by have := (O3.out.lt k (by injection hk with hk; rw [← hk]; rfl)).1; omega)); clear hown hgrow))
            have FN : Hid (WS w.heap.size (cap + 1) l (want.take cap ++ [x] ++ want.drop cap) g4 cap4 w w4) := Lib.hid ⟨BW.out.trans ((B3.out.trans B4.out).mono GB.out), by
              have h := own_lower O4.out GB.out
              simpa using h, by rw [NX.out, ← SC.out.eq]; exact (ins_at (by have := WL.out; have := AK.out; omega) (by have := WL.out; intro t h1 h2; exact BH.out t h1 (by omega)) AH.out).symm⟩
            go_roundw
            case rel => first | exact ⟨cap + 1, g4, cap4, _, by go_num, by omega, rfl, FN.out⟩ | ((repeat apply Exists.intro); exact ⟨⟨cap + 1, g4, cap4, _, by go_num, by omega, rfl, FN.out⟩, rfl⟩)
            case measure => simp [intOf]; omega
          · have hcap' : ¬ a = cap := fun e => hcap e.symm
            have OO : Hid ((wc.alloc (.cells #[] 9)).ownsRow wc.heap.size 9 1 (.slice (some ⟨wc.heap.size, 0, none⟩) 0 0) 0 []) := Lib.hid (by exact own_made)
            have bq : Below wc.heap.size wc (wc.alloc (.cells #[] 9)) := by exact (Below.refl _ _).alloc (Nat.le_refl _) _
            have SQ : Hid (wc.heap.size ≤ (wc.alloc (.cells #[] 9)).heap.size) := Lib.hid (by have := bq.size; omega)
            have GB : Hid (w.heap.size ≤ wc.heap.size) := Lib.hid (by have := SC.out.bel.size; omega)
            have gq : g < wc.heap.size := by have := (SC.out.own.lt g rfl).2; omega
            have CO : Hid (∀ W, Below wc.heap.size (wc.alloc (.cells #[] 9)) W → ∀ j, j < want.length → W.cell? ⟨g, j, none⟩ = some (.string (want.getD j ByteArray.empty))) := Lib.hid (fun W hb j hj => (hb.cell (p := ⟨g, j, none⟩) gq).trans ((bq.cell (p := ⟨g, j, none⟩) gq).trans (SC.out.cell (by have := WL.out; omega))))
            have BW : Hid (Below w.heap.size w (wc.alloc (.cells #[] 9))) := Lib.hid (SC.out.bel.trans (bq.mono GB.out))
            have NEWS : Hid (rowS (want.take a) = [] ∨ ∃ ad, some (⟨g, 0, none⟩ : Addr) = some ad ∧ ∀ j u, (rowS (want.take a))[j]? = some u → (wc.alloc (.cells #[] 9)).cell? (ad.add j) = some u) := Lib.hid (.inr ⟨_, rfl, news_ahead (CO.out _ (Below.refl _ _))⟩)
            have L1 : Hid ((rowS (want.take a)).length = a) := Lib.hid (by have := WL.out; have := AK.out; simp; omega)
            have ONE1 := Lib.hid (rowS_one (want.take a))
            have N1 : Hid (0 + a = a) := Lib.hid (Nat.zero_add _)
            have H63 : Hid (a ≤ maxLen) := Lib.hid (by unfold maxLen; have := KB.out; have := AK.out; omega)
            have HBY : Hid (a * 16 ≤ 140737488355328) := Lib.hid (by have := KB.out; have := AK.out; omega)
            have H63B : Hid (a + 1 ≤ maxLen) := Lib.hid (by unfold maxLen; have := KB.out; have := AK.out; omega)
            have HBYB : Hid ((a + 1) * 16 ≤ 140737488355328) := Lib.hid (by have := KB.out; have := AK.out; omega)
            have ONE3 := Lib.hid (rowS_one (want.drop a))
            have L3 : Hid ((rowS (want.drop a)).length = 0) := Lib.hid (by have := WL.out; simp; omega)
            have N3 : Hid (a + 1 + 0 = a + 1) := Lib.hid (by have := AK.out; omega)
            have H63C : Hid (a + 1 ≤ maxLen) := Lib.hid (by unfold maxLen; have := KB.out; omega)
            have HBYC : Hid ((a + 1) * 16 ≤ 140737488355328) := Lib.hid (by have := KB.out; omega)
            clear bq gq
            obtain ⟨hi0, hz0, hz1, hz2⟩ := HI.out
            have acap : a < cap := by omega
            go_wp2_with (first | (at_builtin; refine wpList_append_no _ (by rfl) (.tmp 56) (.tmp 59) 23 (by rfl) wc.heap.size 9 i0 _ 16 Try.underlying23 hi0 hz0 hz1 hz2 (by rfl) wc.heap.size 0 0 [] (by rfl) OO.out (some ⟨g, 0, none⟩) a cap (rowS (want.take a)) (by rfl) L1.out NEWS.out ONE1.out a N1.out H63.out HBY.out SQ.out ?_; intro g2 c2 w2 hown hgrow; have O2 : Hid (w2.ownsRow wc.heap.size 9 1 (.slice (some ⟨g2, 0, none⟩) a c2) a (rowS (want.take a))) := Lib.hid (by rw [List.nil_append] at hown; exact hown); have B2 : Hid (Below wc.heap.size (wc.alloc (.cells #[] 9)) w2) := Lib.hid ((Below.refl wc.heap.size (wc.alloc (.cells #[] 9))).grown hgrow SQ.out (fun k hk => by injection hk with hk; omega)); clear hown hgrow; have S2 : Hid (wc.heap.size ≤ w2.heap.size) := Lib.hid (by have := B2.out.size; have := SQ.out; omega)) | (at_builtin; refine wp_append_one _ rfl (.tmp 61) (.tmp 63) 23 rfl wc.heap.size 9 i0 _ 16 Try.underlying23 hi0 hz0 hz1 hz2 rfl _ _ _ rfl O2.out _ rfl rfl H63B.out HBYB.out S2.out ?_; intro g3 cap3 w3 hown3 hg3 hgs3 hbel3 hsz3 hgr3; have O3 := Lib.hid hown3; have B3 := Lib.hid (B2.out.trans hbel3); have S3 : Hid (wc.heap.size ≤ w3.heap.size) := Lib.hid (by have := S2.out; omega); have NEWS3 : Hid (rowS (want.drop a) = [] ∨ ∃ ad, some (⟨g, a, none⟩ : Addr) = some ad ∧ ∀ j u, (rowS (want.drop a))[j]? = some u → w3.cell? (ad.add j) = some u) := Lib.hid (by as_aux_lemma => exact .inr ⟨_, rfl, news_cut (CO.out w3 B3.out)⟩); clear hown3 hg3 hgs3 hbel3 hsz3 hgr3) | (at_builtin; refine wpList_append_no _ (by rfl) (.tmp 65) (.tmp 68) 23 (by rfl) wc.heap.size 9 i0 _ 16 Try.underlying23 hi0 hz0 hz1 hz2 (by rfl) g3 (a + 1) cap3 (rowS (want.take a) ++ [.string x]) (by rfl) O3.out (some ⟨g, a, none⟩) 0 (cap - a) (rowS (want.drop a)) (by rfl) L3.out NEWS3.out ONE3.out (a + 1) N3.out H63C.out HBYC.out S3.out ?_; intro g4 cap4 w4 hown hgrow; have O4 := Lib.hid hown; have B4 : Hid (Below wc.heap.size w3 w4) := Lib.hid ((Below.refl wc.heap.size w3).grown hgrow S3.out (fun k hk => by have := (O3.out.lt k (by injection hk with hk; rw [← hk]; rfl)).1; omega)); clear hown hgrow))
            have FN : Hid (WS w.heap.size (a + 1) l (want.take a ++ [x] ++ want.drop a) g4 cap4 w w4) := Lib.hid ⟨BW.out.trans ((B3.out.trans B4.out).mono GB.out), by
              have h := own_lower O4.out GB.out
              simpa using h, by rw [NX.out, ← SC.out.eq]; exact (ins_at (by have := WL.out; have := AK.out; omega) (by have := WL.out; intro t h1 h2; exact BH.out t h1 (by omega)) AH.out).symm⟩
            go_roundw
            case rel => first | exact ⟨a + 1, g4, cap4, _, by go_num, by omega, rfl, FN.out⟩ | ((repeat apply Exists.intro); exact ⟨⟨a + 1, g4, cap4, _, by go_num, by omega, rfl, FN.out⟩, rfl⟩)
            case measure => simp [intOf]; omega
    · obtain rfl : k = n := by omega
      have WQ := Lib.hid RK.out.eq
      have B5 := Lib.hid RK.out.bel
      have WR : Hid (SRow wr wr.heap.size (some ⟨g, 0, none⟩) want) := Lib.hid (by
        obtain ⟨A', c', e, _, _, _, hr, _⟩ := own_srow RK.out.own
        injection e with e1 e2 e3
        rw [e1]; exact hr)
      have WLN := Lib.hid RK.out.len
      have WE : Hid (bsL (stab ltN l) = bsL want) := Lib.hid (by rw [WQ.out, HN.out, List.take_of_length_le (Nat.le_refl _)])
      clear RK hlt
      go_wp2_with fail
      go_at_call 6; refine (FX.out wr).mono ?_; rintro e w6 ⟨rfl, hb6⟩
      have SA := Lib.hid (same_any w6 ((R3.out.below (Nat.le_refl _) (B5.out.trans (hb6.mono B5.out.size))).row) ((WR.out.below (Nat.le_refl _) hb6).row) k k c2 cap (by simp [L2.out]) (by simp [WLN.out]) H63.out H63.out)
      rw [decide_eq_true WE.out] at SA
      have B6 := Lib.hid hb6
      clear hb6
      go_wp2_with fail
      go_at_call 10; refine SA.out.mono ?_; rintro e w7 ⟨rfl, j7, hj7⟩
      have B7 : Hid (Below w6.heap.size w6 w7) := Lib.hid (by rw [hj7]; exact drewN_below (Below.refl _ _) _)
      clear hj7 SA
      go_wp2_with fail
      go_ret
      exact ⟨rfl, bstep (bstep (bstep B03.out B5.out) B6.out) B7.out⟩

end Go.Proofs.Ytdilmiaaahpfcaa.Newest
