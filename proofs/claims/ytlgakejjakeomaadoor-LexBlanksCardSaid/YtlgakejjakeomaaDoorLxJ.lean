/- Lines of words: the document's answer, a line, walked. -/
import Derived.Test.YtlgakejjakeomaaDoorLxI
namespace Go.Proofs.YtlgakejjakeomaaDoor.Lx
set_option linter.unusedVariables false
set_option linter.unusedSimpArgs false
open Go.RowKit
theorem made_any {w : World} (e : TypeId) (k : Nat) : (w.alloc (.cells #[] e)).ownsRow w.heap.size e k (.slice (some ⟨w.heap.size, 0, none⟩) 0 0) 0 [] :=
  ⟨by simp, .inr ⟨w.heap.size, 0, #[], rfl, Nat.le_refl _, heap_alloc_new w _, Nat.le_refl _, Nat.zero_le _, by simp, by simp⟩⟩
/-- does the byte before stand in a word? -/
def pv (s : Bs) : Nat → Bool
  | 0 => false
  | k + 1 => partB (s.getD k 0)
def RefEnd (s : ByteArray) (room : Bool) (w : World) (e : Ending) (w' : World) : Prop :=
  ∃ A n c, e = .returned (.tuple #[.slice A n c, .int .i64 ((refW room s.data.toList 0 false [] false).2.1 : Nat), .int .i64 ((refW room s.data.toList 0 false [] false).2.2 : Nat)]) ∧ n = (refW room s.data.toList 0 false [] false).1.length ∧
    w'.ownsRow w.heap.size 51 2 (.slice A n c) n (flatW s (refW room s.data.toList 0 false [] false).1) ∧ Below w.heap.size w w'
theorem getD_ba (s : ByteArray) (i : Nat) (h : i < s.size) : s.data.toList.getD i 0 = s[i] := by
  have h' : i < s.data.toList.length := by rw [← Lib.size_eq]; exact h
  rw [List.getD_eq_getElem?_getD, List.getElem?_eq_getElem h']
  rfl
set_option maxHeartbeats 20000000 in
set_option maxRecDepth 100000 in
theorem refline_any (s : ByteArray) (room : Bool) (w : World) (hs : s.size ≤ 100000) : Calls Tryd.prog 20 #[.string s, .bool room] w (RefEnd s room w) := by
  obtain ⟨i0, hi0, hz⟩ := Option.map_eq_some_iff.1 (show (Tryd.prog.info? 51).map (fun i => (i.zero, i.size, i.bytes)) = some (some (.agg #[.int .i64 0, .string ⟨#[]⟩]), 2, 24) by kernel_rfl)
  simp only [Prod.mk.injEq] at hz
  obtain ⟨hz0, hz1, hz2⟩ := hz
  have INF := Lib.hid (And.intro hi0 (And.intro hz0 (And.intro hz1 hz2)))
  have HS := Lib.hid hs
  have hs' : (s.size : Int) ≤ 100000 := by omega
  obtain ⟨W, hW⟩ : ∃ W, W = refW room s.data.toList 0 false [] false := ⟨_, rfl⟩
  have HW := Lib.hid hW
  have OO := Lib.hid (made_any (w := w) 51 2)
  have BO := Lib.hid ((Below.refl w.heap.size w).alloc (Nat.le_refl _) (.cells #[] 51))
  clear hi0 hz0 hz1 hz2 hs hW
  go_enter Tryd.func20, Tryd.ntmps20
  go_wp2_with fail
  go_loopw [7, 8, 9, 10] (fun row off v _ wr => ∃ (i : Nat) (out : List Wp) (lf : Bool) (A : Option Addr) (n c : Nat), v = .int .i64 i ∧ i ≤ s.size ∧ row = .slice A n c ∧ n = out.length ∧ n ≤ i ∧ off = .bool lf ∧
      W = refW room (s.data.toList.drop i) i (pv s.data.toList i) out lf ∧ wr.ownsRow w.heap.size 51 2 (.slice A n c) n (flatW s out) ∧ Below w.heap.size w wr) (fun _ _ v _ _ => s.size - (intOf v).toNat)
  case atStart => exact ⟨0, [], false, some ⟨w.heap.size, 0, none⟩, 0, 0, rfl, Nat.zero_le _, rfl, rfl, Nat.le_refl _, rfl, HW.out, OO.out, BO.out⟩
  case round =>
    obtain ⟨i, out, lf, A, n, c, rfl, hi, rfl, hn, hni, rfl, hrun, hown, hbw⟩ := hrel
    by_cases hlt : i < s.size
    · have hlt' : (i : Int) < (s.size : Int) := by omega
      have OW := Lib.hid hown
      have BW := Lib.hid hbw
      have DR := Lib.hid (drop_ba s i hlt)
      have RUN : Hid (W = refW room (s[i] :: s.data.toList.drop (i + 1)) i (pv s.data.toList i) out lf) := Lib.hid (by rw [← DR.out]; exact hrun)
      have PV1 : Hid (pv s.data.toList (i + 1) = partB s[i]) := Lib.hid (by show partB _ = _; rw [getD_ba s i hlt])
      have NN := Lib.hid hn
      have i5 : (i : Int) ≤ 100000 := by omega
      have n5 : (n : Int) ≤ 100000 := by omega
      have NI := Lib.hid hni
      have SI := Lib.hid (part_any s[i])
      clear hown hbw hrun hn hni OO BO
      have ERR : ∀ (k : Nat), W = (out, i + 1, k) → Hid (RefEnd s room w (.returned (.tuple #[.slice A n c, .int .i64 ((i : Int) + 1), .int .i64 k])) wr) := fun k hk => Lib.hid (by
        have e2 := HW.out
        unfold RefEnd
        rw [← e2, hk]
        exact ⟨A, n, c, by simp, NN.out, OW.out, BW.out⟩)
      by_cases h1 : (s[i].toNat : Int) < 32
      · have R := ERR 3 (RUN.out.trans (refW_bad (.inl (by omega))))
        clear ERR
        go_wp2_with fail
        go_ret3
        exact R.out
      · by_cases h2 : 126 < (s[i].toNat : Int)
        · have R := ERR 3 (RUN.out.trans (refW_bad (.inr (by omega))))
          clear ERR
          go_wp2_with fail
          go_ret3
          exact R.out
        · have OKC : Hid (¬ (s[i].toNat < 32 ∨ 126 < s[i].toNat)) := Lib.hid (by omega)
          have NEXT : ∀ (lf' : Bool), W = refW room (s.data.toList.drop (i + 1)) (i + 1) (partB s[i]) out lf' → Hid (∃ (i' : Nat) (out' : List Wp) (lf'' : Bool) (A' : Option Addr) (n' c' : Nat), Value.int .i64 ((i : Int) + 1) = .int .i64 i' ∧ i' ≤ s.size ∧ Value.slice A n c = .slice A' n' c' ∧ n' = out'.length ∧ n' ≤ i' ∧ Value.bool lf' = .bool lf'' ∧
              W = refW room (s.data.toList.drop i') i' (pv s.data.toList i') out' lf'' ∧ wr.ownsRow w.heap.size 51 2 (.slice A' n' c') n' (flatW s out') ∧ Below w.heap.size w wr) := fun lf' h => Lib.hid
                ⟨i + 1, out, lf', A, n, c, by go_num, by omega, rfl, NN.out, by have := NI.out; omega, rfl, by rw [PV1.out]; exact h, OW.out, BW.out⟩
          cases lf
          · by_cases h3 : (s[i].toNat : Int) = 35
            · have e35 : (false || s[i].toNat == 35) = true := by simp; omega
              have RN := NEXT true (RUN.out.trans (by rw [refW_go OKC.out (.inl e35), e35]))
              clear ERR NEXT e35
              go_wp2_with fail
              go_roundw
              case rel => exact RN.out
              case measure => simp [intOf]; omega
            · have h3b : ((s[i].toNat : Int) == 35) = false := beq_eq_false_iff_ne.2 h3
              have e35 : Hid ((false || s[i].toNat == 35) = false) := Lib.hid (by simp; omega)
              cases hpt : partB s[i] with
              | false =>
                have RN := NEXT false (RUN.out.trans (by rw [refW_go OKC.out (.inr (.inl hpt)), e35.out]))
                have PT := Lib.hid hpt
                clear ERR NEXT hpt
                go_wp2_with (go_at_call 34; refine (part_any _ _).mono ?_; rintro e w' ⟨rfl, rfl⟩; rw [PT.out])
                go_roundw
                case rel => exact RN.out
                case measure => simp [intOf]; omega
              | true =>
                have PT := Lib.hid hpt
                have GOAL : Hid (pv s.data.toList i = true → W = refW room (s.data.toList.drop (i + 1)) (i + 1) (partB s[i]) out false) := Lib.hid (fun hp => RUN.out.trans (by rw [refW_go OKC.out (.inr (.inr hp)), e35.out]))
                have CORE : pv s.data.toList i = false → Hid ((out.length = 40 ∨ room = false → W = (out, i + 1, 4)) ∧ (¬ (out.length = 40 ∨ room = false) → W = refW room (s.data.toList.drop (i + 1)) (i + 1) true (out ++ [(i, i + twP (s.data.toList.drop i))]) false)) := fun hp => Lib.hid (by
                  have hno : ¬ ((false || s[i].toNat == 35) = true ∨ partB s[i] = false ∨ pv s.data.toList i = true) := by rw [e35.out, PT.out, hp]; simp
                  exact ⟨fun h => RUN.out.trans (refW_full OKC.out hno h), fun h => by rw [DR.out]; exact RUN.out.trans (refW_new OKC.out hno h)⟩)
                clear hpt
                rcases Nat.eq_zero_or_pos i with hz | hz
                · subst hz
                  have CC := CORE rfl
                  clear CORE NEXT
                  by_cases h40 : (n : Int) = 40
                  · have hq : ((n : Int) == 40) = true := by rw [h40]; rfl
                    have R := ERR 4 (CC.out.1 (.inl (by have := NN.out; omega)))
                    clear ERR CC
                    go_wp2_with (go_at_call 34; refine (part_any _ _).mono ?_; rintro e w' ⟨rfl, rfl⟩; rw [PT.out])
                    go_ret3
                    exact R.out
                  · have hq : ((n : Int) == 40) = false := beq_eq_false_iff_ne.2 h40
                    cases room
                    · have R := ERR 4 (CC.out.1 (.inr rfl))
                      clear ERR CC
                      go_wp2_with (go_at_call 34; refine (part_any _ _).mono ?_; rintro e w' ⟨rfl, rfl⟩; rw [PT.out])
                      go_ret3
                      exact R.out
                    · have C := Lib.hid (CC.out.2 (by have := NN.out; rintro (h | h); omega; cases h))
                      clear ERR CC
                      go_wp2_with (go_at_call 34; refine (part_any _ _).mono ?_; rintro e w' ⟨rfl, rfl⟩; rw [PT.out])
                      go_loopw [10] (fun v wq => ∃ k : Nat, v = .int .i64 k ∧ (0 : Nat) ≤ k ∧ k ≤ s.size ∧ wr = wq ∧ (0 : Nat) + twP (s.data.toList.drop (0 : Nat)) = k + twP (s.data.toList.drop k)) (fun v _ => s.size - (intOf v).toNat)
                      case atStart => exact ⟨(0 : Nat), by first | rfl | trivial, Nat.le_refl _, by omega, by first | rfl | trivial, by first | rfl | trivial⟩
                      case round =>
                        obtain ⟨k, rfl, hik, hk, rfl, htw⟩ := hrel
                        by_cases hkl : k < s.size
                        · have hkl' : (k : Int) < (s.size : Int) := by omega
                          cases hpk : partB s[k] with
                          | true =>
                            have PK := Lib.hid hpk
                            have TW : Hid ((0 : Nat) + twP (s.data.toList.drop (0 : Nat)) = k + 1 + twP (s.data.toList.drop (k + 1))) := Lib.hid (by rw [htw, drop_ba s k hkl, twP_yes hpk]; omega)
                            clear hpk htw C
                            go_wp2_with (go_at_call 34; refine (part_any _ _).mono ?_; rintro e w' ⟨rfl, rfl⟩; rw [PK.out])
                            go_roundw
                            case rel => exact ⟨k + 1, by go_num, by omega, by omega, by first | rfl | trivial, TW.out⟩
                            case measure => simp [intOf]; omega
                          | false =>
                            have PK := Lib.hid hpk
                            have KE : Hid (k = (0 : Nat) + twP (s.data.toList.drop (0 : Nat))) := Lib.hid (by rw [htw, drop_ba s k hkl, twP_no hpk]; rfl)
                            clear hpk
                            obtain ⟨hi0, hz0, hz1, hz2⟩ := INF.out
                            have ik' : (((0 : Nat)) : Int) ≤ (k : Int) := by omega
                            have kz' : (k : Int) ≤ (s.size : Int) := by omega
                            have OA : Hid ((wr.alloc (.cells #[.int .i64 ((((0 : Nat)) : Int) + 1), .string (s.extract (0 : Nat) k)] 51)).ownsRow w.heap.size 51 2 (.slice A n c) n (flatW s out)) := Lib.hid (OW.out.alloc _)
                            have NEWS : Hid (∀ j u, [Value.int .i64 ((((0 : Nat)) : Int) + 1), .string (s.extract (0 : Nat) k)][j]? = some u → (wr.alloc (.cells #[.int .i64 ((((0 : Nat)) : Int) + 1), .string (s.extract (0 : Nat) k)] 51)).cell? ((⟨wr.heap.size, 0, none⟩ : Addr).add j) = some u) := Lib.hid (World.news_of_block (heap_alloc_new wr _))
                            have ONE : Hid (∀ u ∈ [Value.int .i64 ((((0 : Nat)) : Int) + 1), .string (s.extract (0 : Nat) k)], u.oneCell' = true) := Lib.hid (by intro u hu; simp at hu; rcases hu with rfl | rfl <;> rfl)
                            have H63 : Hid (n + 1 ≤ maxLen) := Lib.hid (by unfold maxLen; omega)
                            have HBY : Hid ((n + 1) * 24 ≤ 140737488355328) := Lib.hid (by omega)
                            have SZ : Hid (w.heap.size ≤ (wr.alloc (.cells #[.int .i64 ((((0 : Nat)) : Int) + 1), .string (s.extract (0 : Nat) k)] 51)).heap.size) := Lib.hid (by have := BW.out.size; simp; omega)
                            have RN : Hid (W = refW true (s.data.toList.drop ((0 : Nat) + 1)) ((0 : Nat) + 1) (pv s.data.toList ((0 : Nat) + 1)) (out ++ [((0 : Nat), k)]) false) := Lib.hid (by rw [PV1.out, PT.out, KE.out]; exact C.out)
                            clear hik hk htw
                            go_wp2_with (first | (go_at_call 34; refine (part_any _ _).mono ?_; rintro e w' ⟨rfl, rfl⟩; rw [PK.out]) | (at_builtin; refine wpList_append_own _ (by rfl) (.tmp 80) (.tmp 88) 35 (by rfl) w.heap.size 51 i0 _ 2 24 Tryd.underlying35 hi0 hz0 hz1 hz2 (by rfl) (by decide) (.slice A n c) n (flatW s out) (by rfl) OA.out ⟨wr.heap.size, 0, none⟩ 1 1 [.int .i64 ((((0 : Nat)) : Int) + 1), .string (s.extract (0 : Nat) k)] (by rfl) (by rfl) NEWS.out ONE.out H63.out HBY.out SZ.out ?_; intro v2 w2 hown2 hgrow hnil; obtain ⟨g, cap, hv2, -, -, -⟩ := owned_shape hown2 (Nat.succ_pos n); subst hv2; have OW2 : Hid (w2.ownsRow w.heap.size 51 2 (.slice (some ⟨g, 0, none⟩) (n + 1) cap) (n + 1) (flatW s (out ++ [((0 : Nat), k)]))) := Lib.hid (by rw [flatW_app]; simpa [flatW, vW] using hown2); have B2 : Hid (Below w.heap.size w w2) := Lib.hid ((BW.out.alloc BW.out.size _).grown hgrow SZ.out (fun k hk => (OW.out.lt k hk).1)); clear hown2 hgrow hnil))
                            go_roundw
                            case rel => exact ⟨(0 : Nat) + 1, out ++ [((0 : Nat), k)], false, some ⟨g, 0, none⟩, n + 1, cap, by go_num, by omega, rfl, by simp [NN.out], by have := NI.out; omega, rfl, RN.out, OW2.out, B2.out⟩
                            case measure => simp [intOf]; omega
                        · have KE : Hid (k = (0 : Nat) + twP (s.data.toList.drop (0 : Nat))) := Lib.hid (by
                            have e : k = s.size := by omega
                            rw [htw, e, List.drop_of_length_le (by rw [← Lib.size_eq]; exact Nat.le_refl _)]
                            rfl)
                          obtain ⟨hi0, hz0, hz1, hz2⟩ := INF.out
                          have ik' : (((0 : Nat)) : Int) ≤ (k : Int) := by omega
                          have kz' : (k : Int) ≤ (s.size : Int) := by omega
                          have OA : Hid ((wr.alloc (.cells #[.int .i64 ((((0 : Nat)) : Int) + 1), .string (s.extract (0 : Nat) k)] 51)).ownsRow w.heap.size 51 2 (.slice A n c) n (flatW s out)) := Lib.hid (OW.out.alloc _)
                          have NEWS : Hid (∀ j u, [Value.int .i64 ((((0 : Nat)) : Int) + 1), .string (s.extract (0 : Nat) k)][j]? = some u → (wr.alloc (.cells #[.int .i64 ((((0 : Nat)) : Int) + 1), .string (s.extract (0 : Nat) k)] 51)).cell? ((⟨wr.heap.size, 0, none⟩ : Addr).add j) = some u) := Lib.hid (World.news_of_block (heap_alloc_new wr _))
                          have ONE : Hid (∀ u ∈ [Value.int .i64 ((((0 : Nat)) : Int) + 1), .string (s.extract (0 : Nat) k)], u.oneCell' = true) := Lib.hid (by intro u hu; simp at hu; rcases hu with rfl | rfl <;> rfl)
                          have H63 : Hid (n + 1 ≤ maxLen) := Lib.hid (by unfold maxLen; omega)
                          have HBY : Hid ((n + 1) * 24 ≤ 140737488355328) := Lib.hid (by omega)
                          have SZ : Hid (w.heap.size ≤ (wr.alloc (.cells #[.int .i64 ((((0 : Nat)) : Int) + 1), .string (s.extract (0 : Nat) k)] 51)).heap.size) := Lib.hid (by have := BW.out.size; simp; omega)
                          have RN : Hid (W = refW true (s.data.toList.drop ((0 : Nat) + 1)) ((0 : Nat) + 1) (pv s.data.toList ((0 : Nat) + 1)) (out ++ [((0 : Nat), k)]) false) := Lib.hid (by rw [PV1.out, PT.out, KE.out]; exact C.out)
                          clear hik hk htw
                          go_wp2_with ((at_builtin; refine wpList_append_own _ (by rfl) (.tmp 80) (.tmp 88) 35 (by rfl) w.heap.size 51 i0 _ 2 24 Tryd.underlying35 hi0 hz0 hz1 hz2 (by rfl) (by decide) (.slice A n c) n (flatW s out) (by rfl) OA.out ⟨wr.heap.size, 0, none⟩ 1 1 [.int .i64 ((((0 : Nat)) : Int) + 1), .string (s.extract (0 : Nat) k)] (by rfl) (by rfl) NEWS.out ONE.out H63.out HBY.out SZ.out ?_; intro v2 w2 hown2 hgrow hnil; obtain ⟨g, cap, hv2, -, -, -⟩ := owned_shape hown2 (Nat.succ_pos n); subst hv2; have OW2 : Hid (w2.ownsRow w.heap.size 51 2 (.slice (some ⟨g, 0, none⟩) (n + 1) cap) (n + 1) (flatW s (out ++ [((0 : Nat), k)]))) := Lib.hid (by rw [flatW_app]; simpa [flatW, vW] using hown2); have B2 : Hid (Below w.heap.size w w2) := Lib.hid ((BW.out.alloc BW.out.size _).grown hgrow SZ.out (fun k hk => (OW.out.lt k hk).1)); clear hown2 hgrow hnil))
                          go_roundw
                          case rel => exact ⟨(0 : Nat) + 1, out ++ [((0 : Nat), k)], false, some ⟨g, 0, none⟩, n + 1, cap, by go_num, by omega, rfl, by simp [NN.out], by have := NI.out; omega, rfl, RN.out, OW2.out, B2.out⟩
                          case measure => simp [intOf]; omega
                · obtain ⟨j, hij⟩ : ∃ j, i = j + 1 := ⟨i - 1, by omega⟩
                  have hj : j < s.size := by omega
                  have hj' : (j : Int) < (s.size : Int) := by omega
                  have ip : (0 : Int) < (i : Int) := by omega
                  have SJ := Lib.hid (part_any s[j])
                  have ej : (i : Int) - 1 = (j : Int) := by omega
                  have PVJ : Hid (pv s.data.toList i = partB s[j]) := Lib.hid (by rw [hij]; show partB _ = _; rw [getD_ba s j hj])
                  clear hij hz
                  cases hpj : partB s[j] with
                  | true =>
                    have PJ := Lib.hid hpj
                    have RN := NEXT false (GOAL.out (by rw [PVJ.out, hpj]))
                    clear ERR NEXT CORE hpj
                    go_wp2_with (go_at_call 34; refine (part_any _ _).mono ?_; rintro e w' ⟨rfl, rfl⟩; first | rw [PT.out] | rw [PJ.out])
                    go_roundw
                    case rel => exact RN.out
                    case measure => simp [intOf]; omega
                  | false =>
                    have PJ := Lib.hid hpj
                    have HPJ := PVJ.out.trans hpj
                    clear hpj
                    have CC := CORE HPJ
                    clear CORE NEXT HPJ
                    by_cases h40 : (n : Int) = 40
                    · have hq : ((n : Int) == 40) = true := by rw [h40]; rfl
                      have R := ERR 4 (CC.out.1 (.inl (by have := NN.out; omega)))
                      clear ERR CC
                      go_wp2_with (go_at_call 34; refine (part_any _ _).mono ?_; rintro e w' ⟨rfl, rfl⟩; first | rw [PT.out] | rw [PJ.out])
                      go_ret3
                      exact R.out
                    · have hq : ((n : Int) == 40) = false := beq_eq_false_iff_ne.2 h40
                      cases room
                      · have R := ERR 4 (CC.out.1 (.inr rfl))
                        clear ERR CC
                        go_wp2_with (go_at_call 34; refine (part_any _ _).mono ?_; rintro e w' ⟨rfl, rfl⟩; first | rw [PT.out] | rw [PJ.out])
                        go_ret3
                        exact R.out
                      · have C := Lib.hid (CC.out.2 (by have := NN.out; rintro (h | h); omega; cases h))
                        clear ERR CC
                        go_wp2_with (go_at_call 34; refine (part_any _ _).mono ?_; rintro e w' ⟨rfl, rfl⟩; first | rw [PT.out] | rw [PJ.out])
                        go_loopw [10] (fun v wq => ∃ k : Nat, v = .int .i64 k ∧ i ≤ k ∧ k ≤ s.size ∧ wr = wq ∧ i + twP (s.data.toList.drop i) = k + twP (s.data.toList.drop k)) (fun v _ => s.size - (intOf v).toNat)
                        case atStart => exact ⟨i, by first | rfl | trivial, Nat.le_refl _, by omega, by first | rfl | trivial, by first | rfl | trivial⟩
                        case round =>
                          obtain ⟨k, rfl, hik, hk, rfl, htw⟩ := hrel
                          by_cases hkl : k < s.size
                          · have hkl' : (k : Int) < (s.size : Int) := by omega
                            cases hpk : partB s[k] with
                            | true =>
                              have PK := Lib.hid hpk
                              have TW : Hid (i + twP (s.data.toList.drop i) = k + 1 + twP (s.data.toList.drop (k + 1))) := Lib.hid (by rw [htw, drop_ba s k hkl, twP_yes hpk]; omega)
                              clear hpk htw C
                              go_wp2_with (go_at_call 34; refine (part_any _ _).mono ?_; rintro e w' ⟨rfl, rfl⟩; rw [PK.out])
                              go_roundw
                              case rel => exact ⟨k + 1, by go_num, by omega, by omega, by first | rfl | trivial, TW.out⟩
                              case measure => simp [intOf]; omega
                            | false =>
                              have PK := Lib.hid hpk
                              have KE : Hid (k = i + twP (s.data.toList.drop i)) := Lib.hid (by rw [htw, drop_ba s k hkl, twP_no hpk]; rfl)
                              clear hpk
                              obtain ⟨hi0, hz0, hz1, hz2⟩ := INF.out
                              have ik' : (i : Int) ≤ (k : Int) := by omega
                              have kz' : (k : Int) ≤ (s.size : Int) := by omega
                              have OA : Hid ((wr.alloc (.cells #[.int .i64 ((i : Int) + 1), .string (s.extract i k)] 51)).ownsRow w.heap.size 51 2 (.slice A n c) n (flatW s out)) := Lib.hid (OW.out.alloc _)
                              have NEWS : Hid (∀ j u, [Value.int .i64 ((i : Int) + 1), .string (s.extract i k)][j]? = some u → (wr.alloc (.cells #[.int .i64 ((i : Int) + 1), .string (s.extract i k)] 51)).cell? ((⟨wr.heap.size, 0, none⟩ : Addr).add j) = some u) := Lib.hid (World.news_of_block (heap_alloc_new wr _))
                              have ONE : Hid (∀ u ∈ [Value.int .i64 ((i : Int) + 1), .string (s.extract i k)], u.oneCell' = true) := Lib.hid (by intro u hu; simp at hu; rcases hu with rfl | rfl <;> rfl)
                              have H63 : Hid (n + 1 ≤ maxLen) := Lib.hid (by unfold maxLen; omega)
                              have HBY : Hid ((n + 1) * 24 ≤ 140737488355328) := Lib.hid (by omega)
                              have SZ : Hid (w.heap.size ≤ (wr.alloc (.cells #[.int .i64 ((i : Int) + 1), .string (s.extract i k)] 51)).heap.size) := Lib.hid (by have := BW.out.size; simp; omega)
                              have RN : Hid (W = refW true (s.data.toList.drop (i + 1)) (i + 1) (pv s.data.toList (i + 1)) (out ++ [(i, k)]) false) := Lib.hid (by rw [PV1.out, PT.out, KE.out]; exact C.out)
                              clear hik hk htw
                              go_wp2_with (first | (go_at_call 34; refine (part_any _ _).mono ?_; rintro e w' ⟨rfl, rfl⟩; rw [PK.out]) | (at_builtin; refine wpList_append_own _ (by rfl) (.tmp 80) (.tmp 88) 35 (by rfl) w.heap.size 51 i0 _ 2 24 Tryd.underlying35 hi0 hz0 hz1 hz2 (by rfl) (by decide) (.slice A n c) n (flatW s out) (by rfl) OA.out ⟨wr.heap.size, 0, none⟩ 1 1 [.int .i64 ((i : Int) + 1), .string (s.extract i k)] (by rfl) (by rfl) NEWS.out ONE.out H63.out HBY.out SZ.out ?_; intro v2 w2 hown2 hgrow hnil; obtain ⟨g, cap, hv2, -, -, -⟩ := owned_shape hown2 (Nat.succ_pos n); subst hv2; have OW2 : Hid (w2.ownsRow w.heap.size 51 2 (.slice (some ⟨g, 0, none⟩) (n + 1) cap) (n + 1) (flatW s (out ++ [(i, k)]))) := Lib.hid (by rw [flatW_app]; simpa [flatW, vW] using hown2); have B2 : Hid (Below w.heap.size w w2) := Lib.hid ((BW.out.alloc BW.out.size _).grown hgrow SZ.out (fun k hk => (OW.out.lt k hk).1)); clear hown2 hgrow hnil))
                              go_roundw
                              case rel => exact ⟨i + 1, out ++ [(i, k)], false, some ⟨g, 0, none⟩, n + 1, cap, by go_num, by omega, rfl, by simp [NN.out], by have := NI.out; omega, rfl, RN.out, OW2.out, B2.out⟩
                              case measure => simp [intOf]; omega
                          · have KE : Hid (k = i + twP (s.data.toList.drop i)) := Lib.hid (by
                              have e : k = s.size := by omega
                              rw [htw, e, List.drop_of_length_le (by rw [← Lib.size_eq]; exact Nat.le_refl _)]
                              rfl)
                            obtain ⟨hi0, hz0, hz1, hz2⟩ := INF.out
                            have ik' : (i : Int) ≤ (k : Int) := by omega
                            have kz' : (k : Int) ≤ (s.size : Int) := by omega
                            have OA : Hid ((wr.alloc (.cells #[.int .i64 ((i : Int) + 1), .string (s.extract i k)] 51)).ownsRow w.heap.size 51 2 (.slice A n c) n (flatW s out)) := Lib.hid (OW.out.alloc _)
                            have NEWS : Hid (∀ j u, [Value.int .i64 ((i : Int) + 1), .string (s.extract i k)][j]? = some u → (wr.alloc (.cells #[.int .i64 ((i : Int) + 1), .string (s.extract i k)] 51)).cell? ((⟨wr.heap.size, 0, none⟩ : Addr).add j) = some u) := Lib.hid (World.news_of_block (heap_alloc_new wr _))
                            have ONE : Hid (∀ u ∈ [Value.int .i64 ((i : Int) + 1), .string (s.extract i k)], u.oneCell' = true) := Lib.hid (by intro u hu; simp at hu; rcases hu with rfl | rfl <;> rfl)
                            have H63 : Hid (n + 1 ≤ maxLen) := Lib.hid (by unfold maxLen; omega)
                            have HBY : Hid ((n + 1) * 24 ≤ 140737488355328) := Lib.hid (by omega)
                            have SZ : Hid (w.heap.size ≤ (wr.alloc (.cells #[.int .i64 ((i : Int) + 1), .string (s.extract i k)] 51)).heap.size) := Lib.hid (by have := BW.out.size; simp; omega)
                            have RN : Hid (W = refW true (s.data.toList.drop (i + 1)) (i + 1) (pv s.data.toList (i + 1)) (out ++ [(i, k)]) false) := Lib.hid (by rw [PV1.out, PT.out, KE.out]; exact C.out)
                            clear hik hk htw
                            go_wp2_with ((at_builtin; refine wpList_append_own _ (by rfl) (.tmp 80) (.tmp 88) 35 (by rfl) w.heap.size 51 i0 _ 2 24 Tryd.underlying35 hi0 hz0 hz1 hz2 (by rfl) (by decide) (.slice A n c) n (flatW s out) (by rfl) OA.out ⟨wr.heap.size, 0, none⟩ 1 1 [.int .i64 ((i : Int) + 1), .string (s.extract i k)] (by rfl) (by rfl) NEWS.out ONE.out H63.out HBY.out SZ.out ?_; intro v2 w2 hown2 hgrow hnil; obtain ⟨g, cap, hv2, -, -, -⟩ := owned_shape hown2 (Nat.succ_pos n); subst hv2; have OW2 : Hid (w2.ownsRow w.heap.size 51 2 (.slice (some ⟨g, 0, none⟩) (n + 1) cap) (n + 1) (flatW s (out ++ [(i, k)]))) := Lib.hid (by rw [flatW_app]; simpa [flatW, vW] using hown2); have B2 : Hid (Below w.heap.size w w2) := Lib.hid ((BW.out.alloc BW.out.size _).grown hgrow SZ.out (fun k hk => (OW.out.lt k hk).1)); clear hown2 hgrow hnil))
                            go_roundw
                            case rel => exact ⟨i + 1, out ++ [(i, k)], false, some ⟨g, 0, none⟩, n + 1, cap, by go_num, by omega, rfl, by simp [NN.out], by have := NI.out; omega, rfl, RN.out, OW2.out, B2.out⟩
                            case measure => simp [intOf]; omega
          · have RN := NEXT true (RUN.out.trans (by rw [refW_go OKC.out (.inl rfl)]; rfl))
            clear ERR NEXT
            go_wp2_with fail
            go_roundw
            case rel => exact RN.out
            case measure => simp [intOf]; omega
    · have hend : i = s.size := by omega
      have RN : Hid (W = (out, 0, 0)) := Lib.hid (by
        rw [hrun, hend, List.drop_of_length_le (by rw [← Lib.size_eq]; exact Nat.le_refl _)]
        rfl)
      have R : Hid (RefEnd s room w (.returned (.tuple #[.slice A n c, .int .i64 0, .int .i64 0])) wr) := Lib.hid (by
        have e2 := HW.out
        unfold RefEnd
        rw [← e2, RN.out]
        exact ⟨A, n, c, rfl, hn, hown, hbw⟩)
      clear hown hbw hrun hn hni
      go_wp2_with fail
      go_ret3
      exact R.out

end Go.Proofs.YtlgakejjakeomaaDoor.Lx
