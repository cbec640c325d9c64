/- Lines of words: a line's words. -/
import Derived.Test.YtlgakejjakeomaaDoorOrderA
import Derived.Test.YtlgakejjakeomaaDoorOrderOpen
import Derived.Laws.AppendOwn
import Derived.Laws.OwnMore
import Derived.Deep.AppendLies
import Derived.Lib.Strings
import Derived.Lib.SplitLaws
namespace Go.Proofs.YtlgakejjakeomaaDoor.Lx
set_option linter.unusedVariables false
set_option linter.unusedSimpArgs false
open Go.RowKit
abbrev Bs := List UInt8
/-- a word: where it begins, and where it ends. -/
abbrev Wp := Nat × Nat
def setLast (out : List Wp) (e : Nat) : List Wp := out.dropLast ++ [((out.getLastD (0, 0)).1, e)]
theorem setLast_app (o : List Wp) (s i e : Nat) : setLast (o ++ [(s, i)]) e = o ++ [(s, e)] := by simp [setLast]
/-- the words of a line from a place on, or where it is wrong and what is. -/
def runW (most : Nat) : Bs → Nat → List Wp → Bool → Bool → List Wp × Nat × Nat
  | [], _, out, _, _ => (out, 0, 0)
  | c :: r, i, out, iw, lf =>
    if c.toNat < 32 ∨ 126 < c.toNat then ([], i + 1, 3) else
    if lf = true ∨ c.toNat = 35 ∨ c.toNat = 32 then runW most r (i + 1) out false (lf || c.toNat == 35) else
    if iw = true then runW most r (i + 1) (setLast out (i + 1)) true false else
    if out.length = most then ([], i + 1, 4) else runW most r (i + 1) (out ++ [(i, i + 1)]) true false
def vW (s : ByteArray) (p : Wp) : List Value := [.int .i64 (p.1 + 1 : Nat), .string (s.extract p.1 p.2)]
def flatW (s : ByteArray) (l : List Wp) : List Value := l.flatMap (vW s)
theorem flatW_app (s : ByteArray) (a b : List Wp) : flatW s (a ++ b) = flatW s a ++ flatW s b := by simp [flatW]
theorem flatW_len (s : ByteArray) : ∀ l : List Wp, (flatW s l).length = l.length * 2
  | [] => rfl
  | p :: l => by
    have := flatW_len s l
    have e : flatW s (p :: l) = vW s p ++ flatW s l := by simp [flatW]
    rw [e, List.length_append, this]
    simp [vW]
    omega
theorem runW_bad {most : Nat} {c : UInt8} {r : Bs} {i : Nat} {out : List Wp} {iw lf : Bool} (h : c.toNat < 32 ∨ 126 < c.toNat) : runW most (c :: r) i out iw lf = ([], i + 1, 3) := by
  rw [runW, if_pos h]
theorem runW_off {most : Nat} {c : UInt8} {r : Bs} {i : Nat} {out : List Wp} {iw lf : Bool} (h : ¬ (c.toNat < 32 ∨ 126 < c.toNat)) (h2 : lf = true ∨ c.toNat = 35 ∨ c.toNat = 32) : runW most (c :: r) i out iw lf = runW most r (i + 1) out false (lf || c.toNat == 35) := by
  rw [runW, if_neg h, if_pos h2]
theorem runW_in {most : Nat} {c : UInt8} {r : Bs} {i : Nat} {out : List Wp} (h : ¬ (c.toNat < 32 ∨ 126 < c.toNat)) (h2 : ¬ (c.toNat = 35 ∨ c.toNat = 32)) : runW most (c :: r) i out true false = runW most r (i + 1) (setLast out (i + 1)) true false := by
  rw [runW, if_neg h, if_neg (by rintro (h | h); cases h; exact h2 h), if_pos rfl]
theorem runW_full {most : Nat} {c : UInt8} {r : Bs} {i : Nat} {out : List Wp} (h : ¬ (c.toNat < 32 ∨ 126 < c.toNat)) (h2 : ¬ (c.toNat = 35 ∨ c.toNat = 32)) (h3 : out.length = most) : runW most (c :: r) i out false false = ([], i + 1, 4) := by
  rw [runW, if_neg h, if_neg (by rintro (h | h); cases h; exact h2 h), if_neg (by decide), if_pos h3]
theorem runW_new {most : Nat} {c : UInt8} {r : Bs} {i : Nat} {out : List Wp} (h : ¬ (c.toNat < 32 ∨ 126 < c.toNat)) (h2 : ¬ (c.toNat = 35 ∨ c.toNat = 32)) (h3 : ¬ out.length = most) : runW most (c :: r) i out false false = runW most r (i + 1) (out ++ [(i, i + 1)]) true false := by
  rw [runW, if_neg h, if_neg (by rintro (h | h); cases h; exact h2 h), if_neg (by decide), if_neg h3]
theorem drop_ba (s : ByteArray) (i : Nat) (h : i < s.size) : s.data.toList.drop i = s[i] :: s.data.toList.drop (i + 1) := by
  have h' : i < s.data.toList.length := by rw [← Lib.size_eq]; exact h
  rw [List.drop_eq_getElem_cons h']
  rfl
/-- the last word's text is laid. -/
theorem last_set {w : World} {B g m cap a i : Nat} {s : ByteArray} {o : List Wp} {tx : Value} (h : w.ownsRow B 51 2 (.slice (some ⟨g, 0, none⟩) (m + 1) cap) (m + 1) (flatW s o ++ [.int .i64 (a + 1 : Nat), tx])) (hm : m = o.length) :
    w.cell? ⟨g, m * 2, none⟩ = some (.int .i64 (a + 1 : Nat)) ∧ w.cell? ⟨g, m * 2 + 1, none⟩ = some tx ∧ w.frozen? ⟨g, m * 2 + 1, none⟩ = false ∧ (w.setCell ⟨g, m * 2 + 1, none⟩ (.string (s.extract a i))).ownsRow B 51 2 (.slice (some ⟨g, 0, none⟩) (m + 1) cap) (m + 1) (flatW s (o ++ [(a, i)])) ∧
      (∀ b, b ≤ B → Below b w (w.setCell ⟨g, m * 2 + 1, none⟩ (.string (s.extract a i)))) := by
  have hl := flatW_len s o
  have hg := (h.lt g rfl).1
  refine ⟨?_, ?_, h.frozenAt _, ?_, fun b hb => (Below.refl b w).setCell (p := ⟨g, m * 2 + 1, none⟩) (by show b ≤ g; omega) _⟩
  · rw [h.cellAt (m * 2) (by omega), List.getElem?_append_right (by rw [hl, hm]; omega), hl, hm, Nat.sub_self]
    rfl
  · rw [h.cellAt (m * 2 + 1) (by omega), List.getElem?_append_right (by rw [hl, hm]; omega), hl, hm, Nat.add_sub_cancel_left]
    rfl
  · have h2 := (h.stored (m * 2 + 1) (.string (s.extract a i))).1
    rw [List.set_append_right _ _ (by rw [hl, hm]; omega), hl, hm, Nat.add_sub_cancel_left] at h2
    rw [flatW_app, hm]
    exact h2
/-- what a line's words are. -/
def WordsEnd (s : ByteArray) (most : Nat) (w : World) (e : Ending) (w' : World) : Prop :=
  ∃ A n c, e = .returned (.tuple #[.slice A n c, .int .i64 ((runW most s.data.toList 0 [] false false).2.1 : Nat), .int .i64 ((runW most s.data.toList 0 [] false false).2.2 : Nat)]) ∧ n = (runW most s.data.toList 0 [] false false).1.length ∧
    w'.ownsRow w.heap.size 51 2 (.slice A n c) n (flatW s (runW most s.data.toList 0 [] false false).1) ∧ Below w.heap.size w w'

set_option maxHeartbeats 4000000 in
set_option maxRecDepth 100000 in
theorem words_any (s : ByteArray) (most : Nat) (w : World) (hs : s.size ≤ 100000) (hm : most ≤ 1000) : Calls Tryd.prog 19 #[.string s, .int .i64 (most : Nat)] w (WordsEnd s most w) := by
  obtain ⟨i0, hi0, hz⟩ := Option.map_eq_some_iff.1 (show (Tryd.prog.info? 51).map (fun i => (i.zero, i.size, i.bytes)) = some (some (.agg #[.int .i64 0, .string ⟨#[]⟩]), 2, 24) by kernel_rfl)
  simp only [Prod.mk.injEq] at hz
  obtain ⟨hz0, hz1, hz2⟩ := hz
  have INF := Lib.hid (And.intro hi0 (And.intro hz0 (And.intro hz1 hz2)))
  have HS := Lib.hid hs
  have hs' : (s.size : Int) ≤ 100000 := by omega
  have hm' : (most : Int) ≤ 1000 := by omega
  obtain ⟨W, hW⟩ : ∃ W, W = runW most s.data.toList 0 [] false false := ⟨_, rfl⟩
  have HW := Lib.hid hW
  clear hi0 hz0 hz1 hz2 hs hm hW
  go_enter Tryd.func19, Tryd.ntmps19
  go_wp2_with fail
  go_loopw [7, 8, 9, 10, 11, 12, 15] (fun row inw left _ _ _ v wr => ∃ (i : Nat) (out : List Wp) (iw lf : Bool) (A : Option Addr) (n c : Nat), v = .int .i64 i ∧ i ≤ s.size ∧ row = .slice A n c ∧ n = out.length ∧ n ≤ i ∧ inw = .bool iw ∧ left = .bool lf ∧
      W = runW most (s.data.toList.drop i) i out iw lf ∧ wr.ownsRow w.heap.size 51 2 (.slice A n c) n (flatW s out) ∧ Below w.heap.size w wr ∧ (iw = true → ∃ o a, out = o ++ [(a, i)] ∧ a < i)) (fun _ _ _ _ _ _ v _ => s.size - (intOf v).toNat)
  case atStart => exact ⟨0, [], false, false, none, 0, 0, rfl, Nat.zero_le _, rfl, rfl, Nat.le_refl _, rfl, rfl, HW.out, World.ownsRow_nil _ _ _ _, Below.refl _ _, fun h => by cases h⟩
  case round =>
    obtain ⟨i, out, iw, lf, A, n, c, rfl, hi, rfl, hn, hni, rfl, rfl, hrun, hown, hbw, hiw⟩ := hrel
    by_cases hlt : i < s.size
    · have hlt' : (i : Int) < (s.size : Int) := by omega
      have OW := Lib.hid hown
      have BW := Lib.hid hbw
      have DR := Lib.hid (drop_ba s i hlt)
      have RUN : Hid (W = runW most (s[i] :: s.data.toList.drop (i + 1)) i out iw lf) := Lib.hid (by rw [← DR.out]; exact hrun)
      have IW := Lib.hid hiw
      have NN := Lib.hid hn
      have i5 : (i : Int) ≤ 100000 := by omega
      have n5 : (n : Int) ≤ 100000 := by omega
      have NI := Lib.hid hni
      clear hown hbw hrun hiw hn hni
      have BAD : s[i].toNat < 32 ∨ 126 < s[i].toNat → Hid (WordsEnd s most w (.returned (.tuple #[.slice none 0 0, .int .i64 ((i : Int) + 1), .int .i64 3])) wr) := fun hb => Lib.hid (by
        have e := RUN.out.trans (runW_bad hb)
        have e2 := HW.out
        unfold WordsEnd
        rw [← e2, e]
        exact ⟨none, 0, 0, by simp, rfl, World.ownsRow_nil _ _ _ _, BW.out⟩)
      by_cases h1 : (s[i].toNat : Int) < 32
      · have R := BAD (.inl (by omega))
        clear BAD
        go_wp2_with fail
        go_ret3
        exact R.out
      · by_cases h2 : 126 < (s[i].toNat : Int)
        · have R := BAD (.inr (by omega))
          clear BAD
          go_wp2_with fail
          go_ret3
          exact R.out
        · have OKC : Hid (¬ (s[i].toNat < 32 ∨ 126 < s[i].toNat)) := Lib.hid (by omega)
          clear BAD
          cases lf
          · by_cases h3 : (s[i].toNat : Int) = 35
            · have RN : Hid (W = runW most (s.data.toList.drop (i + 1)) (i + 1) out false true) := Lib.hid (by
                have e35 : s[i].toNat = 35 := by omega
                rw [RUN.out, runW_off OKC.out (.inr (.inl e35)), e35]; rfl)
              go_wp2_with fail
              go_roundw
              case rel => exact ⟨i + 1, out, false, true, A, n, c, by go_num, by omega, rfl, NN.out, by have := NI.out; omega, rfl, rfl, RN.out, OW.out, BW.out, fun h => by cases h⟩
              case measure => simp [intOf]; omega
            · have h3b : ((s[i].toNat : Int) == 35) = false := beq_eq_false_iff_ne.2 h3
              by_cases h4 : (s[i].toNat : Int) = 32
              · have RN : Hid (W = runW most (s.data.toList.drop (i + 1)) (i + 1) out false false) := Lib.hid (by
                  have e32 : s[i].toNat = 32 := by omega
                  rw [RUN.out, runW_off OKC.out (.inr (.inr e32)), e32]; rfl)
                go_wp2_with fail
                go_roundw
                case rel => exact ⟨i + 1, out, false, false, A, n, c, by go_num, by omega, rfl, NN.out, by have := NI.out; omega, rfl, rfl, RN.out, OW.out, BW.out, fun h => by cases h⟩
                case measure => simp [intOf]; omega
              · have h4b : ((s[i].toNat : Int) == 32) = false := beq_eq_false_iff_ne.2 h4
                have NOT : Hid (¬ (s[i].toNat = 35 ∨ s[i].toNat = 32)) := Lib.hid (by omega)
                cases iw
                · by_cases h5 : (n : Int) = (most : Int)
                  · have R : Hid (WordsEnd s most w (.returned (.tuple #[.slice none 0 0, .int .i64 ((i : Int) + 1), .int .i64 4])) wr) := Lib.hid (by
                      have e := RUN.out.trans (runW_full OKC.out NOT.out (by have := NN.out; omega))
                      have e2 := HW.out
                      unfold WordsEnd
                      rw [← e2, e]
                      exact ⟨none, 0, 0, by simp, rfl, World.ownsRow_nil _ _ _ _, BW.out⟩)
                    go_wp2_with fail
                    go_ret3
                    exact R.out
                  · have h5b : ((n : Int) == (most : Int)) = false := beq_eq_false_iff_ne.2 h5
                    have RN : Hid (W = runW most (s.data.toList.drop (i + 1)) (i + 1) (out ++ [(i, i + 1)]) true false) := Lib.hid (by
                      rw [RUN.out, runW_new OKC.out NOT.out (by have := NN.out; omega)])
                    obtain ⟨hi0, hz0, hz1, hz2⟩ := INF.out
                    have OA : Hid ((wr.alloc (.cells #[.int .i64 ((i : Int) + 1), .string ⟨#[]⟩] 51)).ownsRow w.heap.size 51 2 (.slice A n c) n (flatW s out)) := Lib.hid (OW.out.alloc _)
                    have NEWS : Hid (∀ j u, [Value.int .i64 ((i : Int) + 1), .string ⟨#[]⟩][j]? = some u → (wr.alloc (.cells #[.int .i64 ((i : Int) + 1), .string ⟨#[]⟩] 51)).cell? ((⟨wr.heap.size, 0, none⟩ : Addr).add j) = some u) := Lib.hid (World.news_of_block (heap_alloc_new wr _))
                    have ONE : Hid (∀ u ∈ [Value.int .i64 ((i : Int) + 1), .string ⟨#[]⟩], u.oneCell' = true) := Lib.hid (by intro u hu; simp at hu; rcases hu with rfl | rfl <;> rfl)
                    have H63 : Hid (n + 1 ≤ maxLen) := Lib.hid (by unfold maxLen; omega)
                    have HBY : Hid ((n + 1) * 24 ≤ 140737488355328) := Lib.hid (by omega)
                    have SZ : Hid (w.heap.size ≤ (wr.alloc (.cells #[.int .i64 ((i : Int) + 1), .string ⟨#[]⟩] 51)).heap.size) := Lib.hid (by have := BW.out.size; simp; omega)
                    go_wp2_with (at_builtin; refine wpList_append_own _ (by rfl) (.tmp 47) (.tmp 51) 35 (by rfl) w.heap.size 51 i0 _ 2 24 Tryd.underlying35 hi0 hz0 hz1 hz2 (by rfl) (by decide) (.slice A n c) n (flatW s out) (by rfl) OA.out ⟨wr.heap.size, 0, none⟩ 1 1 [.int .i64 ((i : Int) + 1), .string ⟨#[]⟩] (by rfl) (by rfl) NEWS.out ONE.out H63.out HBY.out SZ.out ?_; intro v2 w2 hown2 hgrow hnil; obtain ⟨g, cap, hv2, hg1, hg2, hg3⟩ := owned_shape hown2 (Nat.succ_pos n); subst hv2; have LS := Lib.hid (last_set (a := i) (i := i + 1) (s := s) (tx := .string ⟨#[]⟩) (o := out) hown2 NN.out); have B2 : Hid (Below w.heap.size w w2) := Lib.hid ((BW.out.alloc BW.out.size _).grown hgrow SZ.out (fun k hk => (OW.out.lt k hk).1)); obtain ⟨lc, lt, lf, -, -⟩ := LS.out; clear hown2 hgrow hnil hg1 hg2)
                    have lc2 : w2.cell? ⟨g, n * 2, none⟩ = some (.int .i64 ((i : Int) + 1)) := lc
                    go_wp2_with fail
                    go_roundw
                    case rel => exact ⟨i + 1, out ++ [(i, i + 1)], true, false, some ⟨g, 0, none⟩, n + 1, cap, by go_num, by omega, rfl, by simp [NN.out], by have := NI.out; omega, rfl, rfl, RN.out, LS.out.2.2.2.1, B2.out.trans (LS.out.2.2.2.2 _ (Nat.le_refl _)), fun _ => ⟨out, i, rfl, by omega⟩⟩
                    case measure => simp [intOf]; omega
                · obtain ⟨o, a, ho, ha⟩ := IW.out rfl
                  subst ho
                  obtain ⟨m, hm⟩ : ∃ m, m = o.length := ⟨_, rfl⟩
                  have hnm : n = m + 1 := by have := NN.out; simp at this; omega
                  subst hnm
                  have MM := Lib.hid hm
                  have RN : Hid (W = runW most (s.data.toList.drop (i + 1)) (i + 1) (o ++ [(a, i + 1)]) true false) := Lib.hid (by
                    rw [RUN.out, runW_in OKC.out NOT.out, setLast_app])
                  obtain ⟨g, cap, hv2, hg1, hg2, hg3⟩ := owned_shape OW.out (Nat.succ_pos m)
                  injection hv2 with hv2 _ hcc
                  subst hv2 hcc
                  have OW2 : Hid (wr.ownsRow w.heap.size 51 2 (.slice (some ⟨g, 0, none⟩) (m + 1) c) (m + 1) (flatW s o ++ [.int .i64 (a + 1 : Nat), .string (s.extract a i)])) := Lib.hid (by
                    have h := OW.out
                    rw [flatW_app] at h
                    exact h)
                  have LS := Lib.hid (last_set (a := a) (i := i + 1) (s := s) (o := o) OW2.out MM.out)
                  have lc2 : wr.cell? ⟨g, m * 2, none⟩ = some (.int .i64 ((a : Int) + 1)) := LS.out.1
                  have lt := LS.out.2.1
                  have lf := LS.out.2.2.1
                  have a5 : (a : Int) ≤ 100000 := by omega
                  have ai : (a : Int) ≤ (i : Int) + 1 := by omega
                  have m5 : (m : Int) ≤ 100000 := by omega
                  have AI := Lib.hid ha
                  clear hm ha hg1 hg2
                  go_wp2_with fail
                  go_roundw
                  case rel => exact ⟨i + 1, o ++ [(a, i + 1)], true, false, some ⟨g, 0, none⟩, m + 1, c, by go_num, by omega, rfl, by simp [MM.out], by have := NI.out; omega, rfl, rfl, RN.out, LS.out.2.2.2.1, BW.out.trans (LS.out.2.2.2.2 _ (Nat.le_refl _)), fun _ => ⟨o, a, rfl, by have := AI.out; omega⟩⟩
                  case measure => simp [intOf]; omega
          · have RN : Hid (W = runW most (s.data.toList.drop (i + 1)) (i + 1) out false true) := Lib.hid (by
              rw [RUN.out, runW_off OKC.out (.inl rfl)]; rfl)
            go_wp2_with fail
            go_roundw
            case rel => exact ⟨i + 1, out, false, true, A, n, c, by go_num, by omega, rfl, NN.out, by have := NI.out; omega, rfl, rfl, RN.out, OW.out, BW.out, fun h => by cases h⟩
            case measure => simp [intOf]; omega
    · have hend : i = s.size := by omega
      have RN : Hid (W = (out, 0, 0)) := Lib.hid (by
        rw [hrun, hend, List.drop_of_length_le (by rw [← Lib.size_eq]; exact Nat.le_refl _)]
        rfl)
      have R : Hid (WordsEnd s most w (.returned (.tuple #[.slice A n c, .int .i64 0, .int .i64 0])) wr) := Lib.hid (by
        have e2 := HW.out
        unfold WordsEnd
        rw [← e2, RN.out]
        exact ⟨A, n, c, rfl, hn, hown, hbw⟩)
      clear hown hbw hrun hiw hn hni
      go_wp2_with fail
      go_ret3
      exact R.out

end Go.Proofs.YtlgakejjakeomaaDoor.Lx
