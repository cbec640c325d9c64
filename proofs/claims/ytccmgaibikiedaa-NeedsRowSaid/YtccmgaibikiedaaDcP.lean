/- Rows of texts: are two alike? -/
import Derived.Test.YtccmgaibikiedaaDcO
import Derived.Maps.OwnOps
import Derived.Maps.OwnSet
import Derived.Maps.Views
import Derived.StringKeys
namespace Go.Proofs.Ytccmgaibikiedaa.Dc
open Go.RowKit Go.Maps
set_option linter.unusedVariables false
set_option linter.unusedSimpArgs false
def dupT (l : List ByteArray) : Nat → Bool
  | 0 => false
  | i + 1 => dupT l i || (l.take i).any (fun y => eqB y (l.getD i ByteArray.empty))
def dupB (l : List ByteArray) : Bool := dupT l l.length
theorem dupT_mono (l : List ByteArray) {i : Nat} (h : dupT l i = true) : ∀ k, dupT l (i + k) = true
  | 0 => h
  | k + 1 => by
    show (dupT l (i + k) || _) = true
    rw [dupT_mono l h k]; rfl
theorem dupB_of {l : List ByteArray} {i : Nat} (hi : i ≤ l.length) (h : dupT l i = true) : dupB l = true := by
  have := dupT_mono l h (l.length - i)
  rw [show i + (l.length - i) = l.length by omega] at this
  exact this
theorem getD_of {α : Type} {l : List α} {i : Nat} {y d : α} (h : l[i]? = some y) : l.getD i d = y := by
  rw [List.getD_eq_getElem?_getD, h]; rfl
theorem eqB_comm (a b : ByteArray) : eqB a b = eqB b a := by
  rw [Bool.eq_iff_iff, eqB_iff, eqB_iff]; exact ⟨Eq.symm, Eq.symm⟩
abbrev tyM : TypeId := 107
theorem zeroI (w : World) : (zeroValue 3).run Try.prog w = .ok (.int .i64 0) w := by kernel_rfl
def keyL (s : ByteArray) : Lit := .string s.data.toList
theorem keyL_inj {a b : ByteArray} (h : keyL a = keyL b) : a = b := by
  unfold keyL at h
  injection h with h
  cases a; cases b
  congr 1
  exact Array.toList_inj.1 h
/-- what the map holds behind i texts. -/
structure Sn (l : List ByteArray) (i : Nat) (D : DataW Unit) : Prop where
  has : ∀ y, Maps.has D (keyL y) = (l.take i).any (fun z => eqB z y)
  le : Maps.size D ≤ i
  dup : Maps.size D = i ↔ dupT l i = false
theorem Sn.put {l : List ByteArray} {i : Nat} {D : DataW Unit} {s : ByteArray} {d : DataW Unit} (h : Sn l i D) (hs : l[i]? = some s) (hD : IsMap D) (hT : Tidy D) : Sn l (i + 1) (D.put (keyL s) d) := by
  have hz := size_put (k := keyL s) hT d
  have hh := h.has s
  have hd : dupT l (i + 1) = (dupT l i || (l.take i).any (fun y => eqB y s)) := by rw [dupT, getD_of hs]
  refine ⟨fun y => ?_, ?_, ?_⟩
  · rw [take_next hs, List.any_append]
    by_cases e : y = s
    · subst e
      rw [has_put_same hD (show WideAt.IsKeyLit (keyL y) from trivial)]
      simp [(eqB_iff y y).2 rfl]
    · rw [has_put_other (fun e' => e (keyL_inj e')), h.has y]
      have : eqB s y = false := by
        cases hq : eqB s y with
        | false => rfl
        | true => exact absurd ((eqB_iff _ _).1 hq).symm e
      simp [this]
  · rw [hz]; have := h.le; split <;> omega
  · rw [hd, hz, hh]
    have h1 := h.dup
    have h2 := h.le
    cases hq : (l.take i).any (fun y => eqB y s) with
    | true =>
      rw [if_pos rfl]
      constructor
      · intro e; omega
      · intro e; rw [Bool.or_true] at e; cases e
    | false =>
      rw [if_neg (by decide), Bool.or_false]
      constructor
      · intro e; exact h1.1 (by omega)
      · intro e; rw [h1.2 e]
set_option maxHeartbeats 4000000 in
set_option maxRecDepth 100000 in
theorem alike_any {w : World} {B : Nat} {A : Option Addr} {n c : Nat} {l : List ByteArray} (h : Sl ByteArray 1 strD w B A n c l) (hB : B ≤ w.heap.size) : Calls Try.prog 57 #[.slice A n c] w fun e w' => e = .returned (.bool (dupB l)) ∧ Below w.heap.size w w' := by
  have hmm := @run_makeMap Try.prog
  have K : Keyed Try.prog 9 := string_keyed Try.underlying9
  have KK := Lib.hid K
  have H := Lib.hid h
  have HB := Lib.hid hB
  have n5 := h.le
  have HN := Lib.hid h.len
  have HM : Hid (n ≤ maxLen) := Lib.hid (Nat.le_trans h.cap h.max)
  have B0 : Hid (Below w.heap.size w (w.alloc (.map #[] 0))) := Lib.hid ((Below.refl _ _).alloc (Nat.le_refl _) _)
  clear h hB K
  go_enter Try.func57, Try.ntmps57
  go_wp2_with fail
  clear hmm
  go_loopw [5, 9] (fun _ v wq => ∃ (i : Nat) (D : DataW Unit), v = .int .i64 i ∧ i ≤ n ∧ wq.ownsMap Try.prog 9 (plainElem Try.prog 3) w.heap.size i D ∧ Sn l i D ∧ Below w.heap.size w wq) (fun _ v _ => n - (intOf v).toNat)
  case atStart => exact ⟨0, .map [], rfl, Nat.zero_le _, World.ownsMap_made _ _ _ _, ⟨fun y => rfl, Nat.le_refl _, ⟨fun _ => rfl, fun _ => rfl⟩⟩, B0.out⟩
  case round =>
    obtain ⟨i, D, rfl, hi, hown, hsn, hbw⟩ := hrel
    have OM := Lib.hid hown
    have SN := Lib.hid hsn
    have BW := Lib.hid hbw
    have SW := Lib.hid (H.out.below strD_stays (Nat.le_refl B) (hbw.mono HB.out))
    clear hown hsn hbw
    by_cases hlt : i < n
    · have hlt' : (i : Int) < (n : Int) := by omega
      obtain ⟨s, b, o, t1, rfl, t3, x0, s5⟩ := text_at SW.out hlt
      have T1 := Lib.hid t1
      have KY : Hid (keyOf Try.prog 9 (.string s) = some (keyL s)) := Lib.hid (WideMaps.keyOf_string_mk Try.underlying9 s5)
      have IL : Hid (i < maxLen) := Lib.hid (by have := HM.out; omega)
      clear t1 s5
      go_wp2_with (first
        | (at_lookup; refine wpList_lookup_own_int _ rfl _ _ tyM rfl 9 3 .i64 KK.out Try.underlying107 Try.underlying3 (zeroI _) w.heap.size i D rfl OM.out _ _ rfl KY.out ?_; intro cc hat hwc)
        | (at_mapUpdate; refine wpList_mapUpdate_own _ rfl _ _ _ tyM rfl 9 3 KK.out Try.underlying107 (plainElem Try.prog 3) w.heap.size i D rfl OM.out IL.out _ _ _ rfl rfl KY.out _ [] (plainElem_int Try.underlying3 ?c1) ?_))
      case c1 => simp [Lit.wf, IntKind.min, IntKind.max, IntKind.signed, IntKind.bits]; unfold wrap64; omega
      intro w2 hown2 hgr2
      have BZ := Lib.hid (BW.out.grown hgr2 BW.out.size (fun k hk => by cases hk; exact Nat.le_refl _))
      have OM2 := Lib.hid hown2
      have SN2 := Lib.hid (SN.out.put (d := DataW.lit (Lit.int IntKind.i64 (wrap64 (cc + 1)))) T1.out OM.out.isMap (OM.out.tidy KK.out))
      clear hown2 hgr2
      go_wp2_with fail
      go_roundw
      case rel => exact ⟨i + 1, _, by go_num, by omega, OM2.out, SN2.out, BZ.out⟩
      case measure => simp [intOf]; omega
    · have HD := OM.out.len Try.underlying107 3
      have R : Hid (dupB l = decide (Maps.size D < n)) := Lib.hid (by
        obtain rfl : i = n := by omega
        have h1 := SN.out.le
        have h2 := SN.out.dup
        unfold dupB
        rw [← HN.out]
        cases hq : dupT l i with
        | false => rw [decide_eq_false (by have := h2.2 hq; omega)]
        | true =>
          rw [decide_eq_true]
          rcases Nat.lt_or_ge (Maps.size D) i with h | h
          · exact h
          · have := h2.1 (by omega)
            rw [hq] at this; cases this)
      go_wp2_with fail
      go_ret
      rw [R.out]
      exact ⟨rfl, BW.out⟩

set_option maxHeartbeats 2000000 in
set_option maxRecDepth 100000 in
theorem twice_any {w : World} {B : Nat} {A : Option Addr} {n c : Nat} {l : List ByteArray} (h : Sl ByteArray 1 strD w B A n c l) (hB : B ≤ w.heap.size) : Calls Try.prog 64 #[.slice A n c] w fun e w' => e = .returned (.bool (dupB l)) ∧ Below w.heap.size w w' := by
  have H := Lib.hid h
  have HB := Lib.hid hB
  have n5 := h.le
  have HN := Lib.hid h.len
  clear h hB
  go_enter Try.func64, Try.ntmps64
  go_wp2_with fail
  go_loopw [3, 4, 7] (fun _ _ v wq => ∃ i : Nat, v = .int .i64 i ∧ i ≤ n ∧ dupT l i = false ∧ Below w.heap.size w wq) (fun _ _ v _ => n - (intOf v).toNat)
  case atStart => exact ⟨0, rfl, Nat.zero_le _, rfl, Below.refl _ _⟩
  case round =>
    obtain ⟨i, rfl, hi, hp, hbw⟩ := hrel
    have HP := Lib.hid hp
    have BW := Lib.hid hbw
    clear hp hbw
    by_cases hlt : i < n
    · have hlt' : (i : Int) < (n : Int) := by omega
      obtain ⟨s, b, o, t1, rfl, t3, x00, s5⟩ := text_at H.out hlt
      have T1 := Lib.hid t1
      have T3 : Hid (b < w.heap.size) := Lib.hid (Nat.lt_of_lt_of_le t3 HB.out)
      have X0 := Lib.hid x00
      clear t1 x00 t3
      go_wp2_with fail
      go_loopw [4] (fun v wq => ∃ k : Nat, v = .int .i64 k ∧ k ≤ i ∧ (l.take k).any (fun y => eqB y s) = false ∧ Below w.heap.size w wq) (fun v _ => i - (intOf v).toNat)
      case atStart => exact ⟨0, rfl, Nat.zero_le _, rfl, BW.out⟩
      case round =>
        obtain ⟨k, rfl, hk, hq, hbq⟩ := hrel
        have HQ := Lib.hid hq
        have BQ := Lib.hid hbq
        clear hq
        by_cases hlk : k < i
        · have hlk' : (k : Int) < (i : Int) := by omega
          have hkn : (k : Int) < (n : Int) := by omega
          obtain ⟨y, b', o', t1, t2, t3, y00, -⟩ := text_at H.out (show k < n by omega)
          injection t2 with t2
          injection t2 with t2 t2'
          subst t2 t2'
          have T2 := Lib.hid t1
          have x0 := (hbq.cell (p := ⟨b, o + i, none⟩) T3.out).trans X0.out
          have y0 := (hbq.cell (p := ⟨b, o + k, none⟩) T3.out).trans y00
          have BD := Lib.hid hbq.drew
          have GV : Hid ((fun y => eqB y s) y = (s.toList == y.toList)) := Lib.hid (by show eqB y s = _; rw [eqB_comm]; rfl)
          clear t1 hbq y00 t3
          cases g : (s.toList == y.toList)
          case true =>
            have R : Hid (dupB l = true) := Lib.hid (dupB_of (i := i + 1) (by rw [← HN.out]; omega) (by
              show (dupT l i || _) = true
              rw [getD_of T1.out]
              have hh : (l.take i).any (fun y => eqB y s) = true := by
                refine List.any_eq_true.2 ⟨y, ?_, GV.out.trans g⟩
                exact List.mem_of_getElem? (show (l.take i)[k]? = some y by rw [List.getElem?_take_of_lt hlk]; exact T2.out)
              rw [hh, Bool.or_true]))
            go_wp2_with fail
            go_region_held3 (fun W' => W'.cell? ⟨b, o + i, none⟩ = some (.string s) ∧ W'.cell? ⟨b, o + k, none⟩ = some (.string y)) (go_keep) (fail)
            go_wp2_with fail
            go_ret
            rw [R.out]
            exact ⟨rfl, BD.out⟩
          have HQ2 : Hid ((l.take (k + 1)).any (fun y => eqB y s) = false) := Lib.hid (any_next T2.out HQ.out (GV.out.trans g))
          go_wp2_with fail
          go_region_held3 (fun W' => W'.cell? ⟨b, o + i, none⟩ = some (.string s) ∧ W'.cell? ⟨b, o + k, none⟩ = some (.string y)) (go_keep) (fail)
          go_wp2_with fail
          go_roundw
          case rel => exact ⟨k + 1, by go_num, by omega, HQ2.out, BD.out⟩
          case measure => simp [intOf]; omega
        · obtain rfl : k = i := by omega
          have HP2 : Hid (dupT l (k + 1) = false) := Lib.hid (by show (dupT l k || _) = false; rw [HP.out, getD_of T1.out, HQ.out]; rfl)
          go_wp2_with fail
          go_roundw
          case rel => exact ⟨k + 1, by go_num, by omega, HP2.out, BQ.out⟩
          case measure => simp [intOf]; omega
    · have R : Hid (dupB l = false) := Lib.hid (by
        have h := HP.out
        rw [show i = l.length by have := HN.out; omega] at h
        exact h)
      go_wp2_with fail
      go_ret
      rw [R.out]
      exact ⟨rfl, BW.out⟩

end Go.Proofs.Ytccmgaibikiedaa.Dc
