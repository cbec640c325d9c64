/- Variants: two wishes put together, walked. -/
import Derived.Test.YtbffcehaednefaaVariantR
namespace Go.Proofs.Ytbffcehaednefaa.Variant
set_option linter.unusedVariables false
set_option linter.unusedSimpArgs false
open Go.RowKit

theorem own_below {w w' : World} {base : Nat} {e : TypeId} {size : Nat} {v : Value} {n : Nat} {xs : List Value} (h : w.ownsRow base e size v n xs) (hb : Below w.heap.size w w') : w'.ownsRow base e size v n xs := by
  refine ⟨h.1, ?_⟩
  rcases h.2 with h2 | ⟨g, cap, cur, h1, h2, h3, h4⟩
  · exact .inl h2
  · exact .inr ⟨g, cap, cur, h1, h2, (hb.block g (lt_of_block h3)).trans h3, h4⟩

theorem own_mono {w : World} {base base' : Nat} {e : TypeId} {size : Nat} {v : Value} {n : Nat} {xs : List Value} (h : w.ownsRow base e size v n xs) (hb : base' ≤ base) : w.ownsRow base' e size v n xs := by
  refine ⟨h.1, ?_⟩
  rcases h.2 with h2 | ⟨g, cap, cur, h1, h2, h3⟩
  · exact .inl h2
  · exact .inr ⟨g, cap, cur, h1, by omega, h3⟩

abbrev retB (v : Value) (b : Bool) : Value := .tuple #[v, .bool b]

set_option maxHeartbeats 1000000 in
theorem both_no (A : Option Addr) (a : List Tr) (n c : Nat) (A2 : Option Addr) (b : List Tr) (n2 c2 : Nat) (w : World) (h : TRow w w.heap.size A a) (hn : n = a.length) (hm : n ≤ maxLen) (h2 : TRow w w.heap.size A2 b) (hn2 : n2 = b.length) (hm2 : n2 ≤ maxLen)
    (hno : (wishB a && wishB b) = false) :
    Calls Try.prog 25 #[.slice A n c, .slice A2 n2 c2] w fun e w' => e = .returned (retB (.slice none 0 0) false) ∧ Below w.heap.size w w' := by
  have W1 := Lib.hid (wish_any A a n c w h hn hm)
  have W2 : Hid (∀ w1, Below w.heap.size w w1 → Calls Try.prog 21 #[.slice A2 n2 c2] w1 fun e w' => e = .returned (.bool (wishB b)) ∧ Below w1.heap.size w1 w') := Lib.hid (fun w1 hb => wish_any A2 b n2 c2 w1 (h2.below hb.size hb) hn2 hm2)
  clear h hn hm h2 hn2 hm2
  cases ha : wishB a with
  | false =>
    rw [ha] at W1
    clear ha hno
    go_enter Try.func25, Try.ntmps25
    go_wp2_with fail
    go_at_call 21; refine W1.out.mono ?_; rintro e w1 ⟨rfl, hb⟩
    go_wp2_with fail
    go_ret2
    exact ⟨rfl, hb⟩
  | true =>
    have hbf : wishB b = false := by rw [ha] at hno; simpa using hno
    rw [ha] at W1
    rw [hbf] at W2
    clear ha hbf hno
    go_enter Try.func25, Try.ntmps25
    go_wp2_with fail
    go_at_call 21; refine W1.out.mono ?_; rintro e w1 ⟨rfl, hb⟩
    have B1 := Lib.hid hb
    clear hb
    go_wp2_with fail
    go_at_call 21; refine (W2.out _ B1.out).mono ?_; rintro e w2 ⟨rfl, hb⟩
    have B2 := Lib.hid (bstep B1.out hb)
    clear hb
    go_wp2_with fail
    go_ret2
    exact ⟨rfl, B2.out⟩

/-- what Both answers of two wishes. -/
def BothEnd (a b : List Tr) (w : World) (e : Ending) (w' : World) : Prop :=
  Below w.heap.size w w' ∧ ((clashB a b = true ∧ e = .returned (retB (.slice none 0 0) false)) ∨
    (clashB a b = false ∧ ∃ A k c C, e = .returned (retB (.slice A k c) true) ∧ k = C.length ∧ C.Perm (bothL a b) ∧ C.Pairwise (fun x y => ltS y.1 x.1 = false) ∧ TRow w' w'.heap.size A C))

set_option maxHeartbeats 8000000 in
set_option maxRecDepth 100000 in
theorem both_yes (A : Option Addr) (a : List Tr) (n c : Nat) (A2 : Option Addr) (b : List Tr) (n2 c2 : Nat) (w : World) (h : TRow w w.heap.size A a) (hn : n = a.length) (hm : n ≤ 100) (h2 : TRow w w.heap.size A2 b) (hn2 : n2 = b.length) (hm2 : n2 ≤ 100)
    (ha : wishB a = true) (hb : wishB b = true) :
    Calls Try.prog 25 #[.slice A n c, .slice A2 n2 c2] w (BothEnd a b w) := by
  have W1 := Lib.hid (wish_any A a n c w h hn (by unfold maxLen; omega))
  have W2 : Hid (∀ w1, Below w.heap.size w w1 → Calls Try.prog 21 #[.slice A2 n2 c2] w1 fun e w' => e = .returned (.bool (wishB b)) ∧ Below w1.heap.size w1 w') := Lib.hid (fun w1 hb => wish_any A2 b n2 c2 w1 (h2.below hb.size hb) hn2 (by unfold maxLen; omega))
  have CL : Hid (∀ w1, Below w.heap.size w w1 → Calls Try.prog 52 #[.slice A n c] w1 fun e w' => ∃ v, e = .returned v ∧ w'.ownsRow w1.heap.size 33 2 v n (flatT a) ∧ Below w1.heap.size w1 w') :=
    Lib.hid (fun w1 hb => cloneT_any A a n c w1 (h.below hb.size hb) hn (by omega))
  have IX : Hid (∀ nm p w1, Below w.heap.size w w1 → p.block < w1.heap.size → w1.cell? p = some (.string nm) → Calls Try.prog 53 #[.slice A n c, fnS p] w1 fun e w' => ∃ z : Int, e = .returned (.int .i64 z) ∧ IdxOk a nm z ∧ Below w1.heap.size w1 w') :=
    Lib.hid (fun nm p w1 hb hp hc => indexN_any A a n c nm p w1 hp hc (h.below hb.size hb) hn (by unfold maxLen; omega))
  have SN := Lib.hid (fun nm w => settingNamed_pt nm w)
  have AP := Lib.hid ((wish_iff a).1 ha).2.apart
  have H := Lib.hid h
  have HN := Lib.hid hn
  have H2 := Lib.hid h2
  have HN2 := Lib.hid hn2
  have HM := Lib.hid hm
  rw [ha] at W1
  rw [hb] at W2
  have z2 : (n2 : Int) ≤ 100 := by omega
  obtain ⟨i0, hi, hz0, hz1, hz2⟩ := setting_info
  have HI := Lib.hid (And.intro hi (And.intro hz0 (And.intro hz1 hz2)))
  clear h hn hm h2 hn2 hm2 ha hb hi hz0 hz1 hz2
  go_enter Try.func25, Try.ntmps25
  go_wp2_with fail
  go_at_call 21; refine W1.out.mono ?_; rintro e w1 ⟨rfl, hb⟩
  have B1 := Lib.hid hb
  clear hb
  go_wp2_with fail
  go_at_call 21; refine (W2.out _ B1.out).mono ?_; rintro e w2 ⟨rfl, hb⟩
  have B2 := Lib.hid (bstep B1.out hb)
  clear hb
  go_wp2_with fail
  go_at_call 52; refine (CL.out _ B2.out).mono ?_; rintro e w3 ⟨v0, rfl, hown, hb⟩
  have O3 : Hid (w3.ownsRow w.heap.size 33 2 v0 (addTo a b 0).length (flatT (addTo a b 0))) := Lib.hid (by
    have e0 : addTo a b 0 = a := by simp [addTo]
    rw [e0, ← HN.out]
    exact own_mono hown B2.out.size)
  have B3 := Lib.hid (bstep B2.out hb)
  clear hb hown W1 W2 CL B1 B2
  go_wp2_with fail
  go_loopw [6, 8, 9, 22] (fun out _ _ v wr => ∃ i : Nat, v = .int .i64 i ∧ i ≤ n2 ∧ Below w.heap.size w wr ∧ wr.ownsRow w.heap.size 33 2 out (addTo a b i).length (flatT (addTo a b i)) ∧ (b.take i).any (clashAt a) = false) (fun _ _ _ v _ => n2 - (intOf v).toNat)
  case atStart => exact ⟨0, rfl, Nat.zero_le _, B3.out, O3.out, rfl⟩
  case round =>
    obtain ⟨i, rfl, hi, hbel, hown, hno⟩ := hrel
    have J := Lib.hid hbel
    have OW := Lib.hid hown
    have NO := Lib.hid hno
    clear hbel hown hno B3 O3
    by_cases hlt : i < n2
    · have hlt' : (i : Int) < (n2 : Int) := by omega
      have IB : Hid (i < b.length) := Lib.hid (by have := HN2.out; omega)
      rcases H2.out with h' | ⟨g, o, rfl, hg, hcell⟩
      · exfalso; have := IB.out; rw [h'] at this; simp at this
      obtain ⟨e5, e6⟩ := hcell i IB.out
      replace e5 := (J.out.cell (p := ⟨g, o + i * 2, none⟩) hg).trans e5
      replace e6 := (J.out.cell (p := ⟨g, o + i * 2 + 1, none⟩) hg).trans e6
      have AN := Lib.hid (addTo_next a b i IB.out)
      have LEN := Lib.hid (addTo_len a b i)
      have NX := Lib.hid (anyT_next (clashAt a) b i IB.out NO.out)
      have HT := Lib.hid (anyT_hit (clashAt a) b i IB.out)
      have CA := Lib.hid (fun j hj hn => clash_at a (b.getD i tr0) AP.out j hj hn)
      have CN := Lib.hid (fun h => clash_none a (b.getD i tr0) h)
      obtain ⟨X, hX⟩ : ∃ X, X = b.getD i tr0 := ⟨_, rfl⟩
      rw [← hX] at e5 e6 AN NX HT CA CN
      obtain ⟨x, y⟩ := X
      clear hX hcell
      simp only at e5 e6
      obtain ⟨c0, c1⟩ := boxT_cells wr x y
      have CB := Lib.hid (And.intro c0 c1)
      have BX := Lib.hid ((Below.refl wr.heap.size wr).alloc (Nat.le_refl _) (.cells #[.string x, .string y] 33))
      have SX : Hid (wr.heap.size < (boxT wr x y).heap.size) := Lib.hid (by simp)
      have JB := Lib.hid (bstep J.out BX.out)
      go_wp2_with fail
      clear c0 c1 e5 e6
      go_at_call 54; refine (SN.out x _).mono ?_; rintro e w4 ⟨p, rfl, hp, hpc, hb4⟩
      have J4 := Lib.hid (bstep JB.out hb4)
      have B4 := Lib.hid hb4
      have IC := Lib.hid (IX.out x p w4 J4.out hp hpc)
      clear hp hpc hb4
      go_wp2_with fail
      go_at_call 53; refine IC.out.mono ?_; rintro e w5 ⟨z, rfl, hz, hb5⟩
      have J5 := Lib.hid (bstep J4.out hb5)
      have B5 := Lib.hid (bstep B4.out hb5)
      have c0 := (B5.out.cell (p := ⟨wr.heap.size, 0, none⟩) SX.out).trans CB.out.1
      have c1 := (B5.out.cell (p := ⟨wr.heap.size, 1, none⟩) SX.out).trans CB.out.2
      have OW5 := Lib.hid (own_below (OW.out.alloc (.cells #[.string x, .string y] 33)) B5.out)
      clear hb5 IC
      rcases hz with ⟨rfl, hnm⟩ | ⟨j, rfl, hj, hnm⟩
      · have F := Lib.hid (NX.out (CN.out hnm))
        have E : Hid (addTo a b (i + 1) = addTo a b i ++ [(x, y)]) := Lib.hid (by rw [AN.out]; simp only [hnm]; rfl)
        have hneg : (-1 : Int) < 0 := by omega
        have OW6 := Lib.hid (OW5.out.alloc (.cells #[.string x, .string y] 33))
        have SZ6 : Hid (w.heap.size ≤ (w5.alloc (.cells #[.string x, .string y] 33)).heap.size) := Lib.hid (by have := J5.out.size; simp; omega)
        have B6 := Lib.hid (J5.out.alloc J5.out.size (.cells #[.string x, .string y] 33))
        have NEWS : Hid (∀ k u, [Value.string x, .string y][k]? = some u → (w5.alloc (.cells #[.string x, .string y] 33)).cell? ((⟨w5.heap.size, 0, none⟩ : Addr).add k) = some u) := Lib.hid (by
          intro k u hu
          have hb := heap_alloc_new w5 (.cells #[.string x, .string y] 33)
          match k, hu with
          | 0, hu => exact (blk_cell (j := 0) hb rfl).trans hu
          | 1, hu => exact (blk_cell (j := 1) hb rfl).trans hu)
        have ONE : Hid (∀ u ∈ [Value.string x, .string y], u.oneCell' = true) := Lib.hid (by
          intro u hu
          simp at hu
          rcases hu with rfl | rfl <;> rfl)
        have h63 : (addTo a b i).length + 1 ≤ maxLen := by have := LEN.out; have := HN.out; have := HM.out; have := HN2.out; unfold maxLen; omega
        have hby : ((addTo a b i).length + 1) * 32 ≤ 140737488355328 := by have := LEN.out; have := HN.out; have := HM.out; have := HN2.out; omega
        have BASE := Lib.hid (own_base OW6.out)
        have LE : Hid ((addTo a b (i + 1)).length = (addTo a b i).length + 1) := Lib.hid (by rw [E.out]; simp)
        have FE : Hid (flatT (addTo a b (i + 1)) = flatT (addTo a b i) ++ [.string x, .string y]) := Lib.hid (by rw [E.out, flatT_app]; rfl)
        obtain ⟨hi0, hz0, hz1, hz2⟩ := HI.out
        clear hnm
        go_wp2_with (at_builtin; refine wpList_append_own _ rfl (.tmp 33) (.tmp 35) 31 rfl w.heap.size 33 i0 _ 2 32 Try.underlying31 hi0 hz0 hz1 hz2 rfl (by decide) _ _ _ rfl OW6.out ⟨w5.heap.size, 0, none⟩ 1 1 [.string x, .string y] rfl rfl NEWS.out ONE.out h63 hby SZ6.out ?_; intro v' w6 hown' hgrow _; have B7 := Lib.hid (B6.out.grown hgrow SZ6.out BASE.out); have O7 := Lib.hid hown'; clear hown' hgrow)
        have O8 : Hid (w6.ownsRow w.heap.size 33 2 v' (addTo a b (i + 1)).length (flatT (addTo a b (i + 1)))) := Lib.hid (by rw [LE.out, FE.out]; exact O7.out)
        go_roundw
        case rel => exact ⟨i + 1, by go_num, by omega, B7.out, O8.out, F.out⟩
        case measure => simp [intOf]; omega
      · have hj0 : (0 : Int) ≤ (j : Int) := by omega
        have hjn : (j : Int) < (n : Int) := by have := HN.out; omega
        rcases H.out with h' | ⟨d, q, rfl, hd, hcd⟩
        · exfalso; rw [h'] at hj; simp at hj
        obtain ⟨d5, d6⟩ := hcd j hj
        replace d5 := (J5.out.cell (p := ⟨d, q + j * 2, none⟩) hd).trans d5
        replace d6 := (J5.out.cell (p := ⟨d, q + j * 2 + 1, none⟩) hd).trans d6
        have CC := Lib.hid (CA.out j hj hnm)
        have NM : Hid (nmIn a x = true) := Lib.hid ((nmIn_iff a x).2 ⟨a.getD j tr0, by rw [getD_eq a j hj]; exact List.getElem_mem _, (eqB_iff _ _).1 hnm⟩)
        have E : Hid (addTo a b (i + 1) = addTo a b i) := Lib.hid (by rw [AN.out]; simp only [NM.out]; simp)
        obtain ⟨s, hs⟩ : ∃ s, s = (a.getD j tr0).1 := ⟨_, rfl⟩
        obtain ⟨r, hr⟩ : ∃ s, s = (a.getD j tr0).2 := ⟨_, rfl⟩
        rw [← hs] at d5 hnm
        rw [← hr] at d6 CC
        have y1 : (s.toList == x.toList) = true := hnm
        have D := Lib.hid (fun m => drewN_below J5.out m)
        have OD : Hid (∀ m, (w5.drewN m).ownsRow w.heap.size 33 2 u6 (addTo a b (i + 1)).length (flatT (addTo a b (i + 1)))) := Lib.hid (fun m => by rw [E.out]; exact OW5.out)
        clear hs hr hcd hnm hj
        cases hq : (r.toList == y.toList) with
        | true =>
          have F := Lib.hid (NX.out (CC.out.trans (by show (!eqB r y) = false; unfold eqB; rw [hq]; rfl)))
          go_wp2_with fail
          go_quiet (fail)
          go_wp2_with fail
          go_roundw
          case rel => exact ⟨i + 1, by go_num, by omega, D.out _, OD.out _, F.out⟩
          case measure => simp [intOf]; omega
        | false =>
          have F := Lib.hid (HT.out (CC.out.trans (by show (!eqB r y) = true; unfold eqB; rw [hq]; rfl)))
          go_wp2_with fail
          go_quiet (fail)
          go_wp2_with fail
          go_ret2
          exact ⟨D.out _, .inl ⟨F.out, rfl⟩⟩
    · obtain rfl : i = n2 := by omega
      have F : Hid (clashB a b = false) := Lib.hid (by
        have h := NO.out
        rwa [HN2.out, List.take_of_length_le (Nat.le_refl _)] at h)
      have LEN := Lib.hid (addTo_len a b i)
      have EB : Hid (addTo a b i = bothL a b) := Lib.hid (by rw [HN2.out]; rfl)
      have SO := Lib.hid (sort_any OW.out (by have := LEN.out; have := HN.out; have := HM.out; have := HN2.out; omega))
      go_wp2_with fail
      go_at_call 55; refine SO.out.mono ?_; rintro e w4 ⟨rfl, A', c', C, rfl, hk, hp, hs, hr, hb⟩
      have B4 := Lib.hid (J.out.trans hb)
      have R4 : Hid ((addTo a b i).length = C.length ∧ C.Perm (bothL a b) ∧ C.Pairwise (fun x y => ltS y.1 x.1 = false) ∧ TRow w4 w4.heap.size A' C) := Lib.hid ⟨hk, by rw [← EB.out]; exact hp, hs, hr⟩
      clear hk hp hs hr hb
      go_wp2_with fail
      go_ret2
      exact ⟨B4.out, .inr ⟨F.out, A', _, c', C, rfl, R4.out⟩⟩

end Go.Proofs.Ytbffcehaednefaa.Variant
