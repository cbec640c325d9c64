/- Texts of clauses: written. -/
import Derived.Test.YtlgakejjakeomaaDoorRdR
import Derived.Test.YtlgakejjakeomaaDoorRdB
namespace Go.Proofs.YtlgakejjakeomaaDoor.Rd
set_option linter.unusedVariables false
set_option linter.unusedSimpArgs false
open Go.RowKit
open Go.Proofs.YtlgakejjakeomaaDoor.Order (IRow ERow)
open Go.Proofs.YtlgakejjakeomaaDoor.Cnf (rowV)

/-- the builder in block b holds the text t. -/
def BT (B b : Nat) (t : Bs) (w : World) : Prop := Lib.IsBuilder TB TY B b (Lib.byteCells t) w
theorem BT.below {B b : Nat} {t : Bs} {w w' : World} (h : BT B b t w) (hb : Below w.heap.size w w') : BT B b t w' := by
  have go : ∀ p, Lib.BuilderAt TB TY B b p (Lib.byteCells t) w → Lib.BuilderAt TB TY B b p (Lib.byteCells t) w' := fun p ⟨h1, v, h2, h3, h4⟩ =>
    ⟨h1, v, (hb.block b (lt_of_block h2)).trans h2, by
      have hlt := h3.lt
      exact h3.kept (row := none) ⟨hb.os, hb.tape, hb.output, hb.size, fun k hk _ => hb.block k hk⟩ (by cases v.ownBlock <;> simp), h4⟩
  rcases h with h | h
  · exact .inl (go _ h)
  · exact .inr (go _ h)
theorem write_bt {B b : Nat} {t : Bs} {w : World} (h : BT B b t w) (hB : B ≤ w.heap.size) (s : ByteArray) (u : Bs) (hu : u = t ++ s.data.toList) (hl : u.length ≤ 100000) :
    Calls Tryd.prog 22 #[.pointer (some ⟨b, 0, none⟩), .string s] w fun e w' => e = .returned (.tuple #[.int .i64 s.size, .nilIface]) ∧ BT B b u w' ∧ Below B w w' := by
  refine (write_any B b _ s w h ?_ hB).mono ?_
  · rw [Lib.byteCells_length, size_l]
    rw [hu, List.length_append] at hl
    omega
  · rintro e w' ⟨he, h1, h2⟩
    refine ⟨he, ?_, h2⟩
    unfold BT
    rw [hu, Lib.byteCells_append]
    exact h1
theorem restL_take {cs : List (List Int)} {i : Nat} (h : i < cs.length) : restL (cs.take (i + 1)) = restL (cs.take i) ++ (bodyL (cs.getD i []) ++ [48, 10]) := by
  have e : cs.take (i + 1) = cs.take i ++ [cs.getD i []] := by
    rw [List.take_add_one, List.getD_eq_getElem?_getD, List.getElem?_eq_getElem h]
    rfl
  rw [e, restL_app]
  rfl
theorem bodyL_take {l : List Int} {i : Nat} (h : i < l.length) : bodyL (l.take (i + 1)) = bodyL (l.take i) ++ (Lib.itoa (l.getD i 0) ++ [32]) := by
  have e : l.take (i + 1) = l.take i ++ [l.getD i 0] := by
    rw [List.take_add_one, List.getD_eq_getElem?_getD, List.getElem?_eq_getElem h]
    rfl
  rw [e, bodyL_app]
theorem restL_take_le (cs : List (List Int)) (i : Nat) : (restL (cs.take i)).length ≤ (restL cs).length := by
  have e : restL cs = restL (cs.take i) ++ restL (cs.drop i) := by
    unfold restL
    rw [← List.flatMap_append, List.take_append_drop]
  rw [e, List.length_append]; omega
theorem bodyL_take_le (l : List Int) (i : Nat) : (bodyL (l.take i)).length ≤ (bodyL l).length := by
  have e : bodyL l = bodyL (l.take i) ++ bodyL (l.drop i) := by
    unfold bodyL
    rw [← List.flatMap_append, List.take_append_drop]
  rw [e, List.length_append]; omega

set_option maxHeartbeats 4000000 in
set_option maxRecDepth 100000 in
theorem text_any {B : Nat} {w : World} (h : LV B w) (hB : B ≤ w.heap.size) (n0 : Int) (n00 : 0 ≤ n0) (n01 : n0 ≤ 9223372036854775807) (A : Option Addr) (cs : List (List Int)) (n c : Nat) (hn : n = cs.length) (he : ERow w w.heap.size A cs) (hok : ∀ l ∈ cs, OkC n0 l)
    (hlen : (textL n0 cs).length ≤ 3000) : Calls Tryd.prog 16 #[.int .i64 n0, .slice A n c] w fun e w' => e = .returned (.string ⟨(textL n0 cs).toArray⟩) ∧ Below w.heap.size w w' := by
  obtain ⟨w0, hw0⟩ : ∃ w0, w0 = w.alloc (.cells #[.pointer none, .slice none 0 0] 61) := ⟨_, rfl⟩
  have T0 : Hid (BT w.heap.size w.heap.size [] w0) := Lib.hid (.inl ⟨Nat.le_refl _, .slice none 0 0, by rw [hw0]; exact heap_alloc_new w _, World.ownsRow_nil _ _ _ _, by simp [Value.ownBlock]⟩)
  have B0 : Hid (Below w.heap.size w w0) := Lib.hid (by rw [hw0]; exact (Below.refl _ _).alloc (Nat.le_refl _) _)
  have HV := Lib.hid h
  have HB : Hid (B ≤ w.heap.size) := Lib.hid hB
  have BSZ : Hid (w.heap.size ≤ w0.heap.size) := Lib.hid (B0.out.size)
  have HE : Hid (ERow w w.heap.size A cs) := Lib.hid he
  have HN := Lib.hid hn
  have HOK := Lib.hid hok
  have HLEN := Lib.hid hlen
  have n3 : (n : Int) ≤ 3000 := by
    have h1 := restL_len cs
    unfold textL at hlen
    simp at hlen
    omega
  have LV0 := Lib.hid (HV.out.below (B0.out.mono HB.out))
  have I1 := Lib.hid (itoa_any LV0.out (Nat.le_trans HB.out BSZ.out) n0 (by omega) n01)
  rw [hw0] at I1
  clear h hB hn he hok hlen
  have q1 : (Lib.itoa n0).length ≤ 21 := Lib.itoa_length_le n0 (by omega) n01
  have q2 : (Lib.itoa (n : Nat)).length ≤ 21 := Lib.itoa_length_le _ (by omega) (by omega)
  go_enter Tryd.func16, Tryd.ntmps16
  go_wp2_with fail
  go_at_call 31; refine I1.out.mono ?_
  rintro e w1 ⟨rfl, hb1⟩
  rw [← hw0] at hb1
  clear hw0
  have T1 := Lib.hid (T0.out.below hb1)
  have B1 : Hid (Below w.heap.size w w1) := Lib.hid (B0.out.trans (hb1.mono BSZ.out))
  have S1 : Hid (w.heap.size ≤ w1.heap.size) := Lib.hid (Nat.le_trans BSZ.out hb1.size)
  have I2 := Lib.hid (itoa_any (LV0.out.below (hb1.mono (Nat.le_trans HB.out BSZ.out))) (Nat.le_trans HB.out S1.out) (n : Nat) (by omega) (by omega))
  clear hb1
  go_wp2_with fail
  go_at_call 31; refine I2.out.mono ?_
  rintro e w2 ⟨rfl, hb2⟩
  have T2 := Lib.hid (T1.out.below hb2)
  have B2 : Hid (Below w.heap.size w w2) := Lib.hid (B1.out.trans (hb2.mono S1.out))
  have S2 : Hid (w.heap.size ≤ w2.heap.size) := Lib.hid (Nat.le_trans S1.out hb2.size)
  clear hb2 T1 T0
  obtain ⟨hd, hhd⟩ : ∃ hd : ByteArray, hd = { data := #[112, 32, 99, 110, 102, 32] } ++ nt n0 ++ { data := #[32] } ++ nt (n : Nat) ++ { data := #[10] } := ⟨_, rfl⟩
  have HDL : Hid (hd.data.toList = [112, 32, 99, 110, 102, 32] ++ Lib.itoa n0 ++ 32 :: Lib.itoa (cs.length : Nat) ++ [10]) := Lib.hid (by
    rw [hhd, ← HN.out]
    simp [ByteArray.data_append])
  have WH := Lib.hid (write_bt T2.out S2.out hd hd.data.toList rfl (by rw [HDL.out]; rw [← HN.out]; simp; omega))
  rw [hhd] at WH
  go_wp2_with fail
  go_at_call 22
  refine WH.out.mono ?_
  rintro e w3 ⟨rfl, ht3, hb3⟩
  rw [← hhd] at ht3
  have T3 := Lib.hid ht3
  have B3 : Hid (Below w.heap.size w w3) := Lib.hid (B2.out.trans hb3)
  obtain ⟨hl, hhl⟩ : ∃ hl : Bs, hl = hd.data.toList := ⟨_, rfl⟩
  rw [← hhl] at T3 HDL
  have TL : Hid (textL n0 cs = hl ++ restL cs) := Lib.hid (by rw [HDL.out]; unfold textL; simp)
  clear ht3 hb3 hhd hhl WH HDL T2
  go_wp2_with fail
  go_loopw [7, 9, 22, 28] (fun _ _ v _ wr => ∃ i : Nat, v = .int .i64 i ∧ i ≤ n ∧ BT w.heap.size w.heap.size (hl ++ restL (cs.take i)) wr ∧ Below w.heap.size w wr) (fun _ _ v _ _ => n - (intOf v).toNat)
  case atStart => exact ⟨0, rfl, Nat.zero_le _, by simpa [restL] using T3.out, B3.out⟩
  case round =>
    obtain ⟨i, rfl, hi, hbt, hbw⟩ := hrel
    have BTW := Lib.hid hbt
    have BW := Lib.hid hbw
    clear hbt hbw
    by_cases hlt : i < n
    · have hlt' : (i : Int) < (n : Int) := by omega
      have K1 : Hid (i < cs.length) := Lib.hid (by have := HN.out; omega)
      rcases HE.out with h' | ⟨b1, o1, rfl, hb1, hc1⟩
      · exfalso; have := K1.out; rw [h'] at this; simp at this
      obtain ⟨A', n', c', e1, e2, e3, e4, e5⟩ := hc1 i K1.out
      have f1 : wr.cell? ⟨b1, o1 + i, none⟩ = some (.slice A' n' c') := (BW.out.cell (p := ⟨b1, o1 + i, none⟩) hb1).trans e5
      obtain ⟨l, hl'⟩ : ∃ l, l = cs.getD i [] := ⟨_, rfl⟩
      rw [← hl'] at e1 e4
      have HLI := Lib.hid hl'
      have IR := Lib.hid e4
      have NL := Lib.hid e1
      have RT : Hid (restL (cs.take (i + 1)) = restL (cs.take i) ++ (bodyL l ++ [48, 10])) := Lib.hid (by rw [restL_take K1.out, ← HLI.out])
      have TLE : Hid ((hl ++ restL (cs.take (i + 1))).length ≤ 3000) := Lib.hid (by
        have h1 := restL_take_le cs (i + 1)
        have h2 := HLEN.out
        rw [TL.out, List.length_append] at h2
        rw [List.length_append]; omega)
      have OKL : Hid (OkC n0 l) := Lib.hid (HOK.out l (by rw [HLI.out, List.getD_eq_getElem?_getD, List.getElem?_eq_getElem K1.out]; exact List.getElem_mem _))
      have n3' : (n' : Int) ≤ 3000 := by
        have h1 := bodyL_len l
        have h2 := TLE.out
        rw [RT.out] at h2
        simp at h2
        omega
      clear hl' e1 e2 e3 e4 e5 hc1
      go_wp2_with fail
      go_loopw [9, 28] (fun _ v wr => ∃ j : Nat, v = .int .i64 j ∧ j ≤ n' ∧ BT w.heap.size w.heap.size (hl ++ (restL (cs.take i) ++ bodyL (l.take j))) wr ∧ Below w.heap.size w wr) (fun _ v _ => n' - (intOf v).toNat)
      case atStart => exact ⟨0, rfl, Nat.zero_le _, by simpa [bodyL] using BTW.out, BW.out⟩
      case round =>
        obtain ⟨j, rfl, hj, hbt, hbw⟩ := hrel
        have BT2 := Lib.hid hbt
        have BW2 := Lib.hid hbw
        clear hbt hbw
        by_cases hlj : j < n'
        · have hlj' : (j : Int) < (n' : Int) := by omega
          have K2 : Hid (j < l.length) := Lib.hid (by have := NL.out; omega)
          rcases IR.out with h' | ⟨b2, o2, rfl, hb2, hc2⟩
          · exfalso; have := K2.out; rw [h'] at this; simp at this
          have f2 : wr.cell? ⟨b2, o2 + j, none⟩ = some (.int .i64 (l.getD j 0)) := (BW2.out.cell (p := ⟨b2, o2 + j, none⟩) hb2).trans (hc2 j K2.out)
          have OX := Lib.hid (OKL.out (l.getD j 0) (by rw [List.getD_eq_getElem?_getD, List.getElem?_eq_getElem K2.out]; exact List.getElem_mem _))
          obtain ⟨x, hx⟩ : ∃ x, x = l.getD j 0 := ⟨_, rfl⟩
          rw [← hx] at f2 OX
          have BTK : Hid (bodyL (l.take (j + 1)) = bodyL (l.take j) ++ (Lib.itoa x ++ [32])) := Lib.hid (by rw [bodyL_take K2.out, ← hx])
          have BLE : Hid ((hl ++ (restL (cs.take i) ++ bodyL (l.take (j + 1)))).length ≤ 3000) := Lib.hid (by
            have h1 := bodyL_take_le l (j + 1)
            have h2 := TLE.out
            rw [RT.out] at h2
            simp at h2 ⊢
            omega)
          have qx : (Lib.itoa x).length ≤ 21 := Lib.itoa_length_le x (by have := OX.out; omega) (by have := OX.out; omega)
          have SW : Hid (w.heap.size ≤ wr.heap.size) := Lib.hid BW2.out.size
          have IX := Lib.hid (itoa_any (HV.out.below (BW2.out.mono HB.out)) (Nat.le_trans HB.out SW.out) x (by have := OX.out; omega) (by have := OX.out; omega))
          clear hx hc2
          go_wp2_with fail
          go_at_call 31; refine IX.out.mono ?_
          rintro e w4 ⟨rfl, hb4⟩
          have BT4 := Lib.hid (BT2.out.below hb4)
          have B4 : Hid (Below w.heap.size w w4) := Lib.hid (BW2.out.trans (hb4.mono SW.out))
          obtain ⟨sx, hsx⟩ : ∃ sx : ByteArray, sx = nt x ++ { data := #[32] } := ⟨_, rfl⟩
          have SXL : Hid (sx.data.toList = Lib.itoa x ++ [32]) := Lib.hid (by rw [hsx]; simp [ByteArray.data_append])
          have WX := Lib.hid (write_bt BT4.out B4.out.size sx (hl ++ (restL (cs.take i) ++ bodyL (l.take (j + 1)))) (by rw [SXL.out, BTK.out]; simp) (by have := BLE.out; omega))
          rw [hsx] at WX
          clear hb4 hsx IX
          go_wp2_with fail
          go_at_call 22; refine WX.out.mono ?_
          rintro e w5 ⟨rfl, ht5, hb5⟩
          have T5 := Lib.hid ht5
          have B5 : Hid (Below w.heap.size w w5) := Lib.hid (B4.out.trans hb5)
          clear ht5 hb5 WX
          go_wp2_with fail
          go_roundw
          case rel => exact ⟨j + 1, by go_num, by omega, T5.out, B5.out⟩
          case measure => simp [intOf]; omega
        · have TJ : Hid (l.take j = l) := Lib.hid (List.take_of_length_le (by have := NL.out; omega))
          have WX := Lib.hid (write_bt BT2.out BW2.out.size ⟨#[48, 10]⟩ (hl ++ restL (cs.take (i + 1))) (by rw [RT.out, TJ.out]; simp) (by have := TLE.out; omega))
          go_wp2_with fail
          go_at_call 22; refine WX.out.mono ?_
          rintro e w5 ⟨rfl, ht5, hb5⟩
          have T5 := Lib.hid ht5
          have B5 : Hid (Below w.heap.size w w5) := Lib.hid (BW2.out.trans hb5)
          clear ht5 hb5 WX
          go_wp2_with fail
          go_roundw
          case rel => exact ⟨i + 1, by go_num, by omega, T5.out, B5.out⟩
          case measure => simp [intOf]; omega
    · have TI : Hid (cs.take i = cs) := Lib.hid (List.take_of_length_le (by have := HN.out; omega))
      have ST := Lib.hid (Tryd.Builder_String_any w.heap.size w.heap.size (textL n0 cs) wr (by have h := BTW.out; rw [TI.out, ← TL.out] at h; exact h) BW.out.size)
      go_wp2_with fail
      go_at_call 23; refine ST.out.mono ?_
      rintro e w5 ⟨rfl, hb5⟩
      have B5 : Hid (Below w.heap.size w w5) := Lib.hid (BW.out.trans hb5)
      clear hb5 ST
      go_wp2_with fail
      go_ret
      exact ⟨rfl, B5.out⟩

end Go.Proofs.YtlgakejjakeomaaDoor.Rd
