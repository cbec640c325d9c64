/- The law that any text that is read is the text of what it is read as, walked. -/
import Derived.Test.YtlgakejjakeomaaDoorRdT
import Derived.Test.YtlgakejjakeomaaDoorCnfK
import Derived.Test.YtlgakejjakeomaaDoorCnfM
namespace Go.Proofs.YtlgakejjakeomaaDoor.Rd
set_option linter.unusedVariables false
set_option linter.unusedSimpArgs false
open Go.RowKit
open Go.Proofs.YtlgakejjakeomaaDoor.Order (IRow ERow)
open Go.Proofs.YtlgakejjakeomaaDoor.Cnf (rowV atoms_any atomsM rowM oneM atomW RgE fixed_any)

theorem one_le {g x n0 : Int} (hg : g ≤ n0) (hx : x ≤ n0) (hx2 : -n0 ≤ x) : oneM g x ≤ n0 := by
  unfold oneM
  split
  · exact hg
  · unfold atomW
    split
    · omega
    · omega
theorem row_le {n0 : Int} : ∀ (c : List Int) (g : Int), g ≤ n0 → OkC n0 c → rowM g c ≤ n0
  | [], g, hg, _ => hg
  | x :: c, g, hg, h => row_le c (oneM g x) (one_le hg (h x List.mem_cons_self).2.2.2.1 (h x List.mem_cons_self).2.2.2.2) (fun y hy => h y (List.mem_cons_of_mem _ hy))
theorem fold_le {n0 : Int} : ∀ (E : List (List Int)) (g : Int), g ≤ n0 → (∀ l ∈ E, OkC n0 l) → E.foldl rowM g ≤ n0
  | [], g, hg, _ => hg
  | c :: E, g, hg, h => fold_le E (rowM g c) (row_le c g hg (h c List.mem_cons_self)) (fun l hl => h l (List.mem_cons_of_mem _ hl))

set_option maxHeartbeats 4000000 in
set_option maxRecDepth 100000 in
theorem reads_go {B : Nat} {w : World} (h : LV B w) (hB : B ≤ w.heap.size) (s : ByteArray) (hs : s.size ≤ maxLen) :
    Calls Tryd.prog 6 #[.string s] w fun e w' => e = .returned (.bool true) ∧ Below w.heap.size w w' := by
  by_cases hg : 3000 < s.size
  · have FX := Lib.hid (fixed_any w)
    have z : (3000 : Int) < (s.size : Int) := by omega
    have z2 : (s.size : Int) ≤ 9223372036854775807 := by unfold maxLen at hs; omega
    clear hg hs h hB
    go_enter Tryd.func6, Tryd.ntmps6
    go_wp2_with fail
    refine FX.out.mono ?_
    rintro e w' ⟨rfl, hb⟩
    have BB := Lib.hid hb
    clear hb FX
    go_wp2_with fail
    go_ret
    exact ⟨rfl, BB.out⟩
  · have RD := Lib.hid (read_any h hB s (by omega))
    have z : (s.size : Int) ≤ 3000 := by omega
    have HV := Lib.hid h
    have HB := Lib.hid hB
    have HG := Lib.hid hg
    clear hg hs h hB
    go_enter Tryd.func6, Tryd.ntmps6
    go_wp2_with fail
    refine RD.out.mono ?_
    rintro e w1 ⟨hb1, rfl | ⟨n0, A, n, c, cs, hn, rfl, he, htx, hok, h0, h1⟩⟩
    · have B1 := Lib.hid hb1
      have FX := Lib.hid (fixed_any w1)
      clear hb1 RD
      go_wp2_with fail
      refine FX.out.mono ?_
      rintro e w2 ⟨rfl, hb⟩
      have B2 : Hid (Below w.heap.size w w2) := Lib.hid (B1.out.trans (hb.mono B1.out.size))
      clear hb FX
      go_wp2_with fail
      go_ret
      exact ⟨rfl, B2.out⟩
    · have B1 := Lib.hid hb1
      have FX := Lib.hid (fixed_any w1)
      have HE := Lib.hid he
      have TX := Lib.hid htx
      have OK := Lib.hid hok
      have NN := Lib.hid hn
      have H01 := Lib.hid (And.intro h0 h1)
      have TL : Hid ((textL n0 cs).length ≤ 3000) := Lib.hid (by rw [← htx, ← size_l]; have := HG.out; omega)
      clear hb1 RD he htx hok hn h0 h1
      go_wp2_with fail
      refine FX.out.mono ?_
      rintro e w2 ⟨rfl, hb⟩
      have B2 : Hid (Below w.heap.size w w2) := Lib.hid (B1.out.trans (hb.mono B1.out.size))
      have HE2 := Lib.hid (HE.out.below hb.size hb)
      have T := Lib.hid (text_any (HV.out.below (B2.out.mono HB.out)) (Nat.le_trans HB.out B2.out.size) n0 H01.out.1 H01.out.2 A cs n c NN.out HE2.out OK.out TL.out)
      clear hb FX
      go_wp2_with fail
      refine T.out.mono ?_
      rintro e w3 ⟨rfl, hb⟩
      have B3 : Hid (Below w.heap.size w w3) := Lib.hid (B2.out.trans (hb.mono B2.out.size))
      have HE3 := Lib.hid (HE2.out.below hb.size hb)
      have AT := Lib.hid (atoms_any A cs n c w3 HE3.out NN.out (by
          have h1 := restL_len cs
          have h2 := TL.out
          unfold textL at h2
          simp at h2
          have := NN.out
          unfold maxLen
          omega) (fun l hl x hx => ⟨(OK.out l hl x hx).1, (OK.out l hl x hx).2.1⟩))
      have ALE : atomsM cs ≤ n0 := fold_le cs 0 H01.out.1 OK.out
      have SEQ : (s.toList == textL n0 cs) = true := by rw [Lib.toList_data, TX.out]; exact beq_self_eq_true _
      have SEQ2 : (textL n0 cs == s.toList) = true := by rw [Lib.toList_data, TX.out]; exact beq_self_eq_true _
      clear hb T
      go_wp2_with fail
      refine AT.out.mono ?_
      rintro e w' ⟨rfl, rfl⟩
      go_wp2_with fail
      go_ret
      exact ⟨rfl, B3.out⟩

end Go.Proofs.YtlgakejjakeomaaDoor.Rd
