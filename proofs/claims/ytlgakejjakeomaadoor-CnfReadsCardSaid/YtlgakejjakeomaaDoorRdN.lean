/- Texts of clauses: what the library's variables hold; a number as a text, and read. -/
import Derived.Test.YtlgakejjakeomaaDoorRdA
import Derived.Lib.LaidTab
import Derived.Lib.AtoiAllCases
import Derived.Shelf.Strconv.AtoiAll
import Derived.Lib.ItoaLen
import Derived.WalkSmall
import Derived.Laws.ResultCell
import Derived.Sort.Grow
namespace Go.Proofs.YtlgakejjakeomaaDoor.Rd
set_option linter.unusedVariables false
set_option linter.unusedSimpArgs false
open Go.RowKit

theorem gTab : Tryd.prog.globalNamed "internal/strconv.uint64pow10" = some 3 := by kernel_rfl
/-- what the library's variables hold, at blocks below B. -/
structure LV (B : Nat) (w : World) : Prop where
  big : 6 ≤ B
  syn : ∃ te pe, w.cell? ⟨4, 0, none⟩ = some (.iface te pe)
  ran : ∃ te pe, w.cell? ⟨5, 0, none⟩ = some (.iface te pe)
  tab : Lib.TabIs Tryd.prog w "internal/strconv.uint64pow10" .u64 Lib.pow10Tab
theorem LV.below {B : Nat} {w w' : World} (h : LV B w) (hb : Below B w w') : LV B w' := by
  have hB := h.big
  obtain ⟨t1, p1, h1⟩ := h.syn
  obtain ⟨t2, p2, h2⟩ := h.ran
  exact ⟨hB, ⟨t1, p1, (hb.cell (p := ⟨4, 0, none⟩) (show 4 < B by omega)).trans h1⟩, ⟨t2, p2, (hb.cell (p := ⟨5, 0, none⟩) (show 5 < B by omega)).trans h2⟩,
    var?_below hb gTab (show 3 < B by omega) h.tab⟩
theorem grow_b {B : Nat} (w : World) (n : Nat) (os : Array Obj) (hB : B ≤ w.heap.size) : Below B w (Sort.grow (w.drewN n) os) := by
  refine ⟨rfl, rfl, rfl, ?_, fun k hk => ?_⟩
  · show w.heap.size ≤ (w.heap ++ os).size
    simp
  · show (w.heap ++ os)[k]? = _
    rw [Array.getElem?_append_left (by omega)]
/-- a number's text. -/
abbrev nt (n : Int) : ByteArray := ⟨(Lib.itoa n).toArray⟩
theorem itoa_any {B : Nat} {w : World} (h : LV B w) (hB : B ≤ w.heap.size) (n : Int) (h0 : -9223372036854775808 ≤ n) (h1 : n ≤ 9223372036854775807) :
    Calls Tryd.prog 31 #[.int .i64 n] w fun e w' => e = .returned (.string (nt n)) ∧ Below w.heap.size w w' := by
  refine (Tryd.strconv_Itoa n h0 h1 w h.tab).mono ?_
  rintro e w' ⟨he, k, os, rfl⟩
  exact ⟨he, grow_b w k os (Nat.le_refl _)⟩
theorem bytes_b {B : Nat} (w : World) (t : ByteArray) (hB : B ≤ w.heap.size) : Below B w (Lib.bytesWorld w 5 t) := (Lib.bytesWorld_below w _ t).mono hB
/-- what reading a number gives. -/
def AtoiEnd (w : World) (e : Ending) (w' : World) : Prop :=
  Below w.heap.size w w' ∧ ((∃ v, -9223372036854775808 ≤ v ∧ v ≤ 9223372036854775807 ∧ e = .returned (.tuple #[.int .i64 v, .nilIface])) ∨ ∃ v te pe, e = .returned (.tuple #[.int .i64 v, .iface te pe]))
theorem atoi_any {B : Nat} {w : World} (h : LV B w) (hB : B ≤ w.heap.size) (s : ByteArray) (hs : s.size ≤ 3000) : Calls Tryd.prog 53 #[.string s] w (AtoiEnd w) := by
  rcases hc : Lib.atoiAll s.data.toList with v | _ | _
  · refine (Tryd.strconv_Atoi_ok s (by omega) v hc w).mono ?_
    rintro e w' ⟨he, hw⟩
    obtain ⟨b0, b1⟩ := Lib.atoiAll_bounds hc
    refine ⟨?_, .inl ⟨v, by omega, by omega, he⟩⟩
    rcases hw with rfl | ⟨t, rfl⟩
    · exact Below.refl _ _
    · exact bytes_b w t (Nat.le_refl _)
  · obtain ⟨te, pe, hv⟩ := h.syn
    refine (Any.strconv_Atoi_syntax Tryd.laysC172 s (by omega) hc _ w hv (.inr ⟨te, pe, rfl⟩)).mono ?_
    rintro e w' ⟨N, he, _, _, hb⟩
    exact ⟨hb, .inr ⟨_, _, _, he⟩⟩
  · obtain ⟨te, pe, hv⟩ := h.ran
    refine (Tryd.strconv_Atoi_range s (by omega) hc _ w hv (.inr ⟨te, pe, rfl⟩)).mono ?_
    rintro e w' ⟨N, he, _, _, hb⟩
    exact ⟨hb, .inr ⟨_, _, _, he⟩⟩

/-- what a number's text is read as. -/
def NumEnd (s : ByteArray) (w : World) (e : Ending) (w' : World) : Prop :=
  Below w.heap.size w w' ∧ ∃ (v : Int) (ok : Bool), e = .returned (.tuple #[.int .i64 v, .bool ok]) ∧ -9223372036854775808 ≤ v ∧ v ≤ 9223372036854775807 ∧ (ok = true → s.data.toList = Lib.itoa v)
set_option maxHeartbeats 1000000 in
set_option maxRecDepth 100000 in
theorem num_any {B : Nat} {w : World} (h : LV B w) (hB : B ≤ w.heap.size) (s : ByteArray) (hs : s.size ≤ 3000) : Calls Tryd.prog 42 #[.string s] w (NumEnd s w) := by
  have AT := Lib.hid (atoi_any h hB s hs)
  have HV := Lib.hid h
  have HB := Lib.hid hB
  clear h hB hs
  go_enter Tryd.func42, Tryd.ntmps42
  go_wp2_with fail
  go_at_call 53; refine AT.out.mono ?_
  rintro e w1 ⟨hb1, ⟨v, v0, v1, rfl⟩ | ⟨v, te, pe, rfl⟩⟩
  · have B1 := Lib.hid hb1
    have IT := Lib.hid (itoa_any (HV.out.below (hb1.mono HB.out)) (Nat.le_trans HB.out hb1.size) v v0 v1)
    have V := Lib.hid (And.intro v0 v1)
    clear hb1 v0 v1 AT
    go_wp2_with fail
    go_at_call 31; refine IT.out.mono ?_
    rintro e w2 ⟨rfl, hb2⟩
    have B2 := Lib.hid (B1.out.trans (hb2.mono B1.out.size))
    clear hb2 IT
    by_cases he : Lib.itoa v = s.toList
    · have hf : (Lib.itoa v == s.toList) = true := by rw [he]; exact beq_self_eq_true _
      have R : Hid (NumEnd s w (.returned (.tuple #[.int .i64 v, .bool true])) w2) := Lib.hid ⟨B2.out, v, true, rfl, V.out.1, V.out.2, fun _ => by rw [he, Lib.toList_data]⟩
      clear he
      go_wp2_with fail
      go_ret2
      exact R.out
    · have hf : (Lib.itoa v == s.toList) = false := beq_eq_false_iff_ne.2 he
      have R : Hid (NumEnd s w (.returned (.tuple #[.int .i64 0, .bool false])) w2) := Lib.hid ⟨B2.out, 0, false, rfl, by omega, by omega, fun h => by cases h⟩
      clear he
      go_wp2_with fail
      go_ret2
      exact R.out
  · have R : Hid (NumEnd s w (.returned (.tuple #[.int .i64 0, .bool false])) w1) := Lib.hid ⟨hb1, 0, false, rfl, by omega, by omega, fun h => by cases h⟩
    clear hb1 AT
    go_wp2_with fail
    go_ret2
    exact R.out

end Go.Proofs.YtlgakejjakeomaaDoor.Rd
