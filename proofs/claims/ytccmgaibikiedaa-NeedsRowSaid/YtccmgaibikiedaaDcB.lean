/- Recipes and requests as arguments: what is read of them lies in cells. -/
import Derived.Test.YtccmgaibikiedaaDcA
namespace Go.Proofs.Ytccmgaibikiedaa.Dc
open Go.ChangeShapes Go.WideShapes Go.ChangeAt Go.RowKit Go.ChangeMaps
set_option linter.unusedVariables false
set_option linter.unusedSimpArgs false

/-- two texts: a span, a setting. -/
abbrev Pr2 := ByteArray × ByteArray
structure Sp where
  name : ByteArray
  spans : List Pr2
  sets : List Pr2
structure Dep where
  on : Sp
  cond : Sp
  line : Int
abbrev Rel := ByteArray × Bool
abbrev Vr := ByteArray × List ByteArray
structure Pk where
  name : ByteArray
  line : Int
  rels : List Rel
  vars : List Vr
  provs : List ByteArray
  deps : List Dep
  confs : List Dep
  files : List ByteArray
structure Pf where
  virt : ByteArray
  names : List ByteArray
  line : Int
structure Rc where
  packs : List Pk
  prefs : List Pf
abbrev textsD : Dec (List ByteArray) := sliceD 1 strD
def pr2D : Dec Pr2 := fun w B cs y => cs.length = 2 ∧ fld 0 1 strD w B cs y.1 ∧ fld 1 1 strD w B cs y.2
def spD : Dec Sp := fun w B cs y => cs.length = 3 ∧ fld 0 1 strD w B cs y.name ∧ fld 1 1 (sliceD 2 pr2D) w B cs y.spans ∧ fld 2 1 (sliceD 2 pr2D) w B cs y.sets
def depD : Dec Dep := fun w B cs y => cs.length = 7 ∧ fld 0 3 spD w B cs y.on ∧ fld 3 3 spD w B cs y.cond ∧ fld 6 1 intD w B cs y.line
def relD : Dec Rel := fun w B cs y => cs.length = 2 ∧ fld 0 1 strD w B cs y.1 ∧ fld 1 1 boolD w B cs y.2
def vrD : Dec Vr := fun w B cs y => cs.length = 2 ∧ fld 0 1 strD w B cs y.1 ∧ fld 1 1 textsD w B cs y.2
def pkD : Dec Pk := fun w B cs y => cs.length = 8 ∧ fld 0 1 strD w B cs y.name ∧ fld 1 1 intD w B cs y.line ∧ fld 2 1 (sliceD 2 relD) w B cs y.rels ∧ fld 3 1 (sliceD 2 vrD) w B cs y.vars ∧ fld 4 1 textsD w B cs y.provs ∧
  fld 5 1 (sliceD 7 depD) w B cs y.deps ∧ fld 6 1 (sliceD 7 depD) w B cs y.confs ∧ fld 7 1 textsD w B cs y.files
def pfD : Dec Pf := fun w B cs y => cs.length = 3 ∧ fld 0 1 strD w B cs y.virt ∧ fld 1 1 textsD w B cs y.names ∧ fld 2 1 intD w B cs y.line
def rcD : Dec Rc := fun w B cs y => cs.length = 2 ∧ fld 0 1 (sliceD 8 pkD) w B cs y.packs ∧ fld 1 1 (sliceD 3 pfD) w B cs y.prefs
theorem texts_stays : Stays textsD := sliceD_stays strD_stays
theorem pr2_stays : Stays pr2D := fun w w' B B' cs y ⟨h0, h1, h2⟩ hB hb => ⟨h0, h1, h2⟩
theorem sp_stays : Stays spD := fun w w' B B' cs y ⟨h0, h1, h2, h3⟩ hB hb => ⟨h0, h1, fld_stays (sliceD_stays pr2_stays) _ _ _ _ _ _ h2 hB hb, fld_stays (sliceD_stays pr2_stays) _ _ _ _ _ _ h3 hB hb⟩
theorem dep_stays : Stays depD := fun w w' B B' cs y ⟨h0, h1, h2, h3⟩ hB hb => ⟨h0, fld_stays sp_stays _ _ _ _ _ _ h1 hB hb, fld_stays sp_stays _ _ _ _ _ _ h2 hB hb, h3⟩
theorem rel_stays : Stays relD := fun w w' B B' cs y h hB hb => h
theorem vr_stays : Stays vrD := fun w w' B B' cs y ⟨h0, h1, h2⟩ hB hb => ⟨h0, h1, fld_stays texts_stays _ _ _ _ _ _ h2 hB hb⟩
theorem pk_stays : Stays pkD := fun w w' B B' cs y ⟨h0, h1, h2, h3, h4, h5, h6, h7, h8⟩ hB hb => ⟨h0, h1, h2, fld_stays (sliceD_stays rel_stays) _ _ _ _ _ _ h3 hB hb, fld_stays (sliceD_stays vr_stays) _ _ _ _ _ _ h4 hB hb, fld_stays texts_stays _ _ _ _ _ _ h5 hB hb,
  fld_stays (sliceD_stays dep_stays) _ _ _ _ _ _ h6 hB hb, fld_stays (sliceD_stays dep_stays) _ _ _ _ _ _ h7 hB hb, fld_stays texts_stays _ _ _ _ _ _ h8 hB hb⟩
theorem pf_stays : Stays pfD := fun w w' B B' cs y ⟨h0, h1, h2, h3⟩ hB hb => ⟨h0, h1, fld_stays texts_stays _ _ _ _ _ _ h2 hB hb, h3⟩
theorem rc_stays : Stays rcD := fun w w' B B' cs y ⟨h0, h1, h2⟩ hB hb => ⟨h0, fld_stays (sliceD_stays pk_stays) _ _ _ _ _ _ h1 hB hb, fld_stays (sliceD_stays pf_stays) _ _ _ _ _ _ h2 hB hb⟩

section
variable {H : Type} {enc : TypeId × Value → H} {W : World}
set_option maxRecDepth 100000
theorem opens_texts : Opens enc W 41 textsD := opens_slice Try.underlying41 (by kernel_rfl) (by decide) (opens_string Try.underlying9)
theorem opens_span : Opens enc W 96 pr2D := fun fuel cs x h => by
  obtain ⟨y0, h0⟩ := opens_field Try.underlying96 h 0 rfl rfl (k := 1) (by kernel_rfl) (opens_string Try.underlying9)
  obtain ⟨y1, h1⟩ := opens_field Try.underlying96 h 1 rfl rfl (k := 1) (by kernel_rfl) (opens_string Try.underlying9)
  exact ⟨(y0, y1), (struct_len Try.underlying96 h).trans (by kernel_rfl), h0, h1⟩
theorem opens_setting : Opens enc W 75 pr2D := fun fuel cs x h => by
  obtain ⟨y0, h0⟩ := opens_field Try.underlying75 h 0 rfl rfl (k := 1) (by kernel_rfl) (opens_string Try.underlying9)
  obtain ⟨y1, h1⟩ := opens_field Try.underlying75 h 1 rfl rfl (k := 1) (by kernel_rfl) (opens_string Try.underlying9)
  exact ⟨(y0, y1), (struct_len Try.underlying75 h).trans (by kernel_rfl), h0, h1⟩
theorem opens_spec : Opens enc W 70 spD := fun fuel cs x h => by
  obtain ⟨y0, h0⟩ := opens_field Try.underlying70 h 0 rfl rfl (k := 1) (by kernel_rfl) (opens_string Try.underlying9)
  obtain ⟨y1, h1⟩ := opens_field Try.underlying70 h 1 rfl rfl (k := 1) (by kernel_rfl) (opens_slice (k := 2) Try.underlying67 (by kernel_rfl) (by decide) opens_span)
  obtain ⟨y2, h2⟩ := opens_field Try.underlying70 h 2 rfl rfl (k := 1) (by kernel_rfl) (opens_slice (k := 2) Try.underlying68 (by kernel_rfl) (by decide) opens_setting)
  exact ⟨⟨y0, y1, y2⟩, (struct_len Try.underlying70 h).trans (by kernel_rfl), h0, h1, h2⟩
theorem opens_depend : Opens enc W 77 depD := fun fuel cs x h => by
  obtain ⟨y0, h0⟩ := opens_field Try.underlying77 h 0 rfl rfl (k := 3) (by kernel_rfl) opens_spec
  obtain ⟨y1, h1⟩ := opens_field Try.underlying77 h 1 rfl rfl (k := 3) (by kernel_rfl) opens_spec
  obtain ⟨y2, h2⟩ := opens_field Try.underlying77 h 2 rfl rfl (k := 1) (by kernel_rfl) (opens_int Try.underlying3)
  exact ⟨⟨y0, y1, y2⟩, (struct_len Try.underlying77 h).trans (by kernel_rfl), h0, h1, h2⟩
theorem opens_conflict : Opens enc W 88 depD := fun fuel cs x h => by
  obtain ⟨y0, h0⟩ := opens_field Try.underlying88 h 0 rfl rfl (k := 3) (by kernel_rfl) opens_spec
  obtain ⟨y1, h1⟩ := opens_field Try.underlying88 h 1 rfl rfl (k := 3) (by kernel_rfl) opens_spec
  obtain ⟨y2, h2⟩ := opens_field Try.underlying88 h 2 rfl rfl (k := 1) (by kernel_rfl) (opens_int Try.underlying3)
  exact ⟨⟨y0, y1, y2⟩, (struct_len Try.underlying88 h).trans (by kernel_rfl), h0, h1, h2⟩
theorem opens_release : Opens enc W 55 relD := fun fuel cs x h => by
  obtain ⟨y0, h0⟩ := opens_field Try.underlying55 h 0 rfl rfl (k := 1) (by kernel_rfl) (opens_string Try.underlying9)
  obtain ⟨y1, h1⟩ := opens_field Try.underlying55 h 1 rfl rfl (k := 1) (by kernel_rfl) (opens_bool Try.underlying4)
  exact ⟨(y0, y1), (struct_len Try.underlying55 h).trans (by kernel_rfl), h0, h1⟩
theorem opens_variant : Opens enc W 86 vrD := fun fuel cs x h => by
  obtain ⟨y0, h0⟩ := opens_field Try.underlying86 h 0 rfl rfl (k := 1) (by kernel_rfl) (opens_string Try.underlying9)
  obtain ⟨y1, h1⟩ := opens_field Try.underlying86 h 1 rfl rfl (k := 1) (by kernel_rfl) opens_texts
  exact ⟨(y0, y1), (struct_len Try.underlying86 h).trans (by kernel_rfl), h0, h1⟩
theorem opens_package : Opens enc W 45 pkD := fun fuel cs x h => by
  obtain ⟨y0, h0⟩ := opens_field Try.underlying45 h 0 rfl rfl (k := 1) (by kernel_rfl) (opens_string Try.underlying9)
  obtain ⟨y1, h1⟩ := opens_field Try.underlying45 h 1 rfl rfl (k := 1) (by kernel_rfl) (opens_int Try.underlying3)
  obtain ⟨y2, h2⟩ := opens_field Try.underlying45 h 2 rfl rfl (k := 1) (by kernel_rfl) (opens_slice (k := 2) Try.underlying39 (by kernel_rfl) (by decide) opens_release)
  obtain ⟨y3, h3⟩ := opens_field Try.underlying45 h 3 rfl rfl (k := 1) (by kernel_rfl) (opens_slice (k := 2) Try.underlying40 (by kernel_rfl) (by decide) opens_variant)
  obtain ⟨y4, h4⟩ := opens_field Try.underlying45 h 4 rfl rfl (k := 1) (by kernel_rfl) opens_texts
  obtain ⟨y5, h5⟩ := opens_field Try.underlying45 h 5 rfl rfl (k := 1) (by kernel_rfl) (opens_slice (k := 7) Try.underlying42 (by kernel_rfl) (by decide) opens_depend)
  obtain ⟨y6, h6⟩ := opens_field Try.underlying45 h 6 rfl rfl (k := 1) (by kernel_rfl) (opens_slice (k := 7) Try.underlying43 (by kernel_rfl) (by decide) opens_conflict)
  obtain ⟨y7, h7⟩ := opens_field Try.underlying45 h 7 rfl rfl (k := 1) (by kernel_rfl) opens_texts
  exact ⟨⟨y0, y1, y2, y3, y4, y5, y6, y7⟩, (struct_len Try.underlying45 h).trans (by kernel_rfl), h0, h1, h2, h3, h4, h5, h6, h7⟩
theorem opens_prefer : Opens enc W 60 pfD := fun fuel cs x h => by
  obtain ⟨y0, h0⟩ := opens_field Try.underlying60 h 0 rfl rfl (k := 1) (by kernel_rfl) (opens_string Try.underlying9)
  obtain ⟨y1, h1⟩ := opens_field Try.underlying60 h 1 rfl rfl (k := 1) (by kernel_rfl) opens_texts
  obtain ⟨y2, h2⟩ := opens_field Try.underlying60 h 2 rfl rfl (k := 1) (by kernel_rfl) (opens_int Try.underlying3)
  exact ⟨⟨y0, y1, y2⟩, (struct_len Try.underlying60 h).trans (by kernel_rfl), h0, h1, h2⟩
theorem opens_recipe : Opens enc W 25 rcD := fun fuel cs x h => by
  obtain ⟨y0, h0⟩ := opens_field Try.underlying25 h 0 rfl rfl (k := 1) (by kernel_rfl) (opens_slice (k := 8) Try.underlying22 (by kernel_rfl) (by decide) opens_package)
  obtain ⟨y1, h1⟩ := opens_field Try.underlying25 h 1 rfl rfl (k := 1) (by kernel_rfl) (opens_slice (k := 3) Try.underlying23 (by kernel_rfl) (by decide) opens_prefer)
  exact ⟨⟨y0, y1⟩, (struct_len Try.underlying25 h).trans (by kernel_rfl), h0, h1⟩
end

end Go.Proofs.Ytccmgaibikiedaa.Dc
