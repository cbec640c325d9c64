/- Recipes: which packages provide a name; virtual names. -/
import Derived.Test.YtccmgaibikiedaaDcH
import Derived.Test.YtccmgaibikiedaaShelf
import Derived.Laws.AppendOwn
import Derived.Laws.OwnMore
import Derived.Lib.SlicesS
import Derived.Lib.Builder
namespace Go.Proofs.Ytccmgaibikiedaa.Dc
open Go.RowKit
set_option linter.unusedVariables false
set_option linter.unusedSimpArgs false
def provG {α : Type} (f : α → Bool) : List α → Nat → List Int
  | [], _ => []
  | y :: l, k => if f y then (k : Int) :: provG f l (k + 1) else provG f l (k + 1)
theorem provG_snoc {α : Type} (f : α → Bool) (y : α) : ∀ (l : List α) (k : Nat), provG f (l ++ [y]) k = provG f l k ++ (if f y then [((k + l.length : Nat) : Int)] else [])
  | [], k => by simp [provG]
  | x :: l, k => by
    have ih := provG_snoc f y l (k + 1)
    rw [List.cons_append, provG, provG, ih, show k + 1 + l.length = k + (x :: l).length by simp; omega]
    split
    · rfl
    · rfl
theorem provG_next {α : Type} {f : α → Bool} {l : List α} {i : Nat} {y : α} (h : l[i]? = some y) : provG f (l.take (i + 1)) 0 = provG f (l.take i) 0 ++ (if f y then [(i : Int)] else []) := by
  have hi : i < l.length := by
    rcases Nat.lt_or_ge i l.length with h' | h'
    · exact h'
    · rw [List.getElem?_eq_none h'] at h; cases h
  rw [take_next h, provG_snoc, List.length_take, Nat.zero_add, Nat.min_eq_left (by omega)]
theorem provG_len {α : Type} (f : α → Bool) : ∀ (l : List α) (k : Nat), (provG f l k).length ≤ l.length
  | [], k => Nat.le_refl _
  | x :: l, k => by
    have := provG_len f l (k + 1)
    rw [provG]
    split <;> simp <;> omega
def hasB (l : List ByteArray) (s : ByteArray) : Bool := l.any fun y => eqB y s
theorem contains_hasB (l : List ByteArray) (s : ByteArray) : Lib.containsS l s = hasB l s := by
  rw [Bool.eq_iff_iff, Lib.containsS_iff]
  unfold hasB
  rw [List.any_eq_true]
  constructor
  · intro h; exact ⟨s, h, (eqB_iff s s).2 rfl⟩
  · rintro ⟨y, h1, h2⟩
    rw [← (eqB_iff y s).1 h2]; exact h1
def provB (nm : ByteArray) (p : Pk) : Bool := hasB p.provs nm
def provF (l : List Pk) (nm : ByteArray) : List Int := provG (provB nm) l 0
abbrev intsV (l : List Int) : List Value := l.map (Value.int .i64)
theorem contains_any {w : World} {B : Nat} {A : Option Addr} {n c : Nat} {l : List ByteArray} (h : Sl ByteArray 1 strD w B A n c l) (s : ByteArray) : Calls Try.prog 40 #[.slice A n c, .string s] w fun e w' => e = .returned (.bool (hasB l s)) ∧ w = w' := by
  rcases Nat.eq_zero_or_pos n with h0 | h0
  · subst h0
    have hl : l = [] := List.eq_nil_of_length_eq_zero h.len.symm
    refine (Try.slices_Contains_string_empty A c s w).mono ?_
    rintro e w' ⟨he, hw⟩
    exact ⟨by rw [he, hl]; rfl, hw.symm⟩
  · obtain ⟨y, b, o, -, rfl, -, -, -⟩ := text_at h h0
    refine (Try.slices_Contains_string b o n c l s w (by rw [h.len]; exact Nat.le_refl _) (by have := h.le; omega) (fun j hj => ?_)).mono ?_
    · obtain ⟨y', b', o', t1, t2, t3, t4, t5⟩ := text_at h (show j < n by rw [h.len]; exact hj)
      injection t2 with t2
      injection t2 with t2 t2'
      subst t2 t2'
      rw [t4, List.getD_eq_getElem?_getD, t1]
      rfl
    · rintro e w' ⟨he, hw⟩
      rw [List.take_of_length_le (by rw [h.len]; exact Nat.le_refl _), contains_hasB] at he
      exact ⟨he, hw.symm⟩
set_option maxHeartbeats 2000000 in
set_option maxRecDepth 100000 in
theorem has_any {w : World} {B : Nat} {A : Option Addr} {n c : Nat} {l : List ByteArray} (h : Sl ByteArray 1 strD w B A n c l) (s : ByteArray) : Calls Try.prog 41 #[.slice A n c, .string s] w fun e w' => e = .returned (.bool (hasB l s)) ∧ w = w' := by
  have H := Lib.hid h
  have n5 := h.le
  have HN := Lib.hid h.len
  clear h
  go_enter Try.func41, Try.ntmps41
  go_wp2_with fail
  go_loopw [5, 8] (fun _ v wq => ∃ i : Nat, v = .int .i64 i ∧ i ≤ n ∧ (l.take i).any (fun y => eqB y s) = false ∧ w = wq) (fun _ v _ => n - (intOf v).toNat)
  case atStart => exact ⟨0, rfl, Nat.zero_le _, rfl, by first | rfl | trivial⟩
  case round =>
    obtain ⟨i, rfl, hi, hp, hwq⟩ := hrel
    obtain rfl : w = wr := by first | exact hwq | rfl
    have HP := Lib.hid hp
    clear hp
    by_cases hlt : i < n
    · have hlt' : (i : Int) < (n : Int) := by omega
      obtain ⟨y, b, o, t1, rfl, t3, x0, s5⟩ := text_at H.out hlt
      have T1 := Lib.hid t1
      have G1 : Hid ((fun y => eqB y s) y = (y.toList == s.toList)) := Lib.hid rfl
      clear t1
      cases g : (y.toList == s.toList)
      case true =>
        have R2 : Hid (hasB l s = true) := Lib.hid (any_hit T1.out (G1.out.trans g))
        go_wp2_with fail
        go_ret
        rw [R2.out]
        exact ⟨rfl, rfl⟩
      have HP2 : Hid ((l.take (i + 1)).any (fun y => eqB y s) = false) := Lib.hid (any_next T1.out HP.out (G1.out.trans g))
      go_wp2_with fail
      go_roundw
      case rel => exact ⟨i + 1, by go_num, by omega, HP2.out, by first | rfl | trivial⟩
      case measure => simp [intOf]; omega
    · have R2 : Hid (hasB l s = false) := Lib.hid (by
        have h := HP.out
        rw [take_all (by have := HN.out; omega)] at h
        exact h)
      go_wp2_with fail
      go_ret
      rw [R2.out]
      exact ⟨rfl, rfl⟩
theorem info_int : (Try.prog.info? 3).map (fun i => (i.zero, i.size, i.bytes)) = some (some (.int .i64 0), 1, 8) := by kernel_rfl
/-- what the numbers of packages are. -/
def NumsEnd (x : Rc) (nm : ByteArray) (w : World) (e : Ending) (w' : World) : Prop :=
  ∃ A n c, e = .returned (.slice A n c) ∧ n = (provF x.packs nm).length ∧ n ≤ x.packs.length ∧ w'.ownsRow w.heap.size 3 1 (.slice A n c) n (intsV (provF x.packs nm)) ∧ Below w.heap.size w w'
set_option maxHeartbeats 4000000 in
set_option maxRecDepth 100000 in
theorem providers_any {w : World} {B : Nat} {x : Rc} {cs : List Value} (h : rcD w B cs x) (hB : B ≤ w.heap.size) (hl : x.packs.length ≤ 1000) (nm : ByteArray) : Calls Try.prog 12 #[.agg cs.toArray, .string nm] w (NumsEnd x nm w) := by
  obtain ⟨A1, n1, c1, A2, n2, c2, rfl, s1, s2⟩ := rc_cells h
  obtain ⟨packs, prefs⟩ := x
  simp only [] at s1 s2 hl ⊢
  obtain ⟨i0, hi0, hz⟩ := Option.map_eq_some_iff.1 info_int
  simp only [Prod.mk.injEq] at hz
  obtain ⟨hz0, hz1, hz2⟩ := hz
  have INF := Lib.hid (And.intro hi0 (And.intro hz0 (And.intro hz1 hz2)))
  have bb : Below B w (w.alloc (.cells #[.slice A1 n1 c1, .slice A2 n2 c2] 25)) := (Below.refl B w).alloc hB _
  have B0 : Hid (Below w.heap.size w (w.alloc (.cells #[.slice A1 n1 c1, .slice A2 n2 c2] 25))) := Lib.hid ((Below.refl _ _).alloc (Nat.le_refl _) _)
  have k0 : (w.alloc (.cells #[.slice A1 n1 c1, .slice A2 n2 c2] 25)).cell? ⟨w.heap.size, 0, none⟩ = some (.slice A1 n1 c1) := blk_cell (heap_alloc_new w _) rfl
  have S1 := Lib.hid s1
  have HB : Hid (B ≤ w.heap.size) := Lib.hid hB
  have n5 := s1.le
  have HN := Lib.hid s1.len
  have HL := Lib.hid hl
  clear h s1 s2 bb hB hi0 hz0 hz1 hz2 hl
  show Calls Try.prog _ #[.agg #[.slice A1 n1 c1, .slice A2 n2 c2], .string nm] w _
  go_enter Try.func12, Try.ntmps12
  go_wp2_with fail
  clear k0
  go_loopw [5, 6, 7, 11] (fun row _ _ v wq => ∃ (i : Nat) (A : Option Addr) (m c : Nat), v = .int .i64 i ∧ i ≤ n1 ∧ row = .slice A m c ∧ m = (provG (provB nm) (packs.take i) 0).length ∧ m ≤ i ∧ wq.ownsRow w.heap.size 3 1 (.slice A m c) m (intsV (provG (provB nm) (packs.take i) 0)) ∧ Below w.heap.size w wq) (fun _ _ _ v _ => n1 - (intOf v).toNat)
  case atStart => exact ⟨0, none, 0, 0, rfl, Nat.zero_le _, rfl, rfl, Nat.le_refl _, World.ownsRow_nil _ _ _ _, B0.out⟩
  case round =>
    obtain ⟨i, A, m, c, rfl, hi, rfl, hm, hmi, hown, hbw⟩ := hrel
    have HM := Lib.hid hm
    have HMI := Lib.hid hmi
    have OW := Lib.hid hown
    have BW := Lib.hid hbw
    have SW := Lib.hid (S1.out.below pk_stays (Nat.le_refl B) (hbw.mono HB.out))
    clear hm hmi hown hbw
    by_cases hlt : i < n1
    · have hlt' : (i : Int) < (n1 : Int) := by omega
      obtain ⟨q, b, o, Ar, nr, cr, Av, nv, cv, Ap, np, cp, Ad, nd, cd, Ac, nc, cc, Af, nf, cf, t1, rfl, t3, x0, x1, x2, x3, x4, x5, x6, x7, pc, -⟩ := pk_at SW.out hlt
      have NX := Lib.hid (provG_next (f := provB nm) t1)
      obtain ⟨y1, hy1⟩ : ∃ y, y = q.name := ⟨_, rfl⟩
      obtain ⟨y2, hy2⟩ : ∃ y, y = q.line := ⟨_, rfl⟩
      rw [← hy1] at x0
      rw [← hy2] at x1
      have QB : Hid (B ≤ wr.heap.size) := Lib.hid (Nat.le_trans HB.out BW.out.size)
      have b1 : Below B wr (wr.alloc (.cells #[.string y1, .int .i64 y2, .slice Ar nr cr, .slice Av nv cv, .slice Ap np cp, .slice Ad nd cd, .slice Ac nc cc, .slice Af nf cf] 45)) := (Below.refl B wr).alloc QB.out _
      have k4 : (wr.alloc (.cells #[.string y1, .int .i64 y2, .slice Ar nr cr, .slice Av nv cv, .slice Ap np cp, .slice Ad nd cd, .slice Ac nc cc, .slice Af nf cf] 45)).cell? ⟨wr.heap.size, 4, none⟩ = some (.slice Ap np cp) := blk_cell (heap_alloc_new wr _) rfl
      obtain ⟨g, hg⟩ : ∃ g, g = provB nm q := ⟨_, rfl⟩
      have CC := Lib.hid (contains_any (pc.provs.below strD_stays (Nat.le_refl B) b1) nm)
      rw [show hasB q.provs nm = g from hg.symm] at CC
      rw [← hg] at NX
      have OW1 := Lib.hid (OW.out.alloc (.cells #[.string y1, .int .i64 y2, .slice Ar nr cr, .slice Av nv cv, .slice Ap np cp, .slice Ad nd cd, .slice Ac nc cc, .slice Af nf cf] 45))
      have BW1 : Hid (Below w.heap.size w (wr.alloc (.cells #[.string y1, .int .i64 y2, .slice Ar nr cr, .slice Av nv cv, .slice Ap np cp, .slice Ad nd cd, .slice Ac nc cc, .slice Af nf cf] 45))) := Lib.hid (BW.out.alloc BW.out.size _)
      clear t1 hy1 hy2 pc b1 hg
      cases g
      case true =>
        have NX2 : Hid (intsV (provG (provB nm) (packs.take (i + 1)) 0) = intsV (provG (provB nm) (packs.take i) 0) ++ [.int .i64 (i : Nat)]) := Lib.hid (by rw [NX.out]; simp)
        have NL : Hid (m + 1 = (provG (provB nm) (packs.take (i + 1)) 0).length) := Lib.hid (by rw [NX.out, HM.out]; simp)
        go_wp2_with (first
          | (go_at_call 40; refine CC.out.mono ?_; rintro e w1 ⟨rfl, rfl⟩)
          | (at_builtin; refine wp_append_one (wr.alloc (.cells #[.string y1, .int .i64 y2, .slice Ar nr cr, .slice Av nv cv, .slice Ap np cp, .slice Ad nd cd, .slice Ac nc cc, .slice Af nf cf] 45)) rfl (.tmp 20) (.tmp 22) 31 rfl w.heap.size 3 i0 _ 8 Try.underlying31 INF.out.1 INF.out.2.1 INF.out.2.2.1 INF.out.2.2.2 rfl (.slice A m c) m _ rfl OW1.out (.int .i64 (i : Nat)) (by rw [World.size_alloc]; rfl) rfl ?c1 ?c2 ?c3 ?_))
        case c1 => have := HMI.out; have := HL.out; have := HN.out; unfold maxLen; omega
        case c2 => have := HMI.out; have := HL.out; have := HN.out; omega
        case c3 => exact BW1.out.size
        intro g2 cap2 w2 hown2 _ _ hb2 _ _
        have OW2 := Lib.hid hown2
        have BW2 := Lib.hid (BW1.out.trans hb2)
        clear hown2 hb2
        go_wp2_with fail
        go_roundw
        case rel => exact ⟨i + 1, _, m + 1, cap2, by go_num, by omega, rfl, NL.out, by have := HMI.out; omega, by rw [NX2.out]; exact OW2.out, BW2.out⟩
        case measure => simp [intOf]; omega
      have NX2 : Hid (provG (provB nm) (packs.take (i + 1)) 0 = provG (provB nm) (packs.take i) 0) := Lib.hid (by rw [NX.out]; simp)
      go_wp2_with (go_at_call 40; refine CC.out.mono ?_; rintro e w1 ⟨rfl, rfl⟩)
      go_roundw
      case rel => exact ⟨i + 1, A, m, c, by go_num, by omega, rfl, by rw [NX2.out]; exact HM.out, by have := HMI.out; omega, by rw [NX2.out]; exact OW1.out, BW1.out⟩
      case measure => simp [intOf]; omega
    · have TI : Hid (packs.take i = packs) := Lib.hid (take_all (by have := HN.out; omega))
      go_wp2_with fail
      go_ret
      refine ⟨A, m, c, rfl, ?_, ?_, ?_, BW.out⟩
      · rw [HM.out, TI.out]; rfl
      · have := HMI.out; have := HN.out; show m ≤ packs.length; omega
      · have h := OW.out; rw [TI.out] at h; exact h

end Go.Proofs.Ytccmgaibikiedaa.Dc
