/- The table of atoms: what it knows is told by one structure; the document's find; the calls of the law. -/
import Derived.Test.YtbffcehaednefaaAtomsB
import Derived.Laws.StructEq
namespace Go.Proofs.Ytbffcehaednefaa.Atoms
set_option linter.unusedVariables false
set_option linter.unusedSimpArgs false
open Go.RowKit Go.Maps

abbrev bstep' {w w1 w2 : World} (h : Below w.heap.size w w1) (h2 : Below w1.heap.size w1 w2) : Below w.heap.size w w2 := h.trans (h2.mono h.size)

/-! ### two atoms are the same -/
set_option maxRecDepth 100000 in
theorem eq_atom (x y : At4) (w : World) : (binOp .eql 44 (av x) (av y)).run Try.prog w = .ok (.bool (decide (x = y))) w := by
  have u3 := Try.underlying3
  have u8 := Try.underlying5
  have hS : Try.prog.underlying 44 = some (.struct (Try.prog.fieldsOf 44)) := by kernel_rfl
  have hp : Try.prog.stoodInHeld 44 = false := by kernel_rfl
  obtain ⟨k, a, b, c⟩ := x
  obtain ⟨k', a', b', c'⟩ := y
  simp only [av]
  rw [run_eql_struct, show (10000 : Nat) = 9999 + 1 from rfl, run_equalIn_agg w 9999 44 _ _ hS hp]
  simp only [Program.fieldsOf, Try.underlying44]
  go_simp
  by_cases h0 : k = k' <;> by_cases h1 : a = a' <;> by_cases h2 : b = b' <;> by_cases h3 : c = c' <;> simp [h0, h1, h2, h3]
set_option maxRecDepth 100000 in
theorem ne_atom (x y : At4) (w : World) : (binOp .neq 44 (av x) (av y)).run Try.prog w = .ok (.bool (!decide (x = y))) w := by
  have u3 := Try.underlying3
  have u8 := Try.underlying5
  have hS : Try.prog.underlying 44 = some (.struct (Try.prog.fieldsOf 44)) := by kernel_rfl
  have hp : Try.prog.stoodInHeld 44 = false := by kernel_rfl
  obtain ⟨k, a, b, c⟩ := x
  obtain ⟨k', a', b', c'⟩ := y
  simp only [av]
  rw [run_neq_struct, show (10000 : Nat) = 9999 + 1 from rfl, run_equalIn_agg w 9999 44 _ _ hS hp]
  simp only [Program.fieldsOf, Try.underlying44]
  go_simp
  by_cases h0 : k = k' <;> by_cases h1 : a = a' <;> by_cases h2 : b = b' <;> by_cases h3 : c = c' <;> simp [h0, h1, h2, h3]

/-! ### a row of atoms -/
abbrev boxA (w : World) (x : At4) : World := w.alloc (.cells #[.int .u8 x.1, .int .i64 x.2.1, .int .i64 x.2.2.1, .int .i64 x.2.2.2] 44)
/-- an atom's four cells. -/
structure AC (w : World) (b o : Nat) (x : At4) : Prop where
  c0 : w.cell? ⟨b, o, none⟩ = some (.int .u8 x.1)
  c1 : w.cell? ⟨b, o + 1, none⟩ = some (.int .i64 x.2.1)
  c2 : w.cell? ⟨b, o + 2, none⟩ = some (.int .i64 x.2.2.1)
  c3 : w.cell? ⟨b, o + 3, none⟩ = some (.int .i64 x.2.2.2)
theorem AC.keep {w w' : World} {b o : Nat} {x : At4} (h : AC w b o x) (hk : ∀ i, w'.cell? ⟨b, i, none⟩ = w.cell? ⟨b, i, none⟩) : AC w' b o x :=
  ⟨(hk _).trans h.c0, (hk _).trans h.c1, (hk _).trans h.c2, (hk _).trans h.c3⟩
theorem AC.below {w w' : World} {B b o : Nat} {x : At4} (h : AC w b o x) (hb : Below B w w') (hlt : b < B) : AC w' b o x := h.keep fun i => hb.cell (p := ⟨b, i, none⟩) hlt
theorem AC.block {w w' : World} {b o : Nat} {x : At4} (h : AC w b o x) (hb : w'.heap[b]? = w.heap[b]?) : AC w' b o x := h.keep fun i => by simp only [World.cell?, hb]
theorem AC.box (w : World) (x : At4) : AC (boxA w x) w.heap.size 0 x := by
  have h : (boxA w x).heap[w.heap.size]? = some (.cells #[.int .u8 x.1, .int .i64 x.2.1, .int .i64 x.2.2.1, .int .i64 x.2.2.2] 44 (0, 0)) := heap_alloc_new w _
  exact ⟨blk_cell h rfl, blk_cell h rfl, blk_cell h rfl, blk_cell h rfl⟩
def ARow (w : World) (B : Nat) (A : Option Addr) (l : List At4) : Prop :=
  l = [] ∨ ∃ b bo, A = some ⟨b, bo, none⟩ ∧ b < B ∧ ∀ j x, l[j]? = some x → AC w b (bo + j * 4) x
theorem ARow.below {w w' : World} {B B' : Nat} {A : Option Addr} {l : List At4} (h : ARow w B A l) (hB : B ≤ B') (hb : Below B w w') : ARow w' B' A l := by
  rcases h with h | ⟨b, bo, e, hlt, hc⟩
  · exact .inl h
  · exact .inr ⟨b, bo, e, by omega, fun j x hj => (hc j x hj).below hb hlt⟩
theorem ownA_row {w : World} {base k cp : Nat} {A : Option Addr} {l : List At4} (h : w.ownsRow base 44 4 (.slice A k cp) k (flatA l)) : ARow w w.heap.size A l := by
  rcases h.2 with ⟨hv, hk⟩ | ⟨g, cap, cur, hv, hb, hh, hc, hm, hs, ht⟩
  · left
    have := h.1
    rw [flatA_len] at this
    exact List.length_eq_zero_iff.1 (by omega)
  · injection hv with hA _ _
    refine .inr ⟨g, 0, hA, lt_of_block hh, fun j x hj => ?_⟩
    have hcell : ∀ i u, (flatA l)[i]? = some u → w.cell? ⟨g, i, none⟩ = some u := by
      intro i u hu
      rw [← ht, List.getElem?_take] at hu
      split at hu
      · exact blk_cell hh (by simpa using hu)
      · cases hu
    obtain ⟨e0, e1, e2, e3⟩ := flatA_at l j x hj
    rw [Nat.zero_add]
    exact ⟨hcell _ _ e0, hcell _ _ e1, hcell _ _ e2, hcell _ _ e3⟩

set_option maxHeartbeats 2000000 in
set_option maxRecDepth 100000 in
theorem findA_any (A : Option Addr) (l : List At4) (n c : Nat) (x : At4) (w : World) (h : ARow w w.heap.size A l) (hn : n = l.length) (hm : n ≤ 1000) :
    Calls Try.prog 29 #[.slice A n c, av x] w fun e w' => e = .returned (.int .i64 (findF l x : Nat)) ∧ Below w.heap.size w w' := by
  have hz : (n : Int) ≤ 1000 := by omega
  have HN := Lib.hid hn
  have H := Lib.hid h
  have EQ := Lib.hid eq_atom
  have BX : Hid (Below w.heap.size w (boxA w x)) := Lib.hid ((Below.refl w.heap.size w).alloc (Nat.le_refl _) _)
  have CX := Lib.hid (AC.box w x)
  have SZ : Hid (w.heap.size < (boxA w x).heap.size) := Lib.hid (by simp)
  clear hn h hm
  obtain ⟨k, a, b, c'⟩ := x
  go_enter Try.func29, Try.ntmps29
  go_wp2_with fail
  go_loopw [5, 6, 9] (fun _ _ v wr => ∃ i : Nat, v = .int .i64 i ∧ i ≤ n ∧ Below (boxA w (k, a, b, c')).heap.size (boxA w (k, a, b, c')) wr ∧ (k, a, b, c') ∉ l.take i) (fun _ _ v _ => n - (intOf v).toNat)
  case atStart => exact ⟨0, rfl, Nat.zero_le _, Below.refl _ _, by simp⟩
  case round =>
    obtain ⟨i, rfl, hi, hbel, hno⟩ := hrel
    have J := Lib.hid hbel
    have NO := Lib.hid hno
    clear hbel hno
    have BB := Lib.hid (BX.out.trans (J.out.mono (by have := SZ.out; omega)))
    by_cases hlt : i < n
    · have hlt' : (i : Int) < (n : Int) := by omega
      have IL : i < l.length := by have := HN.out; omega
      rcases H.out with h' | ⟨d, o, rfl, hd, hcell⟩
      · exfalso; rw [h'] at IL; simp at IL
      obtain ⟨y, hy⟩ : ∃ y, y = l[i] := ⟨_, rfl⟩
      have hget : l[i]? = some y := by rw [List.getElem?_eq_getElem IL, hy]
      have ac := (hcell i y hget).below BB.out hd
      have GT := Lib.hid hget
      have TK : Hid (l.take (i + 1) = l.take i ++ [y]) := Lib.hid (by rw [List.take_succ_eq_append_getElem IL, hy])
      obtain ⟨k2, a2, b2, c2⟩ := y
      obtain ⟨q0, q1, q2, q3⟩ := ac
      simp only at q0 q1 q2 q3
      have bx := AC.box wr (k2, a2, b2, c2)
      obtain ⟨r0, r1, r2, r3⟩ := bx
      simp only at r0 r1 r2 r3
      have BY := Lib.hid ((Below.refl wr.heap.size wr).alloc (Nat.le_refl _) (.cells #[.int .u8 k2, .int .i64 a2, .int .i64 b2, .int .i64 c2] 44))
      have BE := Lib.hid (J.out.trans (BY.out.mono J.out.size))
      have cx := CX.out.below BE.out SZ.out
      obtain ⟨s0, s1, s2, s3⟩ := cx
      simp only at s0 s1 s2 s3
      have heq := fun w => EQ.out (k2, a2, b2, c2) (k, a, b, c') w
      simp only [av] at heq
      have BW := Lib.hid (bstep' BB.out BY.out)
      clear hcell IL hy hget
      by_cases hxy : (k2, a2, b2, c2) = (k, a, b, c')
      · have F : Hid (findF l (k, a, b, c') = i + 1) := Lib.hid (find_hit l _ i (by rw [GT.out, hxy]) NO.out)
        rw [decide_eq_true hxy] at heq
        clear hxy
        have hi' : (i : Int) ≤ 1000 := by omega
        go_wp2_with fail
        go_ret
        exact ⟨by rw [F.out]; first | rfl | (push_cast; rfl), BW.out⟩
      · have F : Hid ((k, a, b, c') ∉ l.take (i + 1)) := Lib.hid (by
          rw [TK.out, List.mem_append, List.mem_singleton]
          rintro (h | h)
          · exact NO.out h
          · exact hxy h.symm)
        rw [decide_eq_false hxy] at heq
        clear hxy
        go_wp2_with fail
        go_roundw
        case rel => exact ⟨i + 1, by go_num, by omega, BE.out, F.out⟩
        case measure => simp [intOf]; omega
    · obtain rfl : i = n := by omega
      have F : Hid (findF l (k, a, b, c') = 0) := Lib.hid ((find_zero l _).2 (by
        have h := NO.out
        rwa [HN.out, List.take_of_length_le (Nat.le_refl _)] at h))
      go_wp2_with fail
      go_ret
      exact ⟨by rw [F.out]; rfl, BB.out⟩

end Go.Proofs.Ytbffcehaednefaa.Atoms
