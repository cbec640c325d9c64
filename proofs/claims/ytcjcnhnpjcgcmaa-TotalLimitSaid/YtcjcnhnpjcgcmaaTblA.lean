/- A table of atoms, over any row of atoms. -/
import Derived.Test.YtcjcnhnpjcgcmaaTotB
import Derived.Deep.DeepFit
namespace Go.Proofs.Ytcjcnhnpjcgcmaa.Tbl
set_option linter.unusedVariables false
set_option linter.unusedSimpArgs false
open Go.RowKit Go.Maps
open Go.Proofs.Ytcjcnhnpjcgcmaa.Tot (lay rowA wideA deepA law zeroE info_atom Om)

abbrev At4 := Int × Int × Int × Int
abbrev avs (x : At4) : List Value := [.int .u8 x.1, .int .i64 x.2.1, .int .i64 x.2.2.1, .int .i64 x.2.2.2]
abbrev av (x : At4) : Value := .agg #[.int .u8 x.1, .int .i64 x.2.1, .int .i64 x.2.2.1, .int .i64 x.2.2.2]
def WfA (x : At4) : Prop := (Lit.int .u8 x.1).wf = true ∧ (Lit.int .i64 x.2.1).wf = true ∧ (Lit.int .i64 x.2.2.1).wf = true ∧ (Lit.int .i64 x.2.2.2).wf = true
set_option maxRecDepth 100000 in
theorem keyT : Try.prog.keyType 70 = true := by kernel_rfl
theorem sizeP : 0 < Try.prog.types.size := Nat.lt_of_le_of_lt (Nat.zero_le _) rowA
theorem key_gen {P : Program} {T : TypeId} {f0 f1 f2 f3 : Field} (hu : P.underlying T = some (.struct #[f0, f1, f2, f3])) (hk : P.keyType T = true) (hc : P.cellsOf T = 4) (hs : 0 < P.types.size) (hn : (#[f0, f1, f2, f3].all (·.name != "_")) = true)
    (o0 : f0.offset = 0) (o1 : f1.offset = 1) (o2 : f2.offset = 2) (o3 : f3.offset = 3) (c0 : P.cellsOf f0.type = 1) (c1 : P.cellsOf f1.type = 1) (c2 : P.cellsOf f2.type = 1) (c3 : P.cellsOf f3.type = 1)
    (t0 : P.underlying f0.type = some (.int .u8)) (t1 : P.underlying f1.type = some (.int .i64)) (t2 : P.underlying f2.type = some (.int .i64)) (t3 : P.underlying f3.type = some (.int .i64))
    (k a b c : Int) (h0 : (Lit.int .u8 k).wf = true) (h1 : (Lit.int .i64 a).wf = true) (h2 : (Lit.int .i64 b).wf = true) (h3 : (Lit.int .i64 c).wf = true) :
    ∃ kl, keyOf P T (.agg #[.int .u8 k, .int .i64 a, .int .i64 b, .int .i64 c]) = some kl := by
  obtain ⟨n, hn'⟩ : ∃ n, P.types.size = n + 1 := ⟨P.types.size - 1, by omega⟩
  have e0 : P.keyLits (n + 1) f0.type [.int .u8 k] = some [.int .u8 k] := by simp [Program.keyLits, t0, h0]
  have e1 : P.keyLits (n + 1) f1.type [.int .i64 a] = some [.int .i64 a] := by simp [Program.keyLits, t1, h1]
  have e2 : P.keyLits (n + 1) f2.type [.int .i64 b] = some [.int .i64 b] := by simp [Program.keyLits, t2, h2]
  have e3 : P.keyLits (n + 1) f3.type [.int .i64 c] = some [.int .i64 c] := by simp [Program.keyLits, t3, h3]
  have e : P.keyLits (n + 1 + 1) T [.int .u8 k, .int .i64 a, .int .i64 b, .int .i64 c] = some [.int .u8 k, .int .i64 a, .int .i64 b, .int .i64 c] := by
    unfold Program.keyLits
    rw [hu]
    simp only [hc, hn]
    simp [o0, o1, o2, o3, c0, c1, c2, c3, e0, e1, e2, e3]
  unfold keyOf
  rw [hu]
  simp only [hk, hn', Value.formed, hu, hc, Value.cells, e]
  exact ⟨_, rfl⟩
theorem cellsA : Try.prog.cellsOf 70 = 4 := by kernel_rfl
theorem cells8 : Try.prog.cellsOf 5 = 1 := by kernel_rfl
theorem cells64 : Try.prog.cellsOf 3 = 1 := by kernel_rfl
set_option maxRecDepth 100000 in
theorem keyA (x : At4) (h : WfA x) : ∃ kl, keyOf Try.prog 70 (av x) = some kl := by
  obtain ⟨k, a, b, c⟩ := x
  exact key_gen Try.underlying70 keyT cellsA sizeP (by decide +kernel) rfl rfl rfl rfl cells8 cells64 cells64 cells64 Try.underlying5 Try.underlying3 Try.underlying3 Try.underlying3 k a b c h.1 h.2.1 h.2.2.1 h.2.2.2

/-! ### the number of an atom among others -/
def findF : List At4 → At4 → Nat
  | [], _ => 0
  | y :: l, x => if y = x then 1 else match findF l x with
    | 0 => 0
    | n + 1 => n + 2
theorem find_zero : ∀ (l : List At4) (x : At4), findF l x = 0 ↔ x ∉ l
  | [], x => by simp [findF]
  | y :: l, x => by
    unfold findF
    by_cases h : y = x
    · simp [h]
    · rw [if_neg h]
      have := find_zero l x
      cases e : findF l x with
      | zero => rw [e] at this; simp at this; simp [this, Ne.symm h]
      | succ n => rw [e] at this; simp at this; simp [this]
theorem find_hit : ∀ (l : List At4) (x : At4) (i : Nat), l[i]? = some x → x ∉ l.take i → findF l x = i + 1
  | [], x, i, h, _ => by simp at h
  | y :: l, x, 0, h, _ => by
    simp at h; subst h; simp [findF]
  | y :: l, x, i + 1, h, hn => by
    simp at h hn
    unfold findF
    rw [if_neg (fun e => hn.1 e.symm), find_hit l x i h hn.2]
theorem find_get : ∀ (l : List At4) (x : At4) (n : Nat), findF l x = n + 1 → l[n]? = some x
  | [], x, n, h => by simp [findF] at h
  | y :: l, x, n, h => by
    unfold findF at h
    by_cases e : y = x
    · rw [if_pos e] at h
      obtain rfl : n = 0 := by omega
      simp [e]
    · rw [if_neg e] at h
      cases e2 : findF l x with
      | zero => rw [e2] at h; simp at h
      | succ m =>
        rw [e2] at h
        obtain rfl : n = m + 1 := by simp at h; omega
        simpa using find_get l x m e2
theorem find_new : ∀ (l : List At4) (x : At4), findF l x = 0 → findF (l ++ [x]) x = l.length + 1
  | [], x, _ => by simp [findF]
  | y :: l, x, h => by
    unfold findF at h
    by_cases e : y = x
    · rw [if_pos e] at h; cases h
    · rw [if_neg e] at h
      cases e2 : findF l x with
      | succ m => rw [e2] at h; simp at h
      | zero =>
        simp only [List.cons_append, findF]
        rw [if_neg e, find_new l x e2]; simp
theorem find_other : ∀ (l : List At4) (x y : At4), y ≠ x → findF (l ++ [y]) x = findF l x
  | [], x, y, h => by simp [findF, h]
  | z :: l, x, y, h => by
    simp only [List.cons_append, findF]
    rw [find_other l x y h]
theorem find_le (l : List At4) (x : At4) : findF l x ≤ l.length := by
  cases h : findF l x with
  | zero => omega
  | succ n =>
    have := find_get l x n h
    have := (List.getElem?_eq_some_iff.1 this).1
    omega

def flatA : List At4 → List Value
  | [] => []
  | x :: l => avs x ++ flatA l
theorem flatA_len : ∀ l : List At4, (flatA l).length = l.length * 4
  | [] => rfl
  | _ :: l => by simp [flatA, flatA_len l]; omega
theorem flatA_app : ∀ a b : List At4, flatA (a ++ b) = flatA a ++ flatA b
  | [], _ => rfl
  | _ :: a, b => by simp [flatA, flatA_app a b]
theorem flatA_at : ∀ (l : List At4) (i : Nat) (x : At4), l[i]? = some x → (flatA l)[i * 4]? = some (.int .u8 x.1) ∧ (flatA l)[i * 4 + 1]? = some (.int .i64 x.2.1) ∧ (flatA l)[i * 4 + 2]? = some (.int .i64 x.2.2.1) ∧ (flatA l)[i * 4 + 3]? = some (.int .i64 x.2.2.2)
  | [], i, x, h => by simp at h
  | y :: l, 0, x, h => by
    simp at h; subst h; simp [flatA, avs]
  | y :: l, i + 1, x, h => by
    have := flatA_at l i x (by simpa using h)
    rw [show (i + 1) * 4 = i * 4 + 4 by omega]
    simpa [flatA, avs] using this

/-! ### which blocks a call turns -/
structure Fr (S : Nat → Prop) (w w' : World) : Prop where
  os : w'.os = w.os
  tape : w'.tape = w.tape
  output : w'.output = w.output
  size : w.heap.size ≤ w'.heap.size
  block : ∀ k, k < w.heap.size → ¬ S k → w'.heap[k]? = w.heap[k]?
theorem Fr.of_below {w w' : World} (h : Below w.heap.size w w') (S : Nat → Prop) : Fr S w w' := ⟨h.os, h.tape, h.output, h.size, fun k hk _ => h.block k hk⟩
theorem Fr.below {S : Nat → Prop} {w w' : World} (h : Fr S w w') {B : Nat} (hB : B ≤ w.heap.size) (hS : ∀ k, S k → B ≤ k) : Below B w w' :=
  ⟨h.os, h.tape, h.output, h.size, fun k hk => h.block k (by omega) (fun hs => by have := hS k hs; omega)⟩
theorem Fr.trans {S S' T : Nat → Prop} {a b c : World} (h : Fr S a b) (k : Fr S' b c) (h1 : ∀ i, S i → T i) (h2 : ∀ i, i < a.heap.size → S' i → T i) : Fr T a c :=
  ⟨k.os.trans h.os, k.tape.trans h.tape, k.output.trans h.output, Nat.le_trans h.size k.size, fun i hi hT => (k.block i (Nat.lt_of_lt_of_le hi h.size) (fun hs => hT (h2 i hi hs))).trans (h.block i hi (fun hs => hT (h1 i hs)))⟩

set_option maxHeartbeats 2000000 in
set_option maxRecDepth 100000 in
/-- an atom that has its number. -/
theorem number_old {w : World} {tb n lim m : Nat} {kl : Lit} {row : Value} {f : Bool} {hp : Int} {D : DataW Unit} (k a b c : Int) (hk : keyOf Try.prog 70 (.agg #[.int .u8 k, .int .i64 a, .int .i64 b, .int .i64 c]) = some kl) (ht : w.heap[tb + 1]? = some (.cells #[.int .i64 lim, .map (some tb), row, .int .i64 hp, .bool f] 58 (0, 0))) (ho : Om w tb n D)
    (hD : D.atKey kl (.lit (.int .i64 0)) = .lit (.int .i64 ((m + 1 : Nat) : Int))) :
    Calls Try.prog 49 #[.pointer (some ⟨tb + 1, 0, none⟩), .agg #[.int .u8 k, .int .i64 a, .int .i64 b, .int .i64 c]] w fun e w' => e = .returned (.int .i64 ((m + 1 : Nat) : Int)) ∧ Below w.heap.size w w' := by
  have hlt : tb + 1 < w.heap.size := lt_of_block ht
  have hA : ∀ o, (w.alloc o).heap[tb + 1]? = some (.cells #[.int .i64 lim, .map (some tb), row, .int .i64 hp, .bool f] 58 (0, 0)) := fun o => (Below.heap_alloc _ _ _ hlt).trans ht
  have c1 : ∀ o, (w.alloc o).cell? ⟨tb + 1, 1, none⟩ = some (.map (some tb)) := fun o => blk_cell (hA o) rfl
  have HB := Lib.hid (fun o => (Below.refl w.heap.size w).alloc (Nat.le_refl _) o)
  have BXB := heap_alloc_new w (.cells #[.int .u8 k, .int .i64 a, .int .i64 b, .int .i64 c] 70)
  have b0 : (w.alloc (.cells #[.int .u8 k, .int .i64 a, .int .i64 b, .int .i64 c] 70)).cell? ⟨w.heap.size, 0, none⟩ = some (.int .u8 k) := blk_cell BXB rfl
  obtain ⟨cc, hrun, hat, hwc⟩ := ((ho.alloc (.cells #[.int .u8 k, .int .i64 a, .int .i64 b, .int .i64 c] 70)).drew).lookup_int law Try.underlying55 Try.underlying3 (zeroE _) hk
  rw [hD] at hat
  obtain rfl : cc = ((m + 1 : Nat) : Int) := by simpa using hat.symm
  have hne : (((m + 1 : Nat) : Int) != 0) = true := by rw [bne_iff_ne]; omega
  obtain ⟨z, hz⟩ : ∃ z : Int, z = ((m + 1 : Nat) : Int) := ⟨_, rfl⟩
  rw [← hz] at hrun hne ⊢
  clear hat hD hk hwc hz b0 BXB hA
  go_enter Try.func49, Try.ntmps49
  go_wp2_with fail
  go_region
  go_wp2_with fail
  go_ret
  exact ⟨rfl, ((HB.out _).drew)⟩

set_option maxHeartbeats 2000000 in
set_option maxRecDepth 100000 in
/-- a table that is full refuses. -/
theorem number_full {w : World} {tb n m lim cp : Nat} {kl : Lit} {A : Option Addr} {f : Bool} {hp : Int} {D : DataW Unit} (k a b c : Int) (hk : keyOf Try.prog 70 (.agg #[.int .u8 k, .int .i64 a, .int .i64 b, .int .i64 c]) = some kl) (ht : w.heap[tb + 1]? = some (.cells #[.int .i64 lim, .map (some tb), .slice A n cp, .int .i64 hp, .bool f] 58 (0, 0))) (ho : Om w tb m D)
    (hD : D.atKey kl (.lit (.int .i64 0)) = .lit (.int .i64 0)) (hl : lim ≤ n) :
    Calls Try.prog 49 #[.pointer (some ⟨tb + 1, 0, none⟩), .agg #[.int .u8 k, .int .i64 a, .int .i64 b, .int .i64 c]] w fun e w' => e = .returned (.int .i64 0) ∧ w'.heap[tb + 1]? = some (.cells #[.int .i64 lim, .map (some tb), .slice A n cp, .int .i64 hp, .bool true] 58 (0, 0)) ∧ Om w' tb m D ∧ Fr (fun i => i = tb + 1) w w' := by
  have hlt : tb + 1 < w.heap.size := lt_of_block ht
  have hA : ∀ o, (w.alloc o).heap[tb + 1]? = some (.cells #[.int .i64 lim, .map (some tb), .slice A n cp, .int .i64 hp, .bool f] 58 (0, 0)) := fun o => (Below.heap_alloc _ _ _ hlt).trans ht
  have c0 : ∀ o, (w.alloc o).cell? ⟨tb + 1, 0, none⟩ = some (.int .i64 lim) := fun o => blk_cell (hA o) rfl
  have c1 : ∀ o, (w.alloc o).cell? ⟨tb + 1, 1, none⟩ = some (.map (some tb)) := fun o => blk_cell (hA o) rfl
  have c2 : ∀ o, (w.alloc o).cell? ⟨tb + 1, 2, none⟩ = some (.slice A n cp) := fun o => blk_cell (hA o) rfl
  have c4 : ∀ o, (w.alloc o).cell? ⟨tb + 1, 4, none⟩ = some (.bool f) := fun o => blk_cell (hA o) rfl
  have f4 : ∀ o, (w.alloc o).frozen? ⟨tb + 1, 4, none⟩ = false := fun o => blk_free _ (hA o)
  have END : Hid (((w.setCell ⟨tb + 1, 4, none⟩ (.bool true)).alloc (.cells #[.int .u8 k, .int .i64 a, .int .i64 b, .int .i64 c] 70)).heap[tb + 1]? = some (.cells #[.int .i64 lim, .map (some tb), .slice A n cp, .int .i64 hp, .bool true] 58 (0, 0)) ∧ Om ((w.setCell ⟨tb + 1, 4, none⟩ (.bool true)).alloc (.cells #[.int .u8 k, .int .i64 a, .int .i64 b, .int .i64 c] 70)) tb m D ∧ Fr (fun i => i = tb + 1) w ((w.setCell ⟨tb + 1, 4, none⟩ (.bool true)).alloc (.cells #[.int .u8 k, .int .i64 a, .int .i64 b, .int .i64 c] 70))) := Lib.hid (by
    have g := grown_set w ⟨tb + 1, 4, none⟩ (.bool true)
    have hs := blk_set 4 (.bool true) ht
    refine ⟨(Below.heap_alloc _ _ _ (lt_of_block hs)).trans hs, (ho.kept g (by simp)).alloc _, ?_⟩
    have h1 := Fr.of_below ((Below.refl _ (w.setCell ⟨tb + 1, 4, none⟩ (.bool true))).alloc (Nat.le_refl _) (.cells #[.int .u8 k, .int .i64 a, .int .i64 b, .int .i64 c] 70)) (fun i => i = tb + 1)
    have h0 : Fr (fun i => i = tb + 1) w (w.setCell ⟨tb + 1, 4, none⟩ (.bool true)) := ⟨g.os, g.tape, g.output, g.size, fun i hi hne => g.block i hi (fun e => hne (by injection e))⟩
    exact h0.trans h1 (fun _ h => h) (fun _ _ h => h))
  obtain ⟨cc, hrun, hat, hwc⟩ := ((ho.alloc (.cells #[.int .u8 k, .int .i64 a, .int .i64 b, .int .i64 c] 70)).drew).lookup_int law Try.underlying55 Try.underlying3 (zeroE _) hk
  rw [hD] at hat
  obtain rfl : cc = 0 := by simpa using hat.symm
  have hl' : (lim : Int) ≤ (n : Int) := by omega
  clear hat hD hk hwc hA ho
  go_enter Try.func49, Try.ntmps49
  go_wp2_with fail
  go_region
  go_wp2_with fail
  go_region
  go_wp2_with fail
  go_ret
  exact ⟨rfl, END.out.1, END.out.2.1, ⟨END.out.2.2.os, END.out.2.2.tape, END.out.2.2.output, END.out.2.2.size, END.out.2.2.block⟩⟩

end Go.Proofs.Ytcjcnhnpjcgcmaa.Tbl
