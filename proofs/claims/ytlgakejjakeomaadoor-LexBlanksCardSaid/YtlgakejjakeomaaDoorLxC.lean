/- Lines of words: a text's lines as lists, and rows of lines in memory. -/
import Derived.Test.YtlgakejjakeomaaDoorLxB
namespace Go.Proofs.YtlgakejjakeomaaDoor.Lx
set_option linter.unusedVariables false
set_option linter.unusedSimpArgs false
open Go.RowKit

/-- a word: its column and its text. -/
abbrev WdT := Nat × Bs
/-- a line: its number and its words. -/
abbrev LnT := Nat × List WdT
def wordsT (l : Bs) (ws : List Wp) : List WdT := ws.map fun p => (p.1 + 1, (l.drop p.1).take (p.2 - p.1))
def flatT (l : List WdT) : List Value := l.flatMap fun x => [.int .i64 (x.1 : Nat), .string ⟨x.2.toArray⟩]
theorem ba_eq {a b : ByteArray} (h : a.data.toList = b.data.toList) : a = b := by
  cases a; cases b
  congr 1
  exact Array.ext' h
theorem flatW_T (s : ByteArray) : ∀ ws : List Wp, flatW s ws = flatT (wordsT s.data.toList ws)
  | [] => rfl
  | p :: ws => by
    have e1 : flatW s (p :: ws) = vW s p ++ flatW s ws := by simp [flatW]
    have e2 : flatT (wordsT s.data.toList (p :: ws)) = [.int .i64 ((p.1 + 1 : Nat)), .string ⟨((s.data.toList.drop p.1).take (p.2 - p.1)).toArray⟩] ++ flatT (wordsT s.data.toList ws) := by simp [flatT, wordsT]
    rw [e1, e2, flatW_T s ws]
    congr 1
    unfold vW
    congr 3
    exact ba_eq (ext_list s p.1 p.2)
theorem flatT_len : ∀ l : List WdT, (flatT l).length = l.length * 2
  | [] => rfl
  | x :: l => by
    have e : flatT (x :: l) = [.int .i64 (x.1 : Nat), .string ⟨x.2.toArray⟩] ++ flatT l := by simp [flatT]
    rw [e, List.length_append, flatT_len l]
    simp; omega
/-- a line's words, the column where it is wrong, and what is. -/
def wordsF (most : Nat) (l : Bs) : List WdT × Nat × Nat := (wordsT l (runW most l 0 [] false false).1, (runW most l 0 [] false false).2.1, (runW most l 0 [] false false).2.2)
theorem words_f (s : ByteArray) (most : Nat) (w : World) (hs : s.size ≤ 100000) (hm : most ≤ 1000) : Calls Tryd.prog 19 #[.string s, .int .i64 (most : Nat)] w fun e w' =>
    ∃ A n c, e = .returned (.tuple #[.slice A n c, .int .i64 ((wordsF most s.data.toList).2.1 : Nat), .int .i64 ((wordsF most s.data.toList).2.2 : Nat)]) ∧ n = (wordsF most s.data.toList).1.length ∧
      w'.ownsRow w.heap.size 51 2 (.slice A n c) n (flatT (wordsF most s.data.toList).1) ∧ Below w.heap.size w w' := by
  refine (words_any s most w hs hm).mono ?_
  rintro e w' ⟨A, n, c, h1, h2, h3, h4⟩
  refine ⟨A, n, c, h1, ?_, ?_, h4⟩
  · rw [h2]; simp [wordsF, wordsT]
  · rw [flatW_T] at h3
    exact h3
/-- lines from a number on, behind others; or the place and what is wrong. -/
def runL : List Bs → Nat → List LnT → List LnT × (Nat × Nat) × Nat
  | [], _, acc => (acc, (0, 0), 0)
  | l :: r, n, acc =>
    if (wordsF (if acc.length = 2000 then 0 else 40) l).2.2 = 0 then runL r (n + 1) (if (wordsF (if acc.length = 2000 then 0 else 40) l).1 = [] then acc else acc ++ [(n + 1, (wordsF (if acc.length = 2000 then 0 else 40) l).1)])
    else ([], (n + 1, (wordsF (if acc.length = 2000 then 0 else 40) l).2.1), (wordsF (if acc.length = 2000 then 0 else 40) l).2.2)
def linesF (s : Bs) : List LnT × (Nat × Nat) × Nat := if 65536 < s.length then ([], (0, 0), 4) else runL (cutAt 10 s) 0 []

/-! ### rows of lines -/
structure RowsL (B : Nat) (A : Option Addr) (n c : Nat) (ls : List LnT) (VS : List Value) (w : World) : Prop where
  own : w.ownsRow B 37 2 (.slice A n c) n VS
  len : n = ls.length
  each : ∀ i, i < n → ∃ A' n' c', n' = (ls.getD i (0, [])).2.length ∧ VS[i * 2]? = some (.int .i64 ((ls.getD i (0, [])).1 : Nat)) ∧ VS[i * 2 + 1]? = some (.slice A' n' c') ∧ w.ownsRow B 51 2 (.slice A' n' c') n' (flatT (ls.getD i (0, [])).2)
variable {B n c : Nat} {A : Option Addr} {ls : List LnT} {VS : List Value} {w w' w1 w2 : World}
theorem RowsL.nil (B : Nat) (w : World) : RowsL B none 0 0 [] [] w := ⟨World.ownsRow_nil _ _ _ _, rfl, fun i hi => absurd hi (Nat.not_lt_zero _)⟩
theorem keep2 {e : TypeId} {base k n : Nat} {v : Value} {xs : List Value} (h : w.ownsRow base e k v n xs) (hb : Below w.heap.size w w') : w'.ownsRow base e k v n xs := by
  have hlt := h.lt
  refine h.kept (row := none) ⟨hb.os, hb.tape, hb.output, hb.size, fun k hk _ => hb.block k (by omega)⟩ (by cases v.ownBlock <;> simp)
theorem RowsL.below (h : RowsL B A n c ls VS w) (hb : Below w.heap.size w w') : RowsL B A n c ls VS w' :=
  ⟨keep2 h.own hb, h.len, fun i hi => by
    obtain ⟨A', n', c', h1, h2, h2', h3⟩ := h.each i hi
    exact ⟨A', n', c', h1, h2, h2', keep2 h3 hb⟩⟩
theorem kept_grown {e : TypeId} {base k n : Nat} {v : Value} {xs : List Value} {b : Nat} (h : w.ownsRow base e k v n xs) (hg : w.grownBy w' (some b)) (hb : b < base) : w'.ownsRow base e k v n xs := by
  refine h.kept hg ?_
  cases hv : v.ownBlock with
  | none => exact .inl rfl
  | some q =>
    right
    have := (h.lt q hv).1
    simp
    omega
/-- a box below is turned. -/
theorem RowsL.box (h : RowsL B A n c ls VS w) {b : Nat} (hg : w.grownBy w' (some b)) (hb : b < B) : RowsL B A n c ls VS w' :=
  ⟨kept_grown h.own hg hb, h.len, fun i hi => by
    obtain ⟨A', n', c', h1, h2, h2', h3⟩ := h.each i hi
    exact ⟨A', n', c', h1, h2, h2', kept_grown h3 hg hb⟩⟩
theorem blk_ne2 {B1 B2 k1 k2 n1 n2 : Nat} {v1 v2 : Value} {x1 x2 : List Value} {e1 e2 : TypeId} (h1 : w.ownsRow B1 e1 k1 v1 n1 x1) (h2 : w.ownsRow B2 e2 k2 v2 n2 x2) (he : e1 ≠ e2) : v1.ownBlock = none ∨ v1.ownBlock ≠ v2.ownBlock := by
  rcases h1.2 with ⟨rfl, _⟩ | ⟨g1, c1, cur1, rfl, _, hh1, _⟩
  · exact .inl rfl
  · refine .inr (fun e => ?_)
    rcases h2.2 with ⟨rfl, _⟩ | ⟨g2, c2, cur2, rfl, _, hh2, _⟩
    · cases e
    · simp only [Value.ownBlock, Option.some.injEq] at e
      subst e
      rw [hh1] at hh2
      injection hh2 with hh2
      injection hh2 with _ hh2 _
      exact he hh2
theorem RowsL.add {at' n1 : Nat} {ws : List WdT} {A1 : Option Addr} {c1 g2 cap2 : Nat} (h : RowsL B A n c ls VS w) (hl : w.ownsRow B 51 2 (.slice A1 n1 c1) n1 (flatT ws)) (hn1 : n1 = ws.length)
    (hown : w2.ownsRow B 37 2 (.slice (some ⟨g2, 0, none⟩) (n + 1) cap2) (n + 1) (VS ++ [.int .i64 (at' : Nat), .slice A1 n1 c1])) (hgr : (w.alloc (.cells #[.int .i64 (at' : Nat), .slice A1 n1 c1] 37)).grownBy w2 (Value.slice A n c).ownBlock) :
    RowsL B (some ⟨g2, 0, none⟩) (n + 1) cap2 (ls ++ [(at', ws)]) (VS ++ [.int .i64 (at' : Nat), .slice A1 n1 c1]) w2 := by
  have kA : ∀ {n' : Nat} {u : Value} {xs : List Value}, w.ownsRow B 51 2 u n' xs → w2.ownsRow B 51 2 u n' xs := fun ho => (ho.alloc _).kept hgr (blk_ne2 ho h.own (by decide))
  have hVS : VS.length = n * 2 := h.own.1
  refine ⟨hown, by simp [h.len], fun i hi => ?_⟩
  rcases Nat.lt_or_ge i n with h1 | h1
  · obtain ⟨A', n', c', e1, e2, e2', e3⟩ := h.each i h1
    have e : (ls ++ [(at', ws)]).getD i (0, []) = ls.getD i (0, []) := by
      rw [List.getD_eq_getElem?_getD, List.getD_eq_getElem?_getD, List.getElem?_append_left (by rw [← h.len]; exact h1)]
    rw [e]
    exact ⟨A', n', c', e1, by rw [List.getElem?_append_left (by omega)]; exact e2, by rw [List.getElem?_append_left (by omega)]; exact e2', kA e3⟩
  · obtain rfl : i = n := by omega
    have e : (ls ++ [(at', ws)]).getD i (0, []) = (at', ws) := by
      rw [List.getD_eq_getElem?_getD, List.getElem?_append_right (by rw [← h.len]; exact Nat.le_refl _), ← h.len, Nat.sub_self]; rfl
    rw [e]
    refine ⟨A1, n1, c1, hn1, ?_, ?_, kA hl⟩
    · rw [List.getElem?_append_right (by omega), hVS, Nat.sub_self]; rfl
    · rw [List.getElem?_append_right (by omega), hVS, Nat.add_sub_cancel_left]; rfl
theorem RowsL.low (h : RowsL B A n c ls VS w) {b : Nat} (hb : b ≤ B) : RowsL b A n c ls VS w := by
  have lo : ∀ {e : TypeId} {k n : Nat} {v : Value} {xs : List Value}, w.ownsRow B e k v n xs → w.ownsRow b e k v n xs := fun h => by
    refine ⟨h.1, ?_⟩
    rcases h.2 with h1 | ⟨g, cap, cur, h1, h2, h3⟩
    · exact .inl h1
    · exact .inr ⟨g, cap, cur, h1, by omega, h3⟩
  refine ⟨lo h.own, h.len, fun i hi => ?_⟩
  obtain ⟨A', n', c', h1, h2, h2', h3⟩ := h.each i hi
  exact ⟨A', n', c', h1, h2, h2', lo h3⟩
theorem wordsF_len (most : Nat) (l : Bs) : (wordsF most l).1.length ≤ l.length := by
  have : ∀ (r : Bs) (i : Nat) (out : List Wp) (iw lf : Bool), out.length ≤ i → (runW most r i out iw lf).1.length ≤ i + r.length := by
    intro r
    induction r with
    | nil => intro i out iw lf h; simpa [runW] using h
    | cons ch r ih =>
      intro i out iw lf h
      unfold runW
      split
      · simp
      · split
        · have := ih (i + 1) out false (lf || ch.toNat == 35) (by omega)
          simp only [List.length_cons]; omega
        · split
          · have := ih (i + 1) (setLast out (i + 1)) true false (by simp [setLast]; omega)
            simp only [List.length_cons]; omega
          · split
            · simp
            · have := ih (i + 1) (out ++ [(i, i + 1)]) true false (by simp; omega)
              simp only [List.length_cons]; omega
  have h := this l 0 [] false false (Nat.le_refl _)
  simp [wordsF, wordsT]
  omega

end Go.Proofs.YtlgakejjakeomaaDoor.Lx
