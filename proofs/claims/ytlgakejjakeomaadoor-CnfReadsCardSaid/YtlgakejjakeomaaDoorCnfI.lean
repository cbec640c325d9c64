/- Clauses: a builder. -/
import Derived.Test.YtlgakejjakeomaaDoorCnfF
import Derived.Test.YtlgakejjakeomaaDoorCnfH
import Derived.Deep.AppendLies
import Derived.Laws.MakeOwn
import Derived.Laws.OwnMore
namespace Go.Proofs.YtlgakejjakeomaaDoor.Cnf
set_option linter.unusedVariables false
set_option linter.unusedSimpArgs false
open Go.RowKit Go.Lib
open Go.Proofs.YtlgakejjakeomaaDoor.Order (IRow ERow add_at)

/-- a builder's own memory: its cells, the row of its clauses, each clause's row. -/
structure Bd (B g : Nat) (A : Option Addr) (n c : Nat) (cs : List (List Int)) (VS : List Value) (bad full : Bool) (w : World) : Prop where
  blk : w.heap[g]? = some (.cells #[.slice A n c, .bool bad, .bool full] 87 (0, 0))
  gB : B ≤ g
  own : w.ownsRow B 73 1 (.slice A n c) n VS
  len : cs.length = n
  gown : (Value.slice A n c).ownBlock ≠ some g
  small : ∀ i, (cs.getD i []).length ≤ 100000
  each : ∀ i, i < n → ∃ V, VS[i]? = some V ∧ w.ownsRow B 3 1 V (cs.getD i []).length (rowV (cs.getD i [])) ∧ V.ownBlock ≠ some g ∧ ∀ k, V.ownBlock = some k → (Value.slice A n c).ownBlock ≠ some k
theorem keep_of {e : TypeId} {w w' : World} {base n : Nat} {v : Value} {xs : List Value} (h : w.ownsRow base e 1 v n xs) (hb : Below w.heap.size w w') : w'.ownsRow base e 1 v n xs := by
  have hlt := h.lt
  refine h.kept (row := none) ⟨hb.os, hb.tape, hb.output, hb.size, fun k hk _ => hb.block k (by omega)⟩ (by cases v.ownBlock <;> simp)
variable {B g n c : Nat} {A : Option Addr} {cs : List (List Int)} {VS : List Value} {bad full : Bool} {w w' w1 w2 : World}
theorem Bd.lt (h : Bd B g A n c cs VS bad full w) : g < w.heap.size ∧ B ≤ w.heap.size := by
  have := lt_of_block h.blk
  have := h.gB
  omega
theorem Bd.below (h : Bd B g A n c cs VS bad full w) (hb : Below w.heap.size w w') : Bd B g A n c cs VS bad full w' :=
  ⟨(hb.block g h.lt.1).trans h.blk, h.gB, keep_of h.own hb, h.len, h.gown, h.small, fun i hi => by
    obtain ⟨V, h1, h2, h3, h4⟩ := h.each i hi
    exact ⟨V, h1, keep_of h2 hb, h3, h4⟩⟩
theorem own_low {e : TypeId} {base base' n : Nat} {v : Value} {xs : List Value} (h : w.ownsRow base e 1 v n xs) (hb : base' ≤ base) : w.ownsRow base' e 1 v n xs := by
  refine ⟨h.1, ?_⟩
  rcases h.2 with h1 | ⟨g, cap, cur, h1, h2, h3⟩
  · exact .inl h1
  · exact .inr ⟨g, cap, cur, h1, by omega, h3⟩
theorem Bd.add {f : List Int} {v : Value} {g2 cap2 : Nat} (hfs : f.length ≤ 100000) (h : Bd B g A n c cs VS bad full w) (hb : Below w.heap.size w w1) (hv : w1.ownsRow w.heap.size 3 1 v f.length (rowV f))
    (hown : w2.ownsRow B 73 1 (.slice (some ⟨g2, 0, none⟩) (n + 1) cap2) (n + 1) (VS ++ [v])) (hgr : (w1.alloc (.cells #[v] 73)).grownBy w2 (Value.slice A n c).ownBlock)
    (hat : (Value.slice A n c).ownBlock = some g2 ∨ g2 = (w1.alloc (.cells #[v] 73)).heap.size) :
    Bd B g (some ⟨g2, 0, none⟩) (n + 1) cap2 (cs ++ [f]) (VS ++ [v]) bad full (w2.setCell ⟨g, 0, none⟩ (.slice (some ⟨g2, 0, none⟩) (n + 1) cap2)) ∧ Below B w (w2.setCell ⟨g, 0, none⟩ (.slice (some ⟨g2, 0, none⟩) (n + 1) cap2)) ∧
      (∀ k, k < w.heap.size → k ≠ g → (Value.slice A n c).ownBlock ≠ some k → (w2.setCell ⟨g, 0, none⟩ (.slice (some ⟨g2, 0, none⟩) (n + 1) cap2)).heap[k]? = w.heap[k]?) ∧ ∀ k, (Value.slice (some ⟨g2, 0, none⟩) (n + 1) cap2).ownBlock = some k → (Value.slice A n c).ownBlock = some k ∨ w.heap.size ≤ k := by
  have h1 := h.below hb
  obtain ⟨hg, hB⟩ := h.lt
  have sz1 := hb.size
  have sza : (w1.alloc (.cells #[v] 73)).heap.size = w1.heap.size + 1 := by simp
  have sz2 := hgr.size
  have kA : ∀ {e : TypeId} {base n' : Nat} {u : Value} {xs : List Value}, w1.ownsRow base e 1 u n' xs → (u.ownBlock = none ∨ u.ownBlock ≠ (Value.slice A n c).ownBlock) → w2.ownsRow base e 1 u n' xs := fun ho hne => (ho.alloc _).kept hgr hne
  have hrow : ∀ k, (Value.slice A n c).ownBlock = some k → B ≤ k ∧ k < w.heap.size := h.own.lt
  have hg2 : g2 ≠ g := by
    rcases hat with e | e
    · intro e2; subst e2; exact h.gown e
    · omega
  have hvlt := hv.lt
  have Vne : ∀ u : Value, (∀ k, u.ownBlock = some k → (Value.slice A n c).ownBlock ≠ some k) → (u.ownBlock = none ∨ u.ownBlock ≠ (Value.slice A n c).ownBlock) := fun u hu => by
    cases e : u.ownBlock with
    | none => exact .inl rfl
    | some k => exact .inr (fun e2 => hu k e e2.symm)
  refine ⟨⟨?_, h.gB, hown.kept (grown_set w2 ⟨g, 0, none⟩ _) (.inr (by simp [Value.ownBlock]; exact hg2)), by simp [h.len], by simp [Value.ownBlock]; exact hg2, fun i => ?_, fun i hi => ?_⟩, ?_, fun k hk hkg hka => ?_, fun k hk => ?_⟩
  · have hb2 : w2.heap[g]? = some (.cells #[.slice A n c, .bool bad, .bool full] 87 (0, 0)) := (hgr.block g (by omega) (fun e => h.gown e.symm)).trans ((Below.heap_alloc _ _ _ (by omega)).trans h1.blk)
    exact blk_set 0 _ hb2
  · rcases Nat.lt_or_ge i cs.length with h1 | h1
    · rw [List.getD_eq_getElem?_getD, List.getElem?_append_left h1, ← List.getD_eq_getElem?_getD]; exact h.small i
    · rw [List.getD_eq_getElem?_getD, List.getElem?_append_right h1]
      cases i - cs.length with
      | zero => simpa using hfs
      | succ j => simp
  · rcases Nat.lt_or_ge i n with hin | hin
    · obtain ⟨V, e1, e2, e3, e4⟩ := h1.each i hin
      have hvi : i < VS.length := (List.getElem?_eq_some_iff.1 e1).1
      refine ⟨V, by rw [List.getElem?_append_left hvi]; exact e1, ?_, e3, fun k hk e => ?_⟩
      · have e : (cs ++ [f]).getD i [] = cs.getD i [] := by
          rw [List.getD_eq_getElem?_getD, List.getElem?_append_left (by have := h.len; omega), ← List.getD_eq_getElem?_getD]
        rw [e]
        exact (kA e2 (Vne V e4)).kept (grown_set w2 ⟨g, 0, none⟩ _) (by cases e5 : V.ownBlock with
          | none => exact .inl rfl
          | some k => exact .inr (fun e6 => e3 (by rw [e5]; simpa using e6)))
      · have : g2 = k := by simpa [Value.ownBlock] using e
        rcases hat with e5 | e5
        · exact e4 k hk (by rw [e5, this])
        · have := (e2.lt k hk).2; omega
    · obtain rfl : i = n := by omega
      have hvl : VS.length = i := by have := h.own.1; simpa using this
      have vg : v.ownBlock ≠ some g := fun e => by have := (hvlt g e).1; omega
      have vr : ∀ k, v.ownBlock = some k → (Value.slice A i c).ownBlock ≠ some k := fun k hk e => by have := (hvlt k hk).1; have := (hrow k e).2; omega
      refine ⟨v, by rw [List.getElem?_append_right (by omega)]; simp [hvl], ?_, vg, fun k hk e => ?_⟩
      · have e : (cs ++ [f]).getD i [] = f := by
          rw [List.getD_eq_getElem?_getD, List.getElem?_append_right (by have := h.len; omega)]; simp [h.len]
        rw [e]
        exact (kA (own_low hv hB) (Vne v vr)).kept (grown_set w2 ⟨g, 0, none⟩ _) (by cases e5 : v.ownBlock with
          | none => exact .inl rfl
          | some k => exact .inr (fun e6 => vg (by rw [e5]; simpa using e6)))
      · have : g2 = k := by simpa [Value.ownBlock] using e
        rcases hat with e5 | e5
        · exact vr k hk (by rw [e5, this])
        · have := (hvlt k hk).2; omega
  · have b1 : Below B w w2 := (((hb.mono hB).alloc (by omega) _).grown hgr (by omega) (fun k e => (hrow k e).1))
    exact b1.setCell (p := ⟨g, 0, none⟩) h.gB _
  · exact (Below.heap_setCell _ _ _ _ (by simpa using hkg)).trans ((hgr.block k (by omega) (fun e => hka e.symm)).trans ((Below.heap_alloc _ _ _ (by omega)).trans (hb.block k hk)))
  · have e : g2 = k := by simpa [Value.ownBlock] using hk
    rcases hat with e5 | e5
    · left; rw [e5, e]
    · right; omega

theorem step_len {out o : List Int} {x : Int} (h : stepF out x = some o) : o.length ≤ out.length + 1 := by
  unfold stepF at h
  split at h
  · cases h
  split at h
  · cases h
  split at h
  · cases h; omega
  · cases h
    simp
    omega
theorem from_len : ∀ {l out f : List Int}, formFrom out l = some f → f.length ≤ out.length + l.length
  | [], out, f, h => by cases h; simp
  | x :: l, out, f, h => by
    rw [formFrom] at h
    cases e : stepF out x with
    | none => rw [e] at h; cases h
    | some o =>
      rw [e] at h
      have h1 := step_len e
      have h2 := from_len (l := l) (out := o) h
      simp
      omega
theorem form_len {l f : List Int} (h : formOf l = some f) : f.length ≤ l.length := by simpa using from_len h
theorem ints_info : ∃ i, Tryd.prog.info? 73 = some i ∧ i.zero = some (.slice none 0 0) ∧ i.size = 1 ∧ i.bytes = 24 := by
  obtain ⟨i, hi, hz⟩ := Option.map_eq_some_iff.1 (show (Tryd.prog.info? 73).map (fun i => (i.zero, i.size, i.bytes)) = some (some (.slice none 0 0), 1, 24) by kernel_rfl)
  simp only [Prod.mk.injEq] at hz
  exact ⟨i, hi, hz⟩

set_option maxHeartbeats 1000000 in
theorem new_any (w : World) : Calls Tryd.prog 24 #[] w fun e w' => e = .returned (.pointer (some ⟨w.heap.size, 0, none⟩)) ∧ Bd w.heap.size w.heap.size none 0 0 [] [] false false w' ∧ Below w.heap.size w w' := by
  go_enter Tryd.func24, Tryd.ntmps24
  go_wp2_with fail
  go_ret
  exact ⟨rfl, ⟨heap_alloc_new w _, Nat.le_refl _, World.ownsRow_nil _ _ _ _, rfl, by simp [Value.ownBlock], fun i => by simp, fun i hi => absurd hi (Nat.not_lt_zero _)⟩, (Below.refl _ _).alloc (Nat.le_refl _) _⟩

theorem one_news1 (w : World) (v : Value) : ∀ j u, [v][j]? = some u → (w.alloc (.cells #[v] 73)).cell? ((⟨w.heap.size, 0, none⟩ : Addr).add j) = some u := fun j u hj => by
  match j, hj with
  | 0, hj =>
    simp at hj; subst hj
    rw [add_at]
    exact blk_cell (j := 0) (heap_alloc_new w _) rfl

set_option maxHeartbeats 4000000 in
set_option maxRecDepth 100000 in
theorem add_any (D : Option Addr) (l f : List Int) (m d : Nat) (hbd : Bd B g A n c cs VS bad full w) (hn : n < 262144) (hl : IRow w w.heap.size D l) (hm : m = l.length) (hm8 : m ≤ 100000) (hr : RgL l) (hf : formOf l = some f) :
    Calls Tryd.prog 36 #[.pointer (some ⟨g, 0, none⟩), .slice D m d] w fun e w' => e = .returned (.tuple #[]) ∧ ∃ A' c' VS', Bd B g A' (n + 1) c' (cs ++ [f]) VS' bad full w' ∧ Below B w w' ∧
      (∀ k, k < w.heap.size → k ≠ g → (Value.slice A n c).ownBlock ≠ some k → w'.heap[k]? = w.heap[k]?) ∧ ∀ k, (Value.slice A' (n + 1) c').ownBlock = some k → (Value.slice A n c).ownBlock = some k ∨ w.heap.size ≤ k := by
  have z : (n : Int) < 262144 := by omega
  obtain ⟨i0, hi0, hz0, hz1, hz2⟩ := ints_info
  have HNN := Lib.hid hn
  have BD := Lib.hid hbd
  have HH : Hid (Calls Tryd.prog 49 #[.slice D m d] w fun e w' => e = .returned (.bool false) ∧ w = w') := Lib.hid (by
    have h := hasNone_any D l m d w hl hm (by unfold maxLen; omega)
    have e : hasNone l = false := by
      cases e : hasNone l with
      | false => rfl
      | true =>
        obtain ⟨x, hx, hnx⟩ := (hasNone_iff l).1 e
        rw [none_none hx hnx] at hf; cases hf
    rwa [e] at h)
  have FC := Lib.hid (formC_any D l m d w hl hm (by omega) hr)
  have FS : Hid (f.length ≤ 100000) := Lib.hid (by have := form_len hf; omega)
  have FF := Lib.hid hf
  clear hbd hl hm hm8 hr hf hn
  go_enter Tryd.func36, Tryd.ntmps36
  generalize (262144 : Int) = K at z ⊢
  go_wp2_with fail
  refine HH.out.mono ?_
  rintro e w' ⟨rfl, rfl⟩
  go_wp2_with fail
  refine FC.out.mono ?_
  rintro e w1 ⟨v, b, rfl, hfo, hb1⟩
  have OV : Hid (b = true ∧ w1.ownsRow w.heap.size 3 1 v f.length (rowV f)) := Lib.hid (by
    rcases hfo with ⟨h1, _⟩ | ⟨f', h1, h2, h3⟩
    · rw [FF.out] at h1; cases h1
    · rw [FF.out] at h1; cases h1; exact ⟨h2, h3⟩)
  obtain rfl := OV.out.1
  have B1 := Lib.hid hb1
  obtain ⟨A1, c1, rfl, -⟩ := own_irow OV.out.2
  have BD1 := Lib.hid (BD.out.below hb1)
  have q0 : w1.cell? ⟨g, 0, none⟩ = some (.slice A n c) := blk_cell BD1.out.blk rfl
  have q0' : (w1.alloc (.cells #[.slice A1 f.length c1] 73)).cell? ⟨g, 0, none⟩ = some (.slice A n c) := by
    refine blk_cell ((Below.heap_alloc _ _ _ BD1.out.lt.1).trans BD1.out.blk) rfl
  clear hfo hb1 HH FC
  have OWN : Hid ((w1.alloc (.cells #[.slice A1 f.length c1] 73)).ownsRow B 73 1 (.slice A n c) n VS) := Lib.hid (BD1.out.own.alloc _)
  have NEWS := Lib.hid (one_news1 w1 (.slice A1 f.length c1))
  have ONE : Hid (∀ u ∈ [Value.slice A1 f.length c1], u.oneCell' = true) := Lib.hid (fun u hu => by simp at hu; subst hu; rfl)
  have H63 : Hid (n + 1 ≤ maxLen) := Lib.hid (by unfold maxLen; have := HNN.out; omega)
  have HBY : Hid ((n + 1) * 24 ≤ 140737488355328) := Lib.hid (by have := HNN.out; omega)
  have BS : Hid (B ≤ (w1.alloc (.cells #[.slice A1 f.length c1] 73)).heap.size) := Lib.hid (by have := BD1.out.lt; simp; omega)
  go_wp2_with (at_builtin; refine wpList_append_lies _ rfl (.tmp 33) (.tmp 35) 45 rfl B 73 i0 _ 1 24 Tryd.underlying45 hi0 hz0 hz1 hz2 rfl (by decide) _ _ _ rfl OWN.out ⟨w1.heap.size, 0, none⟩ 1 1 [.slice A1 f.length c1] rfl rfl NEWS.out ONE.out (Nat.lt_succ_self 0) H63.out HBY.out BS.out _ rfl ?_; intro g2 cap2 w2 hown hgrow hat _; have RES := Lib.hid (BD.out.add FS.out B1.out OV.out.2 hown hgrow hat); have cz : w2.cell? ⟨g, 0, none⟩ = some (.slice A n c) := (World.cell?_of_block (a := ⟨g, 0, none⟩) (hgrow.block g (by have := BD1.out.lt; simp; omega) (fun e => BD.out.gown e.symm))).trans q0'; have fz : w2.frozen? ⟨g, 0, none⟩ = false := (World.frozen?_of_block (a := ⟨g, 0, none⟩) (hgrow.block g (by have := BD1.out.lt; simp; omega) (fun e => BD.out.gown e.symm))).trans ((World.frozen?_of_block (a := ⟨g, 0, none⟩) (Below.heap_alloc _ _ _ BD1.out.lt.1)).trans (blk_free 0 BD1.out.blk)); clear hown hgrow hat)
  go_end0
  exact ⟨rfl, _, _, _, RES.out⟩

end Go.Proofs.YtlgakejjakeomaaDoor.Cnf
