/- The table of atoms, as one: what each call does to it. -/
import Derived.Test.YtcjcnhnpjcgcmaaTblB
namespace Go.Proofs.Ytcjcnhnpjcgcmaa.Tbl
set_option linter.unusedVariables false
set_option linter.unusedSimpArgs false
open Go.RowKit Go.Maps
open Go.Proofs.Ytcjcnhnpjcgcmaa.Tot (lay rowA wideA deepA law zeroE info_atom Om)

/-- a map's datum tells each atom's number among l. -/
def Tells (D : DataW Unit) (l : List At4) : Prop := (∃ es, D = .map es) ∧ ∀ x kl, keyOf Try.prog 70 (av x) = some kl → D.atKey kl (.lit (.int .i64 0)) = .lit (.int .i64 (findF l x : Nat))
/-- block tb a map, the next one a table of at most lim, that has the atoms l. -/
structure TS (base tb lim : Nat) (hp : Int) (f : Bool) (A : Option Addr) (cp : Nat) (l : List At4) (w : World) : Prop where
  tab : w.heap[tb + 1]? = some (.cells #[.int .i64 lim, .map (some tb), .slice A l.length cp, .int .i64 hp, .bool f] 58 (0, 0))
  om : ∃ D, Om w tb l.length D ∧ Tells D l
  own : w.ownsRow base 70 4 (.slice A l.length cp) l.length (flatA l)
abbrev blkOf (A : Option Addr) (n cp : Nat) : Option Nat := (Value.slice A n cp).ownBlock
theorem blkOf_eq (A : Option Addr) (n cp n' cp' : Nat) : blkOf A n cp = blkOf A n' cp' := by cases A <;> rfl
theorem own_not_map {w : World} {base tb m n cp : Nat} {A : Option Addr} {xs : List Value} {D : DataW Unit} (h : w.ownsRow base 70 4 (.slice A n cp) n xs) (ho : Om w tb m D) : some tb ≠ blkOf A n cp := by
  rcases h.2 with ⟨hv, _⟩ | ⟨g, cap, cur, hv, _, hh, _⟩
  · injection hv with hA _ _; subst hA; simp [Value.ownBlock]
  · injection hv with hA _ _
    subst hA
    intro e
    simp only [Value.ownBlock, Option.some.injEq] at e
    subst e
    obtain ⟨es, clock, hb, _⟩ := ho
    rw [hb] at hh
    cases hh
theorem own_not_tab {w : World} {base tb n cp : Nat} {A : Option Addr} {xs : List Value} {cs : Array Value} (h : w.ownsRow base 70 4 (.slice A n cp) n xs) (ht : w.heap[tb + 1]? = some (.cells cs 58 (0, 0))) : some (tb + 1) ≠ blkOf A n cp := by
  rcases h.2 with ⟨hv, _⟩ | ⟨g, cap, cur, hv, _, hh, _⟩
  · injection hv with hA _ _; subst hA; simp [Value.ownBlock]
  · injection hv with hA _ _
    subst hA
    intro e
    simp only [Value.ownBlock, Option.some.injEq] at e
    subst e
    rw [ht] at hh
    injection hh with hh
    injection hh with _ hh _
    cases hh
theorem TS.ne0 {base tb lim cp : Nat} {hp : Int} {f : Bool} {A : Option Addr} {l : List At4} {w : World} (h : TS base tb lim hp f A cp l w) : some tb ≠ blkOf A l.length cp := by
  obtain ⟨D, ho, _⟩ := h.om
  exact own_not_map h.own ho
theorem TS.ne1 {base tb lim cp : Nat} {hp : Int} {f : Bool} {A : Option Addr} {l : List At4} {w : World} (h : TS base tb lim hp f A cp l w) : some (tb + 1) ≠ blkOf A l.length cp := own_not_tab h.own h.tab
theorem own_fr {w w' : World} {base n cp : Nat} {A : Option Addr} {xs : List Value} {S : Nat → Prop} (h : w.ownsRow base 70 4 (.slice A n cp) n xs) (hf : Fr S w w') (h2 : ∀ i, blkOf A n cp = some i → ¬ S i) : w'.ownsRow base 70 4 (.slice A n cp) n xs := by
  refine ⟨h.1, ?_⟩
  rcases h.2 with hv | ⟨g, cap, cur, hv, hb, hh, hr⟩
  · exact .inl hv
  · refine .inr ⟨g, cap, cur, hv, hb, ?_, hr⟩
    injection hv with hA _ _
    exact (hf.block g (lt_of_block hh) (h2 g (by rw [hA]; rfl))).trans hh
theorem TS.keep {base tb lim cp : Nat} {hp : Int} {f : Bool} {A : Option Addr} {l : List At4} {w w' : World} (h : TS base tb lim hp f A cp l w) {S : Nat → Prop} (hf : Fr S w w') (h0 : ¬ S tb) (h1 : ¬ S (tb + 1)) (h2 : ∀ i, blkOf A l.length cp = some i → ¬ S i) : TS base tb lim hp f A cp l w' := by
  have hlt := lt_of_block h.tab
  refine ⟨(hf.block _ hlt h1).trans h.tab, ?_, own_fr h.own hf h2⟩
  obtain ⟨D, ⟨es, clock, hb, F, hs, hD⟩, ht⟩ := h.om
  exact ⟨D, ⟨es, clock, (hf.block _ (by omega) h0).trans hb, F, hs, hD⟩, ht⟩
theorem TS.below {base tb lim cp : Nat} {hp : Int} {f : Bool} {A : Option Addr} {l : List At4} {w w' : World} (h : TS base tb lim hp f A cp l w) (hb : Below w.heap.size w w') : TS base tb lim hp f A cp l w' :=
  h.keep (Fr.of_below hb (fun _ => False)) (fun x => x) (fun x => x) (fun _ _ x => x)

def addF (lim : Nat) (l : List At4) (x : At4) : List At4 := if findF l x = 0 ∧ l.length < lim then l ++ [x] else l
theorem addF_find (lim : Nat) (l : List At4) (x : At4) (h : findF l x ≠ 0) : addF lim l x = l := by unfold addF; rw [if_neg (fun e => h e.1)]
theorem addF_full (lim : Nat) (l : List At4) (x : At4) (h : lim ≤ l.length) : addF lim l x = l := by unfold addF; rw [if_neg (fun e => by omega)]
theorem addF_new (lim : Nat) (l : List At4) (x : At4) (h : findF l x = 0) (hl : l.length < lim) : addF lim l x = l ++ [x] := by unfold addF; rw [if_pos ⟨h, hl⟩]

set_option maxRecDepth 100000 in
theorem tells_put {D : DataW Unit} {l : List At4} {x : At4} {kl : Lit} (h : Tells D l) (hk : keyOf Try.prog 70 (av x) = some kl) (hx : findF l x = 0) : Tells (D.put kl (.lit (.int .i64 ((l.length + 1 : Nat) : Int)))) (l ++ [x]) := by
  obtain ⟨⟨es, rfl⟩, ht⟩ := h
  refine ⟨⟨_, rfl⟩, fun y kl' hk' => ?_⟩
  by_cases e : x = y
  · subst e
    rw [hk] at hk'
    injection hk' with hk'
    subst hk'
    rw [atKey_put_same ⟨_, rfl⟩ (law.key hk), find_new l x hx]
  · have hne : kl' ≠ kl := fun e2 => by
      subst e2
      have := law.inj hk hk'
      injection this with this
      apply e
      obtain ⟨k, a, b, c⟩ := x
      obtain ⟨k2, a2, b2, c2⟩ := y
      simp at this
      obtain ⟨h0, h1, h2, h3⟩ := this
      rw [h0, h1, h2, h3]
    rw [atKey_put_other hne, find_other l y x e]
    exact ht y kl' hk'

/-- what a call of Number leaves. -/
def NumEnd (base tb lim cp : Nat) (hp : Int) (f : Bool) (A : Option Addr) (l : List At4) (x : At4) (w : World) (e : Ending) (w' : World) : Prop :=
  e = .returned (.int .i64 (findF (addF lim l x) x : Nat)) ∧ ∃ f' A' cp', TS base tb lim hp f' A' cp' (addF lim l x) w' ∧ Fr (fun i => i = tb ∨ i = tb + 1 ∨ blkOf A l.length cp = some i) w w' ∧
    (blkOf A' (addF lim l x).length cp' = blkOf A l.length cp ∨ ∃ g, blkOf A' (addF lim l x).length cp' = some g ∧ w.heap.size ≤ g) ∧ f' = (if findF l x = 0 ∧ lim ≤ l.length then true else f)

set_option maxRecDepth 100000 in
theorem number_any {base tb lim cp : Nat} {hp : Int} {f : Bool} {A : Option Addr} {l : List At4} {w : World} (h : TS base tb lim hp f A cp l w) (x : At4) (hx : WfA x) (hn : l.length ≤ 1000) (hbase : base ≤ w.heap.size) :
    Calls Try.prog 49 #[.pointer (some ⟨tb + 1, 0, none⟩), av x] w (NumEnd base tb lim cp hp f A l x w) := by
  obtain ⟨kl, hk⟩ := keyA x hx
  obtain ⟨D, ho, htl⟩ := h.om
  have hD := htl.2 x kl hk
  cases hf : findF l x with
  | succ m =>
    rw [hf] at hD
    have e1 := addF_find lim l x (by omega)
    refine (number_old x.1 x.2.1 x.2.2.1 x.2.2.2 hk h.tab ho hD).mono fun e w' ⟨he, hb⟩ => ?_
    refine ⟨by rw [e1, hf]; exact he, f, A, cp, by rw [e1]; exact h.below hb, Fr.of_below hb _, .inl (by rw [e1]), by rw [if_neg (fun h => by omega)]⟩
  | zero =>
    rw [hf] at hD
    rcases Nat.lt_or_ge l.length lim with hl | hl
    · have e1 := addF_new lim l x hf hl
      refine (number_new x.1 x.2.1 x.2.2.1 x.2.2.2 hk h.tab ho h.own hD hl hn h.ne0 h.ne1 hbase).mono fun e w' ⟨he, g, cap, ht, hom, hown, hfr, hg⟩ => ?_
      have hlen : (l ++ [x]).length = l.length + 1 := by simp
      refine ⟨by rw [e1, find_new l x hf]; exact he, f, some ⟨g, 0, none⟩, cap, ?_, hfr, ?_, by rw [if_neg (fun h => by omega)]⟩
      · rw [e1]
        refine ⟨by rw [hlen]; exact ht, ⟨_, by rw [hlen]; exact hom, tells_put htl hk hf⟩, ?_⟩
        rw [hlen, flatA_app]
        exact hown
      · rcases hg with hg | hg
        · exact .inl (by rw [show blkOf A l.length cp = some g from hg]; rfl)
        · exact .inr ⟨g, rfl, hg⟩
    · have e1 := addF_full lim l x hl
      refine (number_full x.1 x.2.1 x.2.2.1 x.2.2.2 hk h.tab ho hD hl).mono fun e w' ⟨he, ht, hom, hfr⟩ => ?_
      refine ⟨by rw [e1, hf]; exact he, true, A, cp, ?_, ⟨hfr.os, hfr.tape, hfr.output, hfr.size, fun i hi hn => hfr.block i hi (fun e => hn (.inr (.inl e)))⟩, .inl (by rw [e1]), by rw [if_pos ⟨hf, hl⟩]⟩
      rw [e1]
      exact ⟨ht, ⟨D, hom, htl⟩, own_fr h.own hfr (fun i hi e => h.ne1 (by rw [hi, e]))⟩

set_option maxHeartbeats 400000 in
theorem len_any {base tb lim cp : Nat} {hp : Int} {f : Bool} {A : Option Addr} {l : List At4} {w : World} (h : TS base tb lim hp f A cp l w) :
    Calls Try.prog 23 #[.pointer (some ⟨tb + 1, 0, none⟩)] w fun e w' => e = .returned (.int .i64 (l.length : Nat)) ∧ w = w' := by
  have ht := h.tab
  obtain ⟨n, hn⟩ : ∃ n, n = l.length := ⟨_, rfl⟩
  rw [← hn] at ht ⊢
  have c2 : w.cell? ⟨tb + 1, 2, none⟩ = some (.slice A n cp) := blk_cell ht rfl
  clear ht hn h
  go_enter Try.func23, Try.ntmps23
  go_wp2_with fail
  go_ret
  exact ⟨rfl, rfl⟩

set_option maxHeartbeats 1000000 in
set_option maxRecDepth 100000 in
theorem new_any (lim : Nat) (hl : lim ≤ 5000) (w : World) (base : Nat) (hb : base ≤ w.heap.size) :
    Calls Try.prog 20 #[.int .i64 (lim : Nat)] w fun e w' => e = .returned (.pointer (some ⟨w.heap.size + 1, 0, none⟩)) ∧ TS base w.heap.size lim 0 false none 0 [] w' ∧ Below w.heap.size w w' := by
  have hmm := @run_makeMap Try.prog
  have h1 : max (lim : Int) 0 = (lim : Int) := by omega
  have h2 : min (lim : Int) 65536 = (lim : Int) := by omega
  have h3 : (lim : Int) ≤ 5000 := by omega
  clear hl
  go_enter Try.func20, Try.ntmps20
  go_wp2_with fail
  go_ret
  have hs : (w.alloc (.map #[] 0)).heap.size = w.heap.size + 1 := by simp
  refine ⟨rfl, ⟨?_, ⟨.map [], ?_, ⟨_, rfl⟩, fun x kl _ => rfl⟩, World.ownsRow_nil _ _ _ _⟩, ?_⟩
  · have h := MapKept.heap_alloc (w.alloc (.map #[] 0)) (.cells #[.int .i64 lim, .map (some w.heap.size), .slice none 0 0, .int .i64 0, .bool false] 58)
    rw [hs] at h
    exact h.1
  · exact (World.ownsMap_made _ _ _ _).alloc _
  · exact ((Below.refl _ _).alloc (Nat.le_refl _) _).alloc (by simp) _

end Go.Proofs.Ytcjcnhnpjcgcmaa.Tbl
