/- Recipes and requests: with less of them there is no problem where there was none. -/
import Derived.Test.YtccmgaibikiedaaDfB
namespace Go.Proofs.Ytccmgaibikiedaa.Dc
open Go.RowKit
set_option linter.unusedVariables false
set_option linter.unusedSimpArgs false
theorem firstN_zero {f : Nat → Nat × Int} {n : Nat} (h : (firstN f n).1 = 0) : ∀ j, j < n → (f j).1 = 0 := fun j hj => by
  cases e : (List.range n).find? (fun i => (f i).1 != 0) with
  | none =>
    rw [List.find?_range_eq_none] at e
    simpa using e j hj
  | some i =>
    unfold firstN at h
    rw [e] at h
    have := List.find?_some e
    simp at this
    exact absurd h this
theorem findG_map {α β : Type} (f : β → Bool) (g : α → β) : ∀ (l : List α) (k : Nat), findG (fun a => f (g a)) l k = findG f (l.map g) k
  | [], _ => rfl
  | a :: l, k => by
    rw [List.map_cons]
    unfold findG
    rw [findG_map f g l (k + 1)]
theorem provG_map {α β : Type} (f : β → Bool) (g : α → β) : ∀ (l : List α) (k : Nat), provG (fun a => f (g a)) l k = provG f (l.map g) k
  | [], _ => rfl
  | a :: l, k => by
    rw [List.map_cons]
    unfold provG
    rw [provG_map f g l (k + 1)]
abbrev Ky := ByteArray × List Vr × List ByteArray
def keyP (p : Pk) : Ky := (p.name, p.vars, p.provs)
def strip (p : Pk) : Pk := { p with confs := [], files := [] }
section
variable {x y : Rc} (hs : y.packs.map keyP = x.packs.map keyP)
include hs
theorem find_key (nm : ByteArray) : findF y.packs nm = findF x.packs nm := by
  have e : ∀ l : List Pk, findF l nm = findG (fun t : Ky => eqB t.1 nm) (l.map keyP) 0 := fun l => findG_map (fun t : Ky => eqB t.1 nm) keyP l 0
  rw [e, e, hs]
theorem prov_key (nm : ByteArray) : provF y.packs nm = provF x.packs nm := by
  have e : ∀ l : List Pk, provF l nm = provG (fun t : Ky => hasB t.2.2 nm) (l.map keyP) 0 := fun l => provG_map (fun t : Ky => hasB t.2.2 nm) keyP l 0
  rw [e, e, hs]
theorem vars_key (i : Nat) : varsAt y.packs i = varsAt x.packs i := by
  have e : ∀ l : List Pk, varsAt l i = (((l.map keyP)[i]?).map (fun t : Ky => t.2.1)).getD [] := fun l => by unfold varsAt; rw [List.getElem?_map, Option.map_map]; rfl
  rw [e, e, hs]
theorem provs_key (i : Nat) : provsAt y.packs i = provsAt x.packs i := by
  have e : ∀ l : List Pk, provsAt l i = (((l.map keyP)[i]?).map (fun t : Ky => t.2.2)).getD [] := fun l => by unfold provsAt; rw [List.getElem?_map, Option.map_map]; rfl
  rw [e, e, hs]
theorem virt_key (nm : ByteArray) : virtB y nm = virtB x nm := by unfold virtB; rw [find_key hs, prov_key hs]
theorem wish_key (s : Sp) : wishF y s = wishF x s := by unfold wishF; rw [find_key hs, vars_key hs, virt_key hs]
theorem with_key (s : Sp) : withF y s = withF x s := by unfold withF; rw [find_key hs, wish_key hs]
theorem ok_key (v nm : ByteArray) : okN y v nm = okN x v nm := by unfold okN; rw [find_key hs, provs_key hs]
end
theorem alone_zero {x : Rc} {i : Nat} {p : Pk} : aloneF x i p = 0 ↔ ¬ findF x.packs p.name < (i : Int) ∧ ¬ 0 < (provF x.packs p.name).length ∧ p.rels.length ≠ 0 ∧ manyB p = false ∧ dupB (versF p) = false ∧ Variant.mayL p.vars = true ∧ dupB p.provs = false ∧ dupB p.files = false := by
  unfold aloneF
  by_cases h1 : findF x.packs p.name < (i : Int)
  · rw [if_pos h1]; exact ⟨(fun h => by cases h), fun h => absurd h1 h.1⟩
  rw [if_neg h1]
  by_cases h2 : 0 < (provF x.packs p.name).length
  · rw [if_pos h2]; exact ⟨(fun h => by cases h), fun h => absurd h2 h.2.1⟩
  rw [if_neg h2]
  by_cases h3 : p.rels.length = 0
  · rw [if_pos h3]; exact ⟨(fun h => by cases h), fun h => absurd h3 h.2.2.1⟩
  rw [if_neg h3]
  cases h4 : manyB p
  case true => simp
  cases h5 : dupB (versF p)
  case true => simp
  cases h6 : Variant.mayL p.vars
  case false => simp
  cases h7 : dupB p.provs
  case true => simp
  cases h8 : dupB p.files
  case true => simp
  exact ⟨fun _ => ⟨h1, h2, h3, rfl, rfl, rfl, rfl, rfl⟩, fun _ => rfl⟩
theorem strip_many {p : Pk} (h : manyB p = false) : manyB (strip p) = false := by
  unfold manyB at h ⊢
  simp only [Bool.or_eq_false_iff, decide_eq_false_iff_not] at h ⊢
  simp only [strip, List.length_nil]
  omega
theorem alone_less {x y : Rc} {i : Nat} {p p' : Pk} (hs : y.packs.map keyP = x.packs.map keyP) (hp : p' = p ∨ p' = strip p) (h : aloneF x i p = 0) : aloneF y i p' = 0 := by
  rw [alone_zero] at h ⊢
  rw [find_key hs, prov_key hs]
  rcases hp with rfl | rfl
  · exact h
  · obtain ⟨h1, h2, h3, h4, h5, h6, h7, h8⟩ := h
    exact ⟨h1, h2, h3, strip_many h4, h5, h6, h7, rfl⟩
theorem rel_less {x y : Rc} {p p' : Pk} (hs : y.packs.map keyP = x.packs.map keyP) (hp : p' = p ∨ p' = strip p) (h : (relF x p).1 = 0) : relF y p' = (0, 0) := by
  have hd : (firstN (depF x p) p.deps.length).1 = 0 := by
    by_cases h1 : (firstN (depF x p) p.deps.length).1 = 0
    · exact h1
    · unfold relF at h; rw [if_neg h1] at h; exact h
  have hc : (firstN (confF x p) p.confs.length).1 = 0 := by
    unfold relF at h; rw [if_pos hd] at h; exact h
  have ed : ∀ j, depF y p j = depF x p j := fun j => by
    unfold depF depC
    simp only [wish_key hs]
  have ec : ∀ j, confF y p j = confF x p j := fun j => by
    unfold confF confC
    simp only [with_key hs]
  have z1 : firstN (depF y p) p.deps.length = (0, 0) := firstN_none fun j hj => by rw [ed]; exact firstN_zero hd j hj
  have z2 : firstN (confF y p) p.confs.length = (0, 0) := firstN_none fun j hj => by rw [ec]; exact firstN_zero hc j hj
  rcases hp with rfl | rfl
  · unfold relF; rw [z1, z2]; rfl
  · have e1 : depF y (strip p) = depF y p := rfl
    have e2 : firstN (confF y (strip p)) (strip p).confs.length = (0, 0) := firstN_none fun j hj => by simp [strip] at hj
    unfold relF
    rw [e1, show (strip p).deps = p.deps from rfl, z1, e2]
    rfl
theorem counts_less {x y : Rc} (h1 : y.packs.length = x.packs.length) (h2 : y.prefs.length ≤ x.prefs.length) (h : (countsF x).1 = 0) : countsF y = (0, 0) := by
  unfold countsF at h ⊢
  by_cases h24 : 24 < x.packs.length
  · rw [if_pos h24] at h; cases h
  rw [if_neg h24] at h
  by_cases h8 : 8 < x.prefs.length
  · rw [if_pos h8] at h; cases h
  rw [h1, if_neg h24, if_neg (by omega)]
theorem recF_less {x y : Rc} (hp : ∀ (i : Nat) (p' : Pk), y.packs[i]? = some p' → ∃ p, x.packs[i]? = some p ∧ (p' = p ∨ p' = strip p)) (hlen : y.packs.length = x.packs.length) (m : Nat) (hm : y.prefs = x.prefs.take m) (h : (recF x).1 = 0) : recF y = (0, 0) := by
  have hs : y.packs.map keyP = x.packs.map keyP := by
    refine List.ext_getElem? fun i => ?_
    rw [List.getElem?_map, List.getElem?_map]
    cases e : y.packs[i]? with
    | none =>
      have : x.packs[i]? = none := by rw [List.getElem?_eq_none_iff] at e ⊢; omega
      rw [this]
    | some p' =>
      obtain ⟨p, e2, hpp⟩ := hp i p' e
      rw [e2]
      rcases hpp with rfl | rfl <;> rfl
  have c0 : (countsF x).1 = 0 := by
    by_cases h1 : (countsF x).1 = 0
    · exact h1
    · unfold recF at h; rw [if_pos h1] at h; exact h
  unfold recF at h
  rw [if_neg (by rw [c0]; decide)] at h
  have c1 : (firstN (packF x) x.packs.length).1 = 0 := by
    by_cases h1 : (firstN (packF x) x.packs.length).1 = 0
    · exact h1
    · rw [if_pos h1] at h; exact h
  rw [if_neg (by rw [c1]; decide)] at h
  have c2 : (firstN (relsF x) x.packs.length).1 = 0 := by
    by_cases h1 : (firstN (relsF x) x.packs.length).1 = 0
    · exact h1
    · rw [if_pos h1] at h; exact h
  rw [if_neg (by rw [c2]; decide)] at h
  have z0 : countsF y = (0, 0) := counts_less hlen (by rw [hm, List.length_take]; omega) c0
  have z1 : firstN (packF y) y.packs.length = (0, 0) := firstN_none fun j hj => by
    obtain ⟨p, e, hpp⟩ := hp j _ (List.getElem?_eq_getElem hj)
    have hz := firstN_zero c1 j (by omega)
    unfold packF at hz ⊢
    rw [e] at hz
    rw [List.getElem?_eq_getElem hj]
    exact alone_less hs hpp hz
  have z2 : firstN (relsF y) y.packs.length = (0, 0) := firstN_none fun j hj => by
    obtain ⟨p, e, hpp⟩ := hp j _ (List.getElem?_eq_getElem hj)
    have hz := firstN_zero c2 j (by omega)
    unfold relsF at hz ⊢
    rw [e] at hz
    rw [List.getElem?_eq_getElem hj]
    show (relF y y.packs[j]).1 = 0
    rw [rel_less hs hpp hz]
  have z3 : firstN (prefF y) y.prefs.length = (0, 0) := firstN_none fun j hj => by
    have hjm : j < m ∧ j < x.prefs.length := by rw [hm, List.length_take] at hj; omega
    have hz := firstN_zero h j hjm.2
    have e : y.prefs[j]? = x.prefs[j]? := by rw [hm, List.getElem?_take, if_pos hjm.1]
    unfold prefF at hz ⊢
    rw [e]
    cases ef : x.prefs[j]? with
    | none => rfl
    | some f =>
      rw [ef] at hz
      have e3 : preferB y j f = preferB x j f := by
        unfold preferB
        rw [virt_key hs, hm, List.take_take, Nat.min_eq_left (Nat.le_of_lt hjm.1)]
        simp only [show okN y f.virt = okN x f.virt from funext (ok_key hs f.virt)]
      show (if preferB y j f = true then 0 else 10, f.line).1 = 0
      rw [e3]
      exact hz
  unfold recF
  rw [z0, z1, z2, z3]
  rfl
theorem req_less {x : Rc} {q : List Rt} {n : Nat} (hn : n < q.length) (h2 : 2 ≤ q.length) (h : (reqF x q).1 = 0) : reqF x (q.take n ++ q.drop (n + 1)) = (0, 0) := by
  unfold reqF at h
  rw [if_neg (by omega)] at h
  by_cases h8 : 8 < q.length
  · rw [if_pos h8] at h; cases h
  rw [if_neg h8] at h
  have hall : ∀ r ∈ q, wishF x r.spec = 0 := fun r hr => by
    obtain ⟨i, hi, rfl⟩ := List.getElem_of_mem hr
    have hz := firstN_zero h i hi
    unfold rootF at hz
    rw [List.getElem?_eq_getElem hi] at hz
    exact hz
  have hl : (q.take n ++ q.drop (n + 1)).length = q.length - 1 := by rw [List.length_append, List.length_take, List.length_drop]; omega
  unfold reqF
  rw [hl, if_neg (by omega), if_neg (by omega)]
  refine firstN_none fun j hj => ?_
  unfold rootF
  have hj' : j < (q.take n ++ q.drop (n + 1)).length := by omega
  rw [List.getElem?_eq_getElem hj']
  show wishF x _ = 0
  refine hall _ ?_
  have hm := List.getElem_mem hj'
  rw [List.mem_append] at hm
  rcases hm with hm | hm
  · exact List.mem_of_mem_take hm
  · exact List.mem_of_mem_drop hm

end Go.Proofs.Ytccmgaibikiedaa.Dc
