/- Variants: the document's own answers over any row of variants: are they great, may they be, are settings of them. -/
import Derived.Test.YtbffcehaednefaaVariantG
import Derived.RegionTactic
namespace Go.Proofs.Ytbffcehaednefaa.Variant
set_option linter.unusedVariables false
set_option linter.unusedSimpArgs false
open Go.RowKit

theorem eqB_iff (a b : ByteArray) : eqB a b = true ↔ a = b := by
  unfold eqB
  rw [beq_iff_eq, Lib.toList_data, Lib.toList_data]
  constructor
  · intro h
    exact ByteArray.ext (Array.toList_inj.1 h)
  · rintro rfl; rfl
theorem eqB_refl (a : ByteArray) : eqB a a = true := (eqB_iff a a).2 rfl
theorem eqB_false (a b : ByteArray) : eqB a b = false ↔ a ≠ b := by
  rw [← Bool.not_eq_true, eqB_iff]
theorem contains_next (l : List ByteArray) (k : Nat) (x : ByteArray) (hk : k < l.length) (h : Lib.containsS (l.take k) x = false) (he : eqB (l.getD k ByteArray.empty) x = false) : Lib.containsS (l.take (k + 1)) x = false := by
  rw [← Bool.not_eq_true, Lib.containsS_iff] at h ⊢
  rw [eqB_false] at he
  rw [List.take_succ_eq_append_getElem hk, List.mem_append]
  have e : l[k] = l.getD k ByteArray.empty := by rw [List.getD_eq_getElem?_getD, List.getElem?_eq_getElem hk]; rfl
  rintro (h1 | h1)
  · exact h h1
  · rw [List.mem_singleton, e] at h1
    exact he h1.symm
theorem contains_hit (l : List ByteArray) (k n : Nat) (x : ByteArray) (hk : k < l.length) (hn : k < n) (he : eqB (l.getD k ByteArray.empty) x = true) : Lib.containsS (l.take n) x = true := by
  rw [Lib.containsS_iff]
  rw [eqB_iff] at he
  have e : l[k] = l.getD k ByteArray.empty := by rw [List.getD_eq_getElem?_getD, List.getElem?_eq_getElem hk]; rfl
  rw [← he, ← e]
  have h : k < (l.take n).length := by rw [List.length_take]; omega
  have h2 : (l.take n)[k] = l[k] := by simp
  rw [← h2]; exact List.getElem_mem _

/-! ### what is too great -/
def sumS (l : List ByteArray) : Nat := (l.map fun p => 1 + min p.size 9000).sum
def greatS (l : List ByteArray) : Bool := decide (9000 < sumS l)
theorem sumS_app (a b : List ByteArray) : sumS (a ++ b) = sumS a + sumS b := by unfold sumS; rw [List.map_append, List.sum_append]
theorem sum_next (l : List ByteArray) (k : Nat) (h : k < l.length) : sumS (l.take (k + 1)) = sumS (l.take k) + (1 + min (l.getD k ByteArray.empty).size 9000) := by
  have e : l.getD k ByteArray.empty = l[k] := by simp [List.getD_eq_getElem?_getD, List.getElem?_eq_getElem h]
  rw [List.take_succ_eq_append_getElem h, e, sumS_app]
  rfl
theorem sum_take (l : List ByteArray) (k : Nat) : sumS (l.take k) ≤ sumS l := by
  have h := sumS_app (l.take k) (l.drop k)
  rw [List.take_append_drop] at h
  omega

set_option maxHeartbeats 2000000 in
theorem rgreat_any (A : Option Addr) (l : List ByteArray) (n c : Nat) (w : World) {B : Nat} (h : SRow w B A l) (hn : n = l.length) (hm : n ≤ maxLen) :
    Calls Try.prog 46 #[.slice A n c] w fun e w' => e = .returned (.bool (greatS l)) ∧ w = w' := by
  have hn' : (n : Int) ≤ 9223372036854775807 := by unfold maxLen at hm; omega
  have HN := Lib.hid hn
  have H := Lib.hid h
  clear hn h hm
  go_enter Try.func46, Try.ntmps46
  go_wp2_with fail
  go_loopw [3, 4, 7] (fun c _ v wr => ∃ k m : Nat, v = .int .i64 k ∧ c = .int .i64 m ∧ k ≤ n ∧ k ≤ m ∧ m ≤ 9000 ∧ wr = w ∧ m = sumS (l.take k)) (fun _ _ v _ => n - (intOf v).toNat)
  case atStart => exact ⟨0, 0, rfl, rfl, Nat.zero_le _, Nat.le_refl _, by omega, rfl, rfl⟩
  case round =>
    obtain ⟨k, m, rfl, rfl, hk, hkm, hm, rfl, hall⟩ := hrel
    have HALL := Lib.hid hall
    clear hall
    by_cases hlt : k < n
    · have hlt' : (k : Int) < (n : Int) := by omega
      rcases H.out with h' | ⟨b, bo, rfl, hb, hcell⟩
      · exfalso; have := HN.out; rw [h'] at this; simp at this; omega
      · have hc := hcell k (by have := HN.out; omega)
        have NX := Lib.hid (sum_next l k (by rw [← HN.out]; exact hlt))
        have TK := Lib.hid (sum_take l (k + 1))
        obtain ⟨p, hp⟩ : ∃ p : ByteArray, p = l.getD k ByteArray.empty := ⟨_, rfl⟩
        rw [← hp] at hc NX
        clear hp hcell
        obtain ⟨t, ht⟩ : ∃ t : Nat, t = min p.size 9000 := ⟨_, rfl⟩
        have hmin : min (p.size : Int) 9000 = (t : Int) := by omega
        have ht9 : (t : Int) ≤ 9000 := by omega
        rw [← ht, ← HALL.out] at NX
        by_cases hbig : 9000 < m + (1 + t)
        · have hbig' : 9000 < (m : Int) + (1 + (t : Int)) := by omega
          have F : Hid (greatS l = true) := Lib.hid (decide_eq_true (by have := NX.out; have := TK.out; omega))
          clear hbig ht
          go_wp2_with fail
          go_ret
          exact ⟨ret_bool F.out.symm, rfl⟩
        · have hbig' : (m : Int) + (1 + (t : Int)) ≤ 9000 := by omega
          have e1 : ((m + (1 + t) : Nat) : Int) = (m : Int) + (1 + (t : Int)) := by omega
          have E1 := Lib.hid e1
          clear hbig ht e1
          go_wp2_with fail
          go_roundw
          case rel => exact ⟨k + 1, m + (1 + t), by go_num, by rw [E1.out], by omega, by omega, by omega, trivial, NX.out.symm⟩
          case measure => simp [intOf]; omega
    · obtain rfl : k = n := by omega
      have F : Hid (greatS l = false) := Lib.hid (decide_eq_false (by
        have h := HALL.out
        rw [HN.out, List.take_of_length_le (Nat.le_refl _)] at h
        omega))
      go_wp2_with fail
      go_ret
      exact ⟨ret_bool F.out.symm, rfl⟩

def gv (v : Vr) : Bool := decide (100 < v.1.size) || decide (20 < v.2.length) || greatS v.2
def greatV (L : List Vr) : Bool := decide (20 < L.length) || L.any gv
theorem any_next (p : Vr → Bool) (L : List Vr) (k : Nat) (hk : k < L.length) (h : (L.take k).any p = false) (he : p (L.getD k vr0) = false) : (L.take (k + 1)).any p = false := by
  rw [List.take_succ_eq_append_getElem hk, List.any_append, h]
  have : L[k] = L.getD k vr0 := by rw [List.getD_eq_getElem?_getD, List.getElem?_eq_getElem hk]; rfl
  rw [this]
  simp only [List.any_cons, List.any_nil, he]
  rfl
theorem any_hit (p : Vr → Bool) (L : List Vr) (k : Nat) (hk : k < L.length) (he : p (L.getD k vr0) = true) : L.any p = true := by
  rw [List.any_eq_true]
  have e : L[k] = L.getD k vr0 := by rw [List.getD_eq_getElem?_getD, List.getElem?_eq_getElem hk]; rfl
  exact ⟨L[k], List.getElem_mem _, by rw [e]; exact he⟩

set_option maxHeartbeats 2000000 in
theorem rgreatV_any (A : Option Addr) (L : List Vr) (n c : Nat) (w : World) (h : VRow w w.heap.size A L) (hn : n = L.length) :
    Calls Try.prog 16 #[.slice A n c] w fun e w' => e = .returned (.bool (greatV L)) ∧ w = w' := by
  have HN := Lib.hid hn
  have H := Lib.hid h
  clear hn h
  by_cases h20 : n ≤ 20
  · have z20 : (n : Int) ≤ 20 := by omega
    have GOOD : Hid (L.any gv = greatV L) := Lib.hid (by unfold greatV; rw [← HN.out, decide_eq_false (by omega : ¬ 20 < n)]; rfl)
    go_enter Try.func16, Try.ntmps16
    go_wp2_with fail
    go_loopw [3, 9] (fun _ v wr => ∃ k : Nat, v = .int .i64 k ∧ k ≤ n ∧ wr = w ∧ (L.take k).any gv = false) (fun _ v _ => n - (intOf v).toNat)
    case atStart => exact ⟨0, rfl, Nat.zero_le _, rfl, rfl⟩
    case round =>
      obtain ⟨k, rfl, hk, rfl, hall⟩ := hrel
      have HALL := Lib.hid hall
      clear hall
      by_cases hlt : k < n
      · have hlt' : (k : Int) < (n : Int) := by omega
        rcases H.out with h' | ⟨b, bo, rfl, hb, hcell⟩
        · exfalso; have := HN.out; rw [h'] at this; simp at this; omega
        · obtain ⟨A', n', c', e1, e2, e3, e4, e5, e6⟩ := hcell k (by have := HN.out; omega)
          have NX := Lib.hid (any_next gv L k (by rw [← HN.out]; exact hlt) HALL.out)
          have HT := Lib.hid (any_hit gv L k (by rw [← HN.out]; exact hlt))
          have G := Lib.hid (rgreat_any A' _ n' c' wr e4 e1 (by omega))
          have GV : Hid (gv (L.getD k vr0) = (decide (100 < (L.getD k vr0).1.size) || decide (20 < n') || greatS (L.getD k vr0).2)) := Lib.hid (by rw [e1]; rfl)
          obtain ⟨x, hx⟩ : ∃ x, x = (L.getD k vr0).1 := ⟨_, rfl⟩
          rw [← hx] at e5 GV
          clear hcell hx e1 e2 e3 e4
          by_cases h1 : 100 < x.size
          · have z1 : (100 : Int) < (x.size : Int) := by omega
            have F := Lib.hid (HT.out (by rw [GV.out, decide_eq_true h1]; rfl))
            clear h1
            go_wp2_with fail
            go_ret
            exact ⟨ret_bool (by rw [← GOOD.out, F.out]), rfl⟩
          · have z1 : (x.size : Int) ≤ 100 := by omega
            by_cases h2 : 20 < n'
            · have z2 : (20 : Int) < (n' : Int) := by omega
              have F := Lib.hid (HT.out (by rw [GV.out, decide_eq_true h2]; simp))
              clear h1 h2
              go_wp2_with fail
              go_ret
              exact ⟨ret_bool (by rw [← GOOD.out, F.out]), rfl⟩
            · have z2 : (n' : Int) ≤ 20 := by omega
              cases h3 : greatS (L.getD k vr0).2 with
              | true =>
                have F := Lib.hid (HT.out (by rw [GV.out, h3]; simp))
                rw [h3] at G
                clear h1 h2 h3
                go_wp2_with (go_at_call 46; refine G.out.mono ?_; rintro e w' ⟨rfl, rfl⟩)
                go_ret
                exact ⟨ret_bool (by rw [← GOOD.out, F.out]), rfl⟩
              | false =>
                have F := Lib.hid (NX.out (by rw [GV.out, h3, decide_eq_false h1, decide_eq_false h2]; rfl))
                rw [h3] at G
                clear h1 h2 h3
                go_wp2_with (go_at_call 46; refine G.out.mono ?_; rintro e w' ⟨rfl, rfl⟩)
                go_roundw
                case rel => exact ⟨k + 1, by go_num, by omega, trivial, F.out⟩
                case measure => simp [intOf]; omega
      · obtain rfl : k = n := by omega
        have F : Hid (greatV L = false) := Lib.hid (by
          rw [← GOOD.out]
          have h := HALL.out
          rwa [HN.out, List.take_of_length_le (Nat.le_refl _)] at h)
        go_wp2_with fail
        go_ret
        exact ⟨ret_bool F.out.symm, rfl⟩
  · have z20 : 20 < (n : Int) := by omega
    have F : Hid (greatV L = true) := Lib.hid (by unfold greatV; rw [← HN.out, decide_eq_true (by omega : 20 < n)]; rfl)
    go_enter Try.func16, Try.ntmps16
    go_wp2_with fail
    go_ret
    exact ⟨ret_bool F.out.symm, rfl⟩

end Go.Proofs.Ytbffcehaednefaa.Variant
