/- What the laws of versions share: the chapter's example, whether two rows are the same, whether texts are great. -/
import Derived.Test.YtccmgaibikiedaaVerLess
namespace Go.Proofs.Ytccmgaibikiedaa.Ver
set_option linter.unusedVariables false
set_option linter.unusedSimpArgs false
open Go.RowKit Go.Shelf

theorem take_same (a b : List Bs) (k : Nat) (h : k < a.length) (h' : k < b.length) (ht : a.take k = b.take k) (hp : a.getD k [] = b.getD k []) : a.take (k + 1) = b.take (k + 1) := by
  rw [List.take_succ_eq_append_getElem h, List.take_succ_eq_append_getElem h', ht]
  have e : a.getD k [] = a[k] := by simp [List.getD_eq_getElem?_getD, List.getElem?_eq_getElem h]
  have e' : b.getD k [] = b[k] := by simp [List.getD_eq_getElem?_getD, List.getElem?_eq_getElem h']
  rw [e, e'] at hp
  rw [hp]

/-- what the texts of a row come to, each by its length, up to 9000, and one. -/
def sumV (l : List Bs) : Nat := (l.map fun p => 1 + min p.length 9000).sum
def greatB (l : List Bs) : Bool := decide (9000 < sumV l)
theorem sumV_app (a b : List Bs) : sumV (a ++ b) = sumV a + sumV b := by unfold sumV; rw [List.map_append, List.sum_append]
theorem sum_next (l : List Bs) (k : Nat) (h : k < l.length) : sumV (l.take (k + 1)) = sumV (l.take k) + (1 + min (l.getD k []).length 9000) := by
  have e : l.getD k [] = l[k] := by simp [List.getD_eq_getElem?_getD, List.getElem?_eq_getElem h]
  rw [List.take_succ_eq_append_getElem h, e, sumV_app]
  rfl
theorem sum_take (l : List Bs) (k : Nat) : sumV (l.take k) ≤ sumV l := by
  have h := sumV_app (l.take k) (l.drop k)
  rw [List.take_append_drop] at h
  omega
theorem sum_len (l : List Bs) : l.length ≤ sumV l := by
  induction l with
  | nil => simp
  | cons p l ih => simp [sumV] at ih ⊢; omega
theorem small_of (l : List Bs) (h : greatB l = false) : l.length ≤ 9000 ∧ ∀ i, (l.getD i []).length ≤ 9000 := by
  have h' : sumV l ≤ 9000 := by simpa [greatB] using h
  refine ⟨Nat.le_trans (sum_len l) h', fun i => ?_⟩
  rcases Nat.lt_or_ge i l.length with hi | hi
  · have h1 := sum_next l i hi
    have h2 := sum_take l (i + 1)
    omega
  · rw [getD_past _ _ hi]; simp

set_option maxHeartbeats 2000000 in
theorem great_any (w : World) {B : Nat} {A : Option Addr} {l : List Bs} (h : Row w B A l) (n cap : Nat) (hn : n = l.length) (hn64 : n ≤ maxLen) (hls : ∀ i, (l.getD i []).length ≤ maxLen) :
    Calls Try.prog 20 #[.slice A n cap] w fun e w' => e = .returned (.bool (greatB l)) ∧ w = w' := by
  unfold maxLen at hn64
  have HN := Lib.hid hn
  have H := Lib.hid h
  have HLS := Lib.hid hls
  have hn' : (n : Int) ≤ 9223372036854775807 := by omega
  clear hn h hls hn64
  go_enter Try.func20, Try.ntmps20
  go_wp2_with fail
  go_loopw [3, 4, 7] (fun c _ v wr => ∃ k m : Nat, v = .int .i64 k ∧ c = .int .i64 m ∧ k ≤ n ∧ k ≤ m ∧ m ≤ 9000 ∧ wr = w ∧ m = sumV (l.take k)) (fun _ _ v _ => n - (intOf v).toNat)
  case atStart => exact ⟨0, 0, rfl, rfl, Nat.zero_le _, Nat.le_refl _, by omega, rfl, rfl⟩
  case round =>
    obtain ⟨k, m, rfl, rfl, hk, hkm, hm, rfl, hall⟩ := hrel
    have HALL := Lib.hid hall
    clear hall
    by_cases hlt : k < n
    · have hlt' : (k : Int) < (n : Int) := by omega
      obtain ⟨ad, rfl, _, hc⟩ := H.out k (by rw [← HN.out]; exact hlt)
      have hps := HLS.out k
      unfold maxLen at hps
      have NX := Lib.hid (sum_next l k (by rw [← HN.out]; exact hlt))
      have TK := Lib.hid (sum_take l (k + 1))
      obtain ⟨p, hp⟩ : ∃ p : ByteArray, p = ⟨(l.getD k []).toArray⟩ := ⟨_, rfl⟩
      have hpd : (l.getD k []).length = p.size := by rw [hp, size_str]
      rw [show str (l.getD k []) = Value.string p by rw [hp]] at hc
      rw [hpd] at hps NX
      have hps' : (p.size : Int) ≤ 9223372036854775807 := by omega
      clear hp hpd
      obtain ⟨t, ht⟩ : ∃ t : Nat, t = min p.size 9000 := ⟨_, rfl⟩
      have hmin : min (p.size : Int) 9000 = (t : Int) := by omega
      have ht9 : (t : Int) ≤ 9000 := by omega
      rw [← ht, ← HALL.out] at NX
      by_cases hbig : 9000 < m + (1 + t)
      · have hbig' : 9000 < (m : Int) + (1 + (t : Int)) := by omega
        have F : Hid (greatB l = true) := Lib.hid (decide_eq_true (by have := NX.out; have := TK.out; omega))
        clear hbig ht
        go_wp2_with fail
        go_ret
        exact ⟨ret_bool F.out.symm, rfl⟩
      · have hbig' : (m : Int) + (1 + (t : Int)) ≤ 9000 := by omega
        have e1 : ((m + (1 + t) : Nat) : Int) = (m : Int) + (1 + (t : Int)) := by omega
        have E1 := Lib.hid e1
        clear hbig ht e1
        go_wp2_with fail
        go_roundw
        case rel => exact ⟨k + 1, m + (1 + t), by go_num, by rw [E1.out], by omega, by omega, by omega, trivial, NX.out.symm⟩
        case measure => simp [intOf]; omega
    · obtain rfl : k = n := by omega
      have F : Hid (greatB l = false) := Lib.hid (decide_eq_false (by
        have h := HALL.out
        rw [HN.out, List.take_of_length_le (Nat.le_refl _)] at h
        omega))
      go_wp2_with fail
      go_ret
      exact ⟨ret_bool F.out.symm, rfl⟩

end Go.Proofs.Ytccmgaibikiedaa.Ver
