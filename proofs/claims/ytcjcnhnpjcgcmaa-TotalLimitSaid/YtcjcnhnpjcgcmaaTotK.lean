/- Counting: Count at any row, a table's length and flag. -/
import Derived.Test.YtcjcnhnpjcgcmaaTotJ
import Derived.Test.YtcjcnhnpjcgcmaaTotC
namespace Go.Proofs.Ytcjcnhnpjcgcmaa.Tot
set_option linter.unusedVariables false
set_option linter.unusedSimpArgs false
open Go.RowKit Go.Maps
open Go.Proofs.Ytcjcnhnpjcgcmaa.Order (IRow ERow add_at GI make_ints)
open Go.Proofs.Ytcjcnhnpjcgcmaa.Cnf (Bd Rg RgL formOf rowV own_irow hasNone contains_any)
open Go.Proofs.Ytcjcnhnpjcgcmaa.Tbl (Fr TS blkOf blkOf_eq hs HelpEnd help_gen)
variable {Z tb g cb lim : Nat} {cap : Int} {f : Bool}

set_option maxHeartbeats 1000000 in
theorem cnt_nilt (pb : Value) (A : Option Addr) (n c : Nat) (cap : Int) (W : World) :
    Calls Try.prog 21 #[.pointer none, pb, .slice A n c, .int .i64 cap] W fun e w' => e = .returned (.slice none 0 0) ∧ W = w' := by
  go_enter Try.func21, Try.ntmps21
  go_wp2_with fail
  go_ret
  exact ⟨rfl, rfl⟩
set_option maxHeartbeats 1000000 in
theorem cnt_nilb (pt : Addr) (A : Option Addr) (n c : Nat) (cap : Int) (W : World) :
    Calls Try.prog 21 #[.pointer (some pt), .pointer none, .slice A n c, .int .i64 cap] W fun e w' => e = .returned (.slice none 0 0) ∧ W = w' := by
  go_enter Try.func21, Try.ntmps21
  go_wp2_with fail
  go_ret
  exact ⟨rfl, rfl⟩
set_option maxHeartbeats 1000000 in
theorem cnt_nil (pt pb : Addr) (A : Option Addr) (n c : Nat) (l : List Int) (cap : Int) (W : World) (hl : IRow W W.heap.size A l) (hn : n = l.length) (hn1 : n ≤ 20) (h : cap < 1 ∨ n = 0 ∨ l.contains 0 = true) :
    Calls Try.prog 21 #[.pointer (some pt), .pointer (some pb), .slice A n c, .int .i64 cap] W fun e w' => e = .returned (.slice none 0 0) ∧ W = w' := by
  by_cases h1 : cap < 1
  · clear h hl hn
    go_enter Try.func21, Try.ntmps21
    go_wp2_with fail
    go_ret
    exact ⟨rfl, rfl⟩
  · by_cases h2 : n = 0
    · subst h2
      clear h hl hn
      go_enter Try.func21, Try.ntmps21
      go_wp2_with fail
      go_ret
      exact ⟨rfl, rfl⟩
    · have h3 : l.contains 0 = true := by
        rcases h with h | h | h
        · exact (h1 h).elim
        · exact (h2 h).elim
        · exact h
      have C1 : Hid (Calls Try.prog 40 #[.slice A n c, .int .i64 0] W fun e w' => e = .returned (.bool true) ∧ W = w') := Lib.hid (by
        have t := contains_any A l n c 0 W hl hn (by unfold maxLen; omega)
        rwa [h3] at t)
      have h2' : ¬ (n : Int) = 0 := by omega
      clear h hl hn h3 hn1
      go_enter Try.func21, Try.ntmps21
      go_wp2_with fail
      refine C1.out.mono ?_
      rintro e w' ⟨rfl, rfl⟩
      go_wp2_with fail
      go_ret
      exact ⟨rfl, rfl⟩

/-- what counting leaves. -/
def CountEnd (Z tb g lim : Nat) (cap : Int) (c k : Nat) (f : Bool) (l : List Int) (w : World) (e : Ending) (w' : World) : Prop :=
  Stp Z tb g w w' ∧ (∀ q r, GI w q r → GI w' q r) ∧ ∃ cb n',
    ((k + need c l.length ≤ lim ∧ ∃ q r d, r = (res c k l).length ∧ e = .returned (.slice (some ⟨q, 0, none⟩) r d) ∧ GI w' q (res c k l) ∧ CS Z tb g cb lim cap (k + need c l.length) f n' w') ∨
     (lim < k + need c l.length ∧ e = .returned (.slice none 0 0) ∧ CS Z tb g cb lim cap lim true n' w'))
set_option maxHeartbeats 2000000 in
set_option maxRecDepth 100000 in
theorem Count_go (c : Nat) (hc : 1 ≤ c) (hcap : ∀ m : Nat, m ≤ 20 → ((m : Int) ≤ cap ∧ m ≤ c) ∨ (¬ (m : Int) ≤ cap ∧ c ≤ m ∧ cap = (c : Int))) (hcap1 : ¬ cap < 1) {k n : Nat} {w : World} (A : Option Addr) (l : List Int) (N d : Nat) (hN : N = l.length) (hN0 : 1 ≤ N) (hN1 : N ≤ 20) (hd : N ≤ d) (hdm : d ≤ maxLen)
    (zt : Z ≤ tb) (kl : k ≤ lim) (tab : ∃ (hp : Nat) (A : Option Addr) (cp : Nat), hp ≤ k ∧ TS Z tb lim (hp : Nat) f A cp (hs k) w) (bld : ∃ (A : Option Addr) (c : Nat), BS Z g n A c w) (hk : k + need c N ≤ 1000) (hn : n + 1000 * N ≤ 262144) (hir : Ir Z tb g w A l) (hok : ∀ x ∈ l, Okx x) (h0 : l.contains 0 = false) :
    Calls Try.prog 21 #[.pointer (some ⟨tb + 1, 0, none⟩), .pointer (some ⟨g, 0, none⟩), .slice A N d, .int .i64 cap] w (CountEnd Z tb g lim cap c k f l w) := by
  have C1 : Hid (Calls Try.prog 40 #[.slice A N d, .int .i64 0] w fun e w' => e = .returned (.bool false) ∧ w = w') := Lib.hid (by
    have t := contains_any A l N d 0 w hir.irow hN (by unfold maxLen; omega)
    rwa [h0] at t)
  have C2 : Hid (Calls Try.prog 40 #[.slice A N d, .int .i64 (-9223372036854775808)] w fun e w' => e = .returned (.bool false) ∧ w = w') := Lib.hid (by
    have t := contains_any A l N d (-9223372036854775808) w hir.irow hN (by unfold maxLen; omega)
    have e : l.contains (-9223372036854775808) = false := by
      rw [Bool.eq_false_iff]
      intro h
      have := (hok _ (List.contains_iff_mem.1 h)).1
      omega
    rwa [e] at t)
  have BW : Below w.heap.size w (w.alloc (.cells #[.pointer (some ⟨tb + 1, 0, none⟩), .pointer (some ⟨g, 0, none⟩), .int .i64 cap] 62)) := (Below.refl _ _).alloc (Nat.le_refl _) _
  have CW : CS Z tb g w.heap.size lim cap k f n (w.alloc (.cells #[.pointer (some ⟨tb + 1, 0, none⟩), .pointer (some ⟨g, 0, none⟩), .int .i64 cap] 62)) := by
    obtain ⟨hp, At, cp, t1, t2⟩ := tab
    obtain ⟨Ab, cc, b1⟩ := bld
    exact ⟨zt, kl, ⟨hp, At, cp, t1, t2.below BW⟩, ⟨Ab, cc, b1.below BW⟩, heap_alloc_new w _⟩
  have SW : Stp Z tb g w (w.alloc (.cells #[.pointer (some ⟨tb + 1, 0, none⟩), .pointer (some ⟨g, 0, none⟩), .int .i64 cap] 62)) := Stp.of_below BW (by
    obtain ⟨hp, At, cp, t1, t2⟩ := tab
    have := (TSisT t2).2.2.1
    omega)
  have CN := Lib.hid (count_any c hc hcap N l hN.symm hN0 hN1 k n _ A d hd hdm CW hk hn (hir.stp SW) hok)
  have HH := Lib.hid (show (∀ q r, GI w q r → GI (w.alloc (.cells #[.pointer (some ⟨tb + 1, 0, none⟩), .pointer (some ⟨g, 0, none⟩), .int .i64 cap] 62)) q r) from fun q r h => h.below BW (lt_of_block h))
  have CWH := Lib.hid CW
  have SWH := Lib.hid SW
  have hN2 : ¬ (N : Int) = 0 := by omega
  have hN3 : ¬ N = 0 := by omega
  clear BW CW SW tab bld hir hok h0 hcap hc hk hn hd hdm hN
  go_enter Try.func21, Try.ntmps21
  go_wp2_with fail
  refine C1.out.mono ?_
  rintro e w' ⟨rfl, rfl⟩
  go_wp2_with fail
  refine C2.out.mono ?_
  rintro e w' ⟨rfl, rfl⟩
  go_wp2_with fail
  refine CN.out.mono ?_
  rintro e w1 ⟨n1, hn1, hs1, (⟨hk1, q1, r1, d1, hr1, rfl, hg1, hc1⟩ | ⟨hk1, rfl, hc1⟩)⟩
  · have R : Hid (CountEnd Z tb g lim cap c k f l w (.returned (.slice (some ⟨q1, 0, none⟩) r1 d1)) w1) := Lib.hid
      ⟨SWH.out.trans hs1, fun q r h => CWH.out.gi (HH.out q r h) hs1, _, n1, .inl ⟨hk1, q1, r1, d1, hr1, rfl, hg1, hc1⟩⟩
    clear hn1 hs1 hk1 hr1 hg1 hc1 CN HH CWH SWH C1 C2
    go_wp2_with fail
    go_ret
    exact R.out
  · have R : Hid (CountEnd Z tb g lim cap c k f l w (.returned (.slice none 0 0)) w1) := Lib.hid
      ⟨SWH.out.trans hs1, fun q r h => CWH.out.gi (HH.out q r h) hs1, _, n1, .inr ⟨hk1, rfl, hc1⟩⟩
    clear hn1 hs1 hk1 hc1 CN HH CWH SWH C1 C2
    go_wp2_with fail
    go_ret
    exact R.out

set_option maxHeartbeats 400000 in
theorem len_tab {n cp : Nat} {A : Option Addr} {x0 x1 x3 x4 : Value} {w : World} (ht : w.heap[tb + 1]? = some (.cells #[x0, x1, .slice A n cp, x3, x4] 58 (0, 0))) :
    Calls Try.prog 23 #[.pointer (some ⟨tb + 1, 0, none⟩)] w fun e w' => e = .returned (.int .i64 (n : Nat)) ∧ w = w' := by
  have c2 : w.cell? ⟨tb + 1, 2, none⟩ = some (.slice A n cp) := blk_cell ht rfl
  clear ht
  go_enter Try.func23, Try.ntmps23
  go_wp2_with fail
  go_ret
  exact ⟨rfl, rfl⟩
set_option maxHeartbeats 400000 in
theorem full_tab {b : Bool} {x0 x1 x2 x3 : Value} {w : World} (ht : w.heap[tb + 1]? = some (.cells #[x0, x1, x2, x3, .bool b] 58 (0, 0))) :
    Calls Try.prog 24 #[.pointer (some ⟨tb + 1, 0, none⟩)] w fun e w' => e = .returned (.bool b) ∧ w = w' := by
  have c2 : w.cell? ⟨tb + 1, 4, none⟩ = some (.bool b) := blk_cell ht rfl
  clear ht
  go_enter Try.func24, Try.ntmps24
  go_wp2_with fail
  go_ret
  exact ⟨rfl, rfl⟩

end Go.Proofs.Ytcjcnhnpjcgcmaa.Tot
