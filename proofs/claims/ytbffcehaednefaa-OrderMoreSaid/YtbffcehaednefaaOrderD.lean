/- The way from a start to a place, walked. -/
import Derived.Test.YtbffcehaednefaaOrderC
namespace Go.Proofs.Ytbffcehaednefaa.Order
set_option linter.unusedVariables false
set_option linter.unusedSimpArgs false
open Go.RowKit

def ints (W : List Nat) : List Int := W.map fun (v : Nat) => (v : Int)
abbrev vals (W : List Nat) : List Value := (ints W).map (Value.int .i64)
theorem ints_len (W : List Nat) : (ints W).length = W.length := by simp [ints]
theorem ints_at (W : List Nat) (i : Nat) : (ints W).getD i 0 = (W.getD i 0 : Nat) := by
  unfold ints
  rw [List.getD_eq_getElem?_getD, List.getD_eq_getElem?_getD, List.getElem?_map]
  cases W[i]? <;> rfl
theorem vals_app (a b : List Nat) : vals (a ++ b) = vals a ++ vals b := by simp [vals, ints]
theorem own_GI {w : World} {base k : Nat} {v : Value} {W : List Nat} (h : w.ownsRow base 3 1 v k (vals W)) (h0 : 0 < k) : ∃ g cap cur, v = .slice (some ⟨g, 0, none⟩) k cap ∧ base ≤ g ∧ k = W.length ∧ k ≤ cap ∧ w.heap[g]? = some (.cells cur 3 (0, 0)) ∧ ∀ i, i < k → cur[i]? = some (.int .i64 (W.getD i 0 : Nat)) := by
  have hl : k = W.length := by have := h.1; simp [vals, ints_len] at this; omega
  rcases h.2 with ⟨_, hk⟩ | ⟨g, cap, cur, rfl, hb, hh, hc, hm, hs, ht⟩
  · omega
  refine ⟨g, cap, cur, rfl, hb, hl, hc, hh, fun i hi => ?_⟩
  have h1 : (vals W)[i]? = some (.int .i64 (W.getD i 0 : Nat)) := by
    rw [List.getElem?_map, ← ints_at, List.getD_eq_getElem?_getD]
    have : i < (ints W).length := by rw [ints_len]; omega
    rw [List.getElem?_eq_getElem this]; rfl
  rw [← ht, Nat.mul_one, List.getElem?_take, if_pos hi] at h1
  simpa using h1

theorem own_cap {w : World} {base k cap : Nat} {A : Option Addr} {xs : List Value} (h : w.ownsRow base 3 1 (.slice A k cap) k xs) (h0 : 0 < k) : k ≤ cap ∧ cap ≤ maxLen := by
  rcases h.2 with ⟨_, hk⟩ | ⟨g, cp, cur, e, hb, hh, hc, hm, hs, ht⟩
  · omega
  · injection e with _ _ e
    subst e
    exact ⟨hc, hm⟩
def lenOf : Value → Nat
  | .slice _ n _ => n
  | _ => 0
theorem below_put {w : World} {B g n : Nat} {d : Array Int} (hB : B ≤ g) : Below B w (Sort.putRow (Value.int .i64) (Sort.ahead w n) g 0 d) := by
  refine ⟨rfl, rfl, rfl, ?_, fun k hk => ?_⟩
  · show w.heap.size ≤ (w.heap.modify g _).size
    simp
  · show (w.heap.modify g _)[k]? = _
    rw [Array.getElem?_modify, if_neg (by omega)]
theorem bang (l : List Int) (j : Nat) (hj : j < l.length) : l.toArray[j]! = l[j] := by simp [hj]
set_option maxRecDepth 100000 in
/-- a row of the call's own is turned round. -/
theorem rev_any {w : World} {base k : Nat} {v : Value} {W : List Nat} (h : w.ownsRow base 3 1 v k (vals W)) (h0 : 0 < k) (hk : k ≤ 1000) :
    Calls Try.prog 95 #[v] w fun e w' => e = .returned (.tuple #[]) ∧ ∃ g cap, v = .slice (some ⟨g, 0, none⟩) k cap ∧ k = W.length ∧ IRow w' w'.heap.size (some ⟨g, 0, none⟩) (ints W.reverse) ∧ Below base w w' := by
  obtain ⟨g, cap, cur, rfl, hb, hl, hc, hh, hcell⟩ := own_GI h h0
  have hg := lt_of_block hh
  have hH : Sort.Holds (Value.int .i64) w g 0 (ints W).toArray := by
    intro j hj
    have hj' : j < W.length := by simpa [ints_len] using hj
    refine ⟨?_, blk_free _ hh⟩
    have e : (ints W).toArray[j]! = (W.getD j 0 : Nat) := by
      rw [← ints_at, List.getD_eq_getElem?_getD, List.getElem?_eq_getElem (by rw [ints_len]; exact hj')]
      simp [ints_len, hj']
    rw [e, Nat.zero_add]
    exact blk_cell hh (hcell j (by omega))
  have t := Try.slices_Reverse_int g 0 cap (ints W) w hH (by rw [ints_len]; omega)
  rw [ints_len, ← hl] at t
  refine t.mono fun e w' ⟨he, n, hw⟩ => ⟨he, g, cap, rfl, hl, ?_, by rw [hw]; exact below_put hb⟩
  have hH2 : Sort.Holds (Value.int .i64) w' g 0 (ints W).reverse.toArray := by
    rw [hw]
    exact Sort.holds_putRow _ _ _ _ _ _ (Sort.holds_ahead _ _ _ _ _ _ hH) (by simp)
  refine .inr ⟨g, 0, rfl, by rw [hw]; exact Nat.lt_of_lt_of_le hg (below_put (B := 0) (Nat.zero_le _)).size, fun j hj => ?_⟩
  have hr : ints W.reverse = (ints W).reverse := by simp [ints]
  rw [hr] at hj ⊢
  have := (hH2 j (by simpa using hj)).1
  rw [this]
  rw [List.getD_eq_getElem?_getD, List.getElem?_eq_getElem hj]
  rw [bang _ _ hj]
  rfl

set_option maxHeartbeats 4000000 in
set_option maxRecDepth 100000 in
/-- from where each place was come to is gone back along, to the start; then the way is turned round. -/
theorem wayTo_any {E : Es} {s : Nat} {fr : List Int} {row : List Nat} (hs : Sea E s fr row) (gf nf cf i : Nat) (w : World) (hgf : GI w gf fr) (hlt : gf < w.heap.size) (hi : i < row.length) (hn : E.length ≤ 100) (hnf : nf = fr.length) (he : Edge E (row.getD i 0) s) :
    Calls Try.prog 75 #[.slice (some ⟨gf, 0, none⟩) nf cf, .int .i64 (s : Nat), .int .i64 (row.getD i 0 : Nat)] w fun e w' => ∃ g cap Q, e = .returned (.slice (some ⟨g, 0, none⟩) Q.length cap) ∧ (IsCycle E Q ∧ Q.getD 0 0 = s) ∧ IRow w' w'.heap.size (some ⟨g, 0, none⟩) (ints Q) ∧ Below w.heap.size w w' ∧ (Q.length ≤ cap ∧ cap ≤ maxLen) := by
  have hrl : row.length ≤ 100 := by
    have := nodup_sub row (List.range E.length) hs.nodup (fun x hx => List.mem_range.2 (hs.lt x hx))
    rw [List.length_range] at this; omega
  have HS := Lib.hid hs
  have HE := Lib.hid he
  have HG := Lib.hid hgf
  have HL := Lib.hid hlt
  have HF : Hid (nf = E.length) := Lib.hid (by rw [hnf, hs.len])
  have HR := Lib.hid hrl
  have HI := Lib.hid hi
  have HN := Lib.hid hn
  obtain ⟨i0, hi0, hz0, hz1, hz2⟩ := info_parts info_int
  have HII := Lib.hid (And.intro hi0 (And.intro hz0 (And.intro hz1 hz2)))
  obtain ⟨p0, hp0⟩ : ∃ p, p = row.getD i 0 := ⟨_, rfl⟩
  have OWN0 : Hid ((w.alloc (.cells #[.int .i64 (p0 : Nat)] 3)).ownsRow w.heap.size 3 1 (.slice (some ⟨w.heap.size, 0, none⟩) 1 1) 1 (vals [p0])) := Lib.hid
    ⟨rfl, .inr ⟨w.heap.size, 1, #[.int .i64 (p0 : Nat)], rfl, Nat.le_refl _, heap_alloc_new w _, Nat.le_refl _, by unfold maxLen; omega, rfl, rfl⟩⟩
  have B0 := Lib.hid ((Below.refl w.heap.size w).alloc (Nat.le_refl _) (.cells #[.int .i64 (p0 : Nat)] 3))
  have BK0 : Hid (Back E s row [p0] i) := Lib.hid (by rw [hp0]; exact Back.first hi)
  have HP0 := Lib.hid hp0
  rw [← hp0]
  clear hs he hgf hlt hnf hrl hi hn hi0 hz0 hz1 hz2 hp0
  go_enter Try.func75, Try.ntmps75
  go_wp2_with fail
  go_loopw [2, 7] (fun p v wr => ∃ (k : Nat) (W : List Nat), p = .int .i64 (row.getD k 0 : Nat) ∧ Below w.heap.size w wr ∧ wr.ownsRow w.heap.size 3 1 v W.length (vals W) ∧ Back E s row W k ∧ W.getD 0 0 = p0) (fun _ v _ => 200 - lenOf v)
  case atStart => exact ⟨i, [p0], by rw [← HP0.out], B0.out, OWN0.out, BK0.out, rfl⟩
  case round =>
    obtain ⟨k, W, rfl, hbel, hown, hbk, hw0⟩ := hrel
    obtain ⟨wo, rfl⟩ : ∃ wo : World, wo = wr := ⟨_, rfl⟩
    have J := Lib.hid hbel
    have OW := Lib.hid hown
    have BK := Lib.hid hbk
    have HW := Lib.hid hw0
    have WL : W.length ≤ 100 := by
      have := nodup_sub W row hbk.nodup (fun x hx => by obtain ⟨j, _, h2, h3⟩ := hbk.hi x hx; rw [h3]; exact getD_mem h2)
      have := HR.out; omega
    have WP : 0 < W.length := hbk.ne
    clear hbel hown hbk hw0 B0 OWN0 BK0
    by_cases hps : row.getD k 0 = s
    · have k0 : k = 0 := nodup_idx HS.out.nodup BK.out.lt HS.out.head.2 (by rw [hps, HS.out.head.1])
      have CY : Hid (IsCycle E W.reverse ∧ W.reverse.getD 0 0 = s) := Lib.hid (by
        have h := BK.out
        rw [k0] at h
        refine ⟨h.cycle HS.out (by rw [HW.out, HP0.out]) HE.out, ?_⟩
        rw [getD_rev W 0 h.ne, Nat.sub_zero, h.last]
        exact HS.out.head.1)
      have RV := Lib.hid (rev_any OW.out WP (by omega))
      have hbe : ((s : Int) != (s : Int)) = false := by simp
      rw [hps]
      clear k0 hps
      go_wp2_with fail
      go_at_call 95; refine RV.out.mono ?_; rintro e w2 ⟨rfl, g, cap, rfl, hl, hrow, hb⟩
      have B2 := Lib.hid (J.out.trans hb)
      have R2 := Lib.hid hrow
      have OC := Lib.hid (own_cap OW.out WP)
      clear hb hrow hl
      go_wp2_with fail
      go_ret
      exact ⟨g, cap, W.reverse, by rw [List.length_reverse]; rfl, CY.out, R2.out, B2.out, by rw [List.length_reverse]; exact OC.out⟩
    · have k0 : 0 < k := by
        rcases Nat.eq_zero_or_pos k with h | h
        · exfalso; apply hps; rw [h]; exact HS.out.head.1
        · exact h
      obtain ⟨j, hj, hfr, hed⟩ := HS.out.from_ k k0 BK.out.lt
      have hpl := HS.out.lt _ (getD_mem BK.out.lt)
      have gc := (HG.out.below J.out HL.out).cell (row.getD k 0) (by rw [HS.out.len]; exact hpl)
      rw [hfr] at gc
      have BA := Lib.hid (BK.out.add HS.out hj hed)
      obtain ⟨p, hp⟩ : ∃ p, p = row.getD k 0 := ⟨_, rfl⟩
      obtain ⟨q, hq⟩ : ∃ q, q = row.getD j 0 := ⟨_, rfl⟩
      have HQ := Lib.hid hq
      rw [← hp] at hps hpl gc ⊢
      rw [← hq] at gc BA
      have hne : ((p : Int) != (s : Int)) = true := by rw [bne_iff_ne]; omega
      have hpn : (p : Int) < (nf : Int) := by have := HF.out; omega
      have VA : Hid (vals (W ++ [q]) = vals W ++ [.int .i64 (q : Nat)]) := Lib.hid (by simp [vals, ints])
      have GA : Hid ((W ++ [q]).getD 0 0 = p0) := Lib.hid (by rw [getD_app q WP]; exact HW.out)
      have h63 : W.length + 1 ≤ maxLen := by unfold maxLen; omega
      have hby : (W.length + 1) * 8 ≤ 140737488355328 := by omega
      have BS := J.out.size
      obtain ⟨hi0, hz0, hz1, hz2⟩ := HII.out
      have hown := OW.out
      clear hp hq hps hfr hed hpl k0
      go_wp2_with (at_builtin; refine wp_append_one _ rfl (.tmp 17) (.tmp 19) 52 rfl w.heap.size 3 i0 _ 8 Try.underlying52 hi0 hz0 hz1 hz2 rfl _ _ _ rfl hown _ rfl rfl h63 hby BS ?_; intro g2 cap2 w2 hown2 hg2 hgs2 hbel2 hsz2 hgr2; have O2 : Hid (w2.ownsRow w.heap.size 3 1 (.slice (some ⟨g2, 0, none⟩) (W.length + 1) cap2) (W ++ [q]).length (vals (W ++ [q]))) := Lib.hid (by rw [VA.out, List.length_append]; exact hown2); have B2 := Lib.hid (J.out.trans hbel2); clear hown2 hbel2 hgr2 hsz2 hgs2)
      go_roundw
      case rel => exact ⟨j, W ++ [q], by rw [← HQ.out], B2.out, O2.out, BA.out, GA.out⟩
      case measure =>
        have hl7 : lenOf u7 = W.length := by
          obtain ⟨g, cap, cur, hv, _⟩ := own_GI OW.out WP
          rw [hv]; rfl
        have WL2 := WL
        simp only [hl7]
        simp only [lenOf]
        omega

end Go.Proofs.Ytbffcehaednefaa.Order
