/- The law on parts of recipes and requests: walked. -/
import Derived.Test.YtccmgaibikiedaaDfE
import Derived.RegionTactic
import Derived.IntWalk
import Derived.OrdersHeld
import Derived.Deep.RegionHeld3
namespace Go.Proofs.Ytccmgaibikiedaa.Dc
open Go.RowKit
set_option linter.unusedVariables false
set_option linter.unusedSimpArgs false
theorem gRq_len {q : List Rt} (h : gRq q = false) : q.length ≤ 40 := by
  unfold gRq at h
  simp only [Bool.or_eq_false_iff, decide_eq_false_iff_not] at h
  omega
theorem news_below {w W : World} {B b o : Nat} {l : List Value} (h : ∀ (j : Nat) (u : Value), l[j]? = some u → w.cell? ((⟨b, o, none⟩ : Addr).add j) = some u) (hb : Below B w W) (hB : b < B) : ∀ (j : Nat) (u : Value), l[j]? = some u → W.cell? ((⟨b, o, none⟩ : Addr).add j) = some u := fun j u hu => by
  have h1 := h j u hu
  rw [add_at] at h1 ⊢
  exact (hb.cell (p := ⟨b, o + j, none⟩) hB).trans h1
theorem own_form {w : World} {base : Nat} {e : TypeId} {size n : Nat} {v : Value} {xs : List Value} (h : w.ownsRow base e size v n xs) : ∃ A c, v = .slice A n c := by
  rcases h.2 with ⟨rfl, rfl⟩ | ⟨g, cap, cur, rfl, -⟩
  · exact ⟨none, 0, rfl⟩
  · exact ⟨some ⟨g, 0, none⟩, cap, rfl⟩
theorem mod_nat {a : Int} {n : Nat} (h0 : 0 ≤ a) (h1 : a ≤ 255) (hn : 0 < n) : ∃ k : Nat, k < n ∧ (k : Int) ≤ 255 ∧ a % (n : Int) = (k : Int) ∧ a.tmod (n : Int) = (k : Int) := by
  obtain ⟨an, rfl⟩ := Int.eq_ofNat_of_zero_le h0
  have e1 := Nat.mod_le an n
  exact ⟨an % n, Nat.mod_lt _ hn, by omega, (Int.natCast_emod an n).symm, (Int.ofNat_tmod an n).symm⟩
set_option maxHeartbeats 16000000 in
set_option maxRecDepth 100000 in
theorem parts_go {w : World} {x : Rc} {q : List Rt} {cs qs : List Value} (h : rcD w w.heap.size cs x) (h2 : rqD w w.heap.size qs q) (a : Int) (ha0 : 0 ≤ a) (ha1 : a ≤ 255) :
    Calls Try.prog 5 #[.agg cs.toArray, .agg qs.toArray, .int .u8 a] w fun e w' => e = .returned (.bool true) ∧ Below w.heap.size w w' := by
  obtain ⟨A1, n1, c1, A2, n2, c2, hcs, s1, s2⟩ := rc_cells h
  obtain ⟨Aq, nq, cq, hqs, sq⟩ := rq_cells h2
  have n5 := s1.le
  have n6 := s2.le
  have n7 := sq.le
  have R := Lib.hid (show Bxs w [(#[.slice A1 n1 c1, .slice A2 n2 c2], 25), (#[.slice Aq nq cq], 37)] _ from ((Bxs.nil w).push (by simp) #[.slice A1 n1 c1, .slice A2 n2 c2] 25).push (by simp) #[.slice Aq nq cq] 37)
  have KC : Hid (∀ W, Bxs w [(#[.slice A1 n1 c1, .slice A2 n2 c2], 25), (#[.slice Aq nq cq], 37)] W → W.cell? ⟨w.heap.size, 0, none⟩ = some (.slice A1 n1 c1) ∧ W.cell? ⟨w.heap.size, 1, none⟩ = some (.slice A2 n2 c2) ∧ W.cell? ⟨w.heap.size + 1, 0, none⟩ = some (.slice Aq nq cq)) := Lib.hid (fun W hR => ⟨blk_cell (j := 0) (hR.box 0 _ rfl) rfl, blk_cell (j := 1) (hR.box 0 _ rfl) rfl, blk_cell (j := 0) (hR.box 1 _ rfl) rfl⟩)
  have DR : Hid (∀ W, Bxs w [(#[.slice A1 n1 c1, .slice A2 n2 c2], 25), (#[.slice Aq nq cq], 37)] W → rcD W w.heap.size [.slice A1 n1 c1, .slice A2 n2 c2] x ∧ rqD W w.heap.size [.slice Aq nq cq] q ∧ w.heap.size ≤ W.heap.size) := Lib.hid (fun W hR => by
    have h3 := rc_stays _ _ _ _ _ _ h (Nat.le_refl _) hR.below
    have h4 := rq_stays _ _ _ _ _ _ h2 (Nat.le_refl _) hR.below
    rw [hcs] at h3
    rw [hqs] at h4
    exact ⟨h3, h4, hR.below.size⟩)
  obtain ⟨g1, hg1⟩ : ∃ g, g = gRc x := ⟨_, rfl⟩
  obtain ⟨g8, hg8⟩ : ∃ g, g = gRq q := ⟨_, rfl⟩
  have C0 : Hid (∀ W, Bxs w [(#[.slice A1 n1 c1, .slice A2 n2 c2], 25), (#[.slice Aq nq cq], 37)] W → Calls Try.prog 8 #[.agg #[.slice A1 n1 c1, .slice A2 n2 c2]] W fun e w' => e = .returned (.bool g1) ∧ Below W.heap.size W w') := Lib.hid (fun W hR => by
    rw [hg1]; exact great_any (DR.out W hR).1 (DR.out W hR).2.2)
  have C8 : Hid (∀ W, Bxs w [(#[.slice A1 n1 c1, .slice A2 n2 c2], 25), (#[.slice Aq nq cq], 37)] W → Calls Try.prog 18 #[.agg #[.slice Aq nq cq]] W fun e w' => e = .returned (.bool g8) ∧ Below W.heap.size W w') := Lib.hid (fun W hR => by
    rw [hg8]; exact great8_any (DR.out W hR).2.1 (DR.out W hR).2.2)
  have FX : Hid (∀ W, Bxs w [(#[.slice A1 n1 c1, .slice A2 n2 c2], 25), (#[.slice Aq nq cq], 37)] W → Calls Try.prog 9 #[] W fun e w' => e = .returned (.bool true) ∧ Below W.heap.size W w') := Lib.hid (fun W _ => fixed_any W)
  rw [hcs, hqs]
  have HQ := Lib.hid hqs
  clear hqs
  show Calls Try.prog _ #[.agg #[.slice A1 n1 c1, .slice A2 n2 c2], .agg #[.slice Aq nq cq], .int .u8 a] w _
  cases g1
  case true =>
    clear h h2 s1 s2 sq hcs hg1 hg8
    obtain ⟨k0, k1, k2⟩ := KC.out _ R.out
    go_enter Try.func5, Try.ntmps5
    go_wp2_with (first | (go_at_call 8; (with_reducible refine (C0.out _ R.out).mono ?_); rintro e v1 ⟨rfl, hb⟩; have R := Lib.hid (R.out.step hb); clear hb; obtain ⟨k0, k1, k2⟩ := KC.out _ R.out) | (go_at_call 18; (with_reducible refine (C8.out _ R.out).mono ?_); rintro e v1 ⟨rfl, hb⟩; have R := Lib.hid (R.out.step hb); clear hb; obtain ⟨k0, k1, k2⟩ := KC.out _ R.out) | (go_at_call 9; (with_reducible refine (FX.out _ R.out).mono ?_); rintro e v1 ⟨rfl, hb⟩; have R := Lib.hid (R.out.step hb); clear hb; obtain ⟨k0, k1, k2⟩ := KC.out _ R.out))
    go_ret
    exact ⟨rfl, R.out.below⟩
  cases g8
  case true =>
    clear h h2 s1 s2 sq hcs hg1 hg8
    obtain ⟨k0, k1, k2⟩ := KC.out _ R.out
    go_enter Try.func5, Try.ntmps5
    go_wp2_with (first | (go_at_call 8; (with_reducible refine (C0.out _ R.out).mono ?_); rintro e v1 ⟨rfl, hb⟩; have R := Lib.hid (R.out.step hb); clear hb; obtain ⟨k0, k1, k2⟩ := KC.out _ R.out) | (go_at_call 18; (with_reducible refine (C8.out _ R.out).mono ?_); rintro e v1 ⟨rfl, hb⟩; have R := Lib.hid (R.out.step hb); clear hb; obtain ⟨k0, k1, k2⟩ := KC.out _ R.out) | (go_at_call 9; (with_reducible refine (FX.out _ R.out).mono ?_); rintro e v1 ⟨rfl, hb⟩; have R := Lib.hid (R.out.step hb); clear hb; obtain ⟨k0, k1, k2⟩ := KC.out _ R.out))
    go_ret
    exact ⟨rfl, R.out.below⟩
  have HL : Hid (x.packs.length ≤ 30) := Lib.hid (gRc_len hg1.symm)
  have HLQ : Hid (q.length ≤ 40) := Lib.hid (gRq_len hg8.symm)
  obtain ⟨z, hz⟩ : ∃ z : Nat, z = (recF x).1 := ⟨_, rfl⟩
  obtain ⟨zl, hzl⟩ : ∃ z : Int, z = (recF x).2 := ⟨_, rfl⟩
  have CX : Hid (∀ W, Bxs w [(#[.slice A1 n1 c1, .slice A2 n2 c2], 25), (#[.slice Aq nq cq], 37)] W → Calls Try.prog 10 #[.agg #[.slice A1 n1 c1, .slice A2 n2 c2]] W fun e w' => e = .returned (probV z zl) ∧ Below W.heap.size W w') := Lib.hid (fun W hR => by
    rw [hz, hzl]; exact recipe_any (DR.out W hR).1 (DR.out W hR).2.2 (Nat.le_trans HL.out (by decide)))
  by_cases hzz : ¬ (z = 0 ∧ zl = 0)
  · have NE := ne_some hzz
    clear h h2 s1 s2 sq hcs hg1 hg8 hz hzl hzz
    obtain ⟨k0, k1, k2⟩ := KC.out _ R.out
    go_enter Try.func5, Try.ntmps5
    go_wp2_with (first | (go_at_call 8; (with_reducible refine (C0.out _ R.out).mono ?_); rintro e v1 ⟨rfl, hb⟩; have R := Lib.hid (R.out.step hb); clear hb; obtain ⟨k0, k1, k2⟩ := KC.out _ R.out) | (go_at_call 18; (with_reducible refine (C8.out _ R.out).mono ?_); rintro e v1 ⟨rfl, hb⟩; have R := Lib.hid (R.out.step hb); clear hb; obtain ⟨k0, k1, k2⟩ := KC.out _ R.out) | (go_at_call 9; (with_reducible refine (FX.out _ R.out).mono ?_); rintro e v1 ⟨rfl, hb⟩; have R := Lib.hid (R.out.step hb); clear hb; obtain ⟨k0, k1, k2⟩ := KC.out _ R.out) | (go_at_call 10; (with_reducible refine (CX.out _ R.out).mono ?_); rintro e v1 ⟨rfl, hb⟩; have R := Lib.hid (R.out.step hb); clear hb; obtain ⟨k0, k1, k2⟩ := KC.out _ R.out))
    go_ret
    exact ⟨rfl, R.out.below⟩
  obtain ⟨rfl, rfl⟩ : z = 0 ∧ zl = 0 := by
    by_cases e : z = 0 ∧ zl = 0
    · exact e
    · exact absurd e hzz
  have NE := ne_zero
  clear hzz
  by_cases hn1 : n1 = 0
  · subst hn1
    clear h h2 s1 s2 sq hcs hg1 hg8 hz hzl
    obtain ⟨k0, k1, k2⟩ := KC.out _ R.out
    go_enter Try.func5, Try.ntmps5
    go_wp2_with (first | (go_at_call 8; (with_reducible refine (C0.out _ R.out).mono ?_); rintro e v1 ⟨rfl, hb⟩; have R := Lib.hid (R.out.step hb); clear hb; obtain ⟨k0, k1, k2⟩ := KC.out _ R.out) | (go_at_call 18; (with_reducible refine (C8.out _ R.out).mono ?_); rintro e v1 ⟨rfl, hb⟩; have R := Lib.hid (R.out.step hb); clear hb; obtain ⟨k0, k1, k2⟩ := KC.out _ R.out) | (go_at_call 9; (with_reducible refine (FX.out _ R.out).mono ?_); rintro e v1 ⟨rfl, hb⟩; have R := Lib.hid (R.out.step hb); clear hb; obtain ⟨k0, k1, k2⟩ := KC.out _ R.out) | (go_at_call 10; (with_reducible refine (CX.out _ R.out).mono ?_); rintro e v1 ⟨rfl, hb⟩; have R := Lib.hid (R.out.step hb); clear hb; obtain ⟨k0, k1, k2⟩ := KC.out _ R.out))
    go_ret
    exact ⟨rfl, R.out.below⟩
  have hz1 := nz_eq hn1
  obtain ⟨p0, b, o, Ar, nr, cr, Av, nv, cv, Ap, np, cp, Ad, nd, cd, Ac, nc, cc, Af, nf, cf, -, hA1, t3, -⟩ := pk_at s1 (show 0 < n1 by omega)
  subst hA1
  obtain ⟨L, hL⟩ := row_news (by decide) (fun vs y hy => pk_one vs y hy) s1 (fun e => by rw [e] at s1; exact hn1 s1.len)
  obtain ⟨k, hk, hk255, hke, hkt⟩ := mod_nat ha0 ha1 (show 0 < n1 by omega)
  obtain ⟨m, hm, hm255, hme, hmt⟩ := mod_nat ha0 ha1 (show 0 < n2 + 1 by omega)
  have hk' : (k : Int) < (n1 : Int) := by omega
  have hm' : m ≤ n2 := by omega
  have hmc : m ≤ c2 := Nat.le_trans hm' s2.cap
  have hmc' : (m : Int) ≤ (c2 : Int) := by omega
  rw [show ((n2 + 1 : Nat) : Int) = (n2 : Int) + 1 from rfl] at hme hmt
  have n30 : n1 ≤ 30 := by rw [s1.len]; exact HL.out
  have n8a : n2 ≤ 8 := by
    rw [s2.len]
    have hx : (recF x).1 = 0 := hz.symm
    rcases Nat.lt_or_ge 8 x.prefs.length with h8 | h8
    · exfalso
      have c0 : (countsF x).1 ≠ 0 := by
        unfold countsF
        by_cases h24 : 24 < x.packs.length
        · rw [if_pos h24]; simp
        · rw [if_neg h24, if_pos h8]; simp
      unfold recF at hx
      rw [if_pos c0] at hx
      exact c0 hx
    · exact h8
  have hwr : IntKind.i64.wrap ((n2 : Int) + 1) = (n2 : Int) + 1 := IntWalk.i64_in _ (by omega)
  have LL : Hid (L.flatten.length = n1 * 8) := Lib.hid (by rw [flat_len L hL.each, hL.len, s1.len])
  have NEWS : Hid (∀ W, Below w.heap.size w W → ∀ j u, L.flatten[j]? = some u → W.cell? ((⟨b, o, none⟩ : Addr).add j) = some u) := Lib.hid (fun W hb j u hu => by
    rw [add_at]
    exact (hb.cell (p := ⟨b, o + j, none⟩) t3).trans (hL.cell j u hu))
  have ONE := Lib.hid hL.one
  have YR : Hid (recF ⟨x.packs.modify k strip, x.prefs.take m⟩ = (0, 0)) := Lib.hid (recF_less (x := x) strips_of (by simp) m rfl hz.symm)
  have YL : Hid (∀ (W : World) (base g n cap : Nat), Below w.heap.size w W → W.ownsRow base 45 8 (.slice (some ⟨g, 0, none⟩) n1 cap) n1 ((L.flatten.set (k * 8 + 6) nilV).set (k * 8 + 7) nilV) → rcD W W.heap.size [.slice (some ⟨g, 0, none⟩) n1 cap, .slice A2 m c2] ⟨x.packs.modify k strip, x.prefs.take m⟩) := Lib.hid (fun W base g n cap hb ho =>
    rc_of (own_strip hL hb hb.size s1.len hk ho) (((s2.take hm').below pf_stays (Nat.le_refl _) hb).below pf_stays hb.size (Below.refl _ _)))
  have YN : Hid (((x.packs.modify k strip)).length ≤ 1000) := Lib.hid (by rw [List.length_modify]; have := HL.out; omega)
  obtain ⟨i0, hi0, hz9⟩ := Option.map_eq_some_iff.1 info_pk
  simp only [Prod.mk.injEq] at hz9
  obtain ⟨hi1, hi2, hi3⟩ := hz9
  have INF := Lib.hid (And.intro hi0 (And.intro hi1 (And.intro hi2 hi3)))
  have HN0 := Lib.hid hn1
  have NB : nilV = .slice none 0 0 := rfl
  have NBV := Lib.hid NB
  have HK := Lib.hid hk
  clear hi0 hi1 hi2 hi3 hn1 hz hzl hL s1 s2 hg1 hg8 hcs NB h h2
  obtain ⟨rz, hrz⟩ : ∃ z : Nat, z = (reqF x q).1 := ⟨_, rfl⟩
  obtain ⟨rl, hrl⟩ : ∃ z : Int, z = (reqF x q).2 := ⟨_, rfl⟩
  have CQ : Hid (∀ W, Bxs w [(#[.slice (some ⟨b, o, none⟩) n1 c1, .slice A2 n2 c2], 25), (#[.slice Aq nq cq], 37)] W → Calls Try.prog 19 #[.agg #[.slice (some ⟨b, o, none⟩) n1 c1, .slice A2 n2 c2], .agg #[.slice Aq nq cq]] W fun e w' => e = .returned (probV rz rl) ∧ Below W.heap.size W w') := Lib.hid (fun W hR => by
    rw [hrz, hrl]; exact request_any (DR.out W hR).1 (DR.out W hR).2.1 (DR.out W hR).2.2 (Nat.le_trans HL.out (by decide)))
  by_cases hrr : ¬ (rz = 0 ∧ rl = 0)
  · have NQ := ne_some hrr
    clear hrz hrl hrr sq
    obtain ⟨k0, k1, k2⟩ := KC.out _ R.out
    go_enter Try.func5, Try.ntmps5
    go_wp2_with (first | (go_at_call 8; (with_reducible refine (C0.out _ R.out).mono ?_); rintro e v1 ⟨rfl, hb⟩; have R := Lib.hid (R.out.step hb); clear hb; obtain ⟨k0, k1, k2⟩ := KC.out _ R.out) | (go_at_call 18; (with_reducible refine (C8.out _ R.out).mono ?_); rintro e v1 ⟨rfl, hb⟩; have R := Lib.hid (R.out.step hb); clear hb; obtain ⟨k0, k1, k2⟩ := KC.out _ R.out) | (go_at_call 10; (with_reducible refine (CX.out _ R.out).mono ?_); rintro e v1 ⟨rfl, hb⟩; have R := Lib.hid (R.out.step hb); clear hb; obtain ⟨k0, k1, k2⟩ := KC.out _ R.out; obtain ⟨e0, e1, e2⟩ := KC.out _ (R.out.alloc (.cells #[.slice (some ⟨b, o, none⟩) n1 c1, .slice A2 n2 c2] 25)); obtain ⟨f0, f1, f2⟩ := KC.out _ ((R.out.alloc (.cells #[.slice (some ⟨b, o, none⟩) n1 c1, .slice A2 n2 c2] 25)).alloc (.cells #[] 45)); have BW7 : Hid (Below w.heap.size w ((v1.alloc (.cells #[.slice (some ⟨b, o, none⟩) n1 c1, .slice A2 n2 c2] 25)).alloc (.cells #[] 45))) := Lib.hid ((R.out.alloc _).alloc _).below; have OW0 : Hid (((v1.alloc (.cells #[.slice (some ⟨b, o, none⟩) n1 c1, .slice A2 n2 c2] 25)).alloc (.cells #[] 45)).ownsRow (v1.heap.size + 1) 45 8 (.slice (some ⟨v1.heap.size + 1, 0, none⟩) 0 0) 0 []) := Lib.hid ⟨rfl, .inr ⟨v1.heap.size + 1, 0, #[], rfl, Nat.le_refl _, two_new v1 _ _, Nat.le_refl _, by unfold maxLen; omega, rfl, rfl⟩⟩; have Y0 : Hid (((v1.alloc (.cells #[.slice (some ⟨b, o, none⟩) n1 c1, .slice A2 n2 c2] 25)).alloc (.cells #[] 45)).heap[v1.heap.size]? = some (.cells #[.slice (some ⟨b, o, none⟩) n1 c1, .slice A2 n2 c2] 25 (0, 0))) := Lib.hid ((Below.heap_alloc _ _ _ (by simp)).trans (heap_alloc_new v1 _))) | (at_builtin; refine wpList_append_lies _ rfl (.tmp 36) (.tmp 38) 22 rfl (v1.heap.size + 1) 45 i0 _ 8 168 Try.underlying22 INF.out.1 INF.out.2.1 INF.out.2.2.1 INF.out.2.2.2 rfl (by decide) (.slice (some ⟨v1.heap.size + 1, 0, none⟩) 0 0) 0 [] rfl OW0.out ⟨b, o, none⟩ n1 c1 L.flatten rfl LL.out (NEWS.out _ BW7.out) ONE.out ?c1 ?c2 ?c3 ?c4 _ rfl ?_))
    case c1 => omega
    case c2 => unfold maxLen; omega
    case c3 => omega
    case c4 => simp
    intro g cap w2 hown hgrow hlie hlt
    have Y2 : Hid (Yst v1 w2 v1.heap.size g n1 cap (.slice (some ⟨b, o, none⟩) n1 c1) (.slice A2 n2 c2) L.flatten) := Lib.hid ⟨(hgrow.block v1.heap.size (by simp; omega) (by simp [Value.ownBlock])).trans Y0.out, hown, (two_below v1 _ _).grown hgrow (by simp; omega) (fun k hk => by simp [Value.ownBlock] at hk; omega)⟩
    have RB := R
    have LB : Hid ((L.flatten.set (k * 8 + 6) nilV).length = n1 * 8) := Lib.hid (by rw [List.length_set]; exact LL.out)
    have Y3 := Lib.hid (Y2.out.put0 (.slice (some ⟨g, 0, none⟩) n1 cap))
    have Y4 := Lib.hid (Y3.out.row (k * 8 + 6) nilV)
    have Y5 := Lib.hid (Y4.out.row (k * 8 + 7) nilV)
    have Y6 := Lib.hid (Y5.out.put1 (.slice A2 m c2))
    rw [NBV.out] at Y4 Y5 Y6
    obtain ⟨a0, a1, a2, a3⟩ := Y2.out.cells
    obtain ⟨d0, d1, d2, d3⟩ := Y3.out.cells
    obtain ⟨b0, b1, b2, b3⟩ := Y4.out.cells
    obtain ⟨j0, j1, j2, j3⟩ := Y5.out.cells
    obtain ⟨l0, l1, l2, l3⟩ := Y6.out.cells
    obtain ⟨⟨u6, x6⟩, y6⟩ := Y3.out.at LL.out (k * 8 + 6) (by have := HK.out; omega)
    obtain ⟨⟨u7, x7⟩, y7⟩ := Y4.out.at (by rw [List.length_set]; exact LL.out) (k * 8 + 7) (by have := HK.out; omega)
    obtain ⟨p0, p1, p2⟩ := KC.out _ (R.out.step Y5.out.bel)
    have hnc : (n1 : Int) ≤ 30 := by omega
    clear hown hgrow hlie hlt
    go_wp2_with fail
    go_region
    have R := Lib.hid (RB.out.step Y6.out.bel.drew)
    have CY : Hid (Calls Try.prog 10 #[.agg #[.slice (some ⟨g, 0, none⟩) n1 cap, .slice A2 m c2]] ((((w2.setCell ⟨v1.heap.size, 0, none⟩ (.slice (some ⟨g, 0, none⟩) n1 cap)).setCell ⟨g, k * 8 + 6, none⟩ (.slice none 0 0)).setCell ⟨g, k * 8 + 7, none⟩ (.slice none 0 0)).setCell ⟨v1.heap.size, 1, none⟩ (.slice A2 m c2)).drew fun e w' => e = .returned (.agg #[.int .u8 0, .int .i64 0]) ∧ Below ((((w2.setCell ⟨v1.heap.size, 0, none⟩ (.slice (some ⟨g, 0, none⟩) n1 cap)).setCell ⟨g, k * 8 + 6, none⟩ (.slice none 0 0)).setCell ⟨g, k * 8 + 7, none⟩ (.slice none 0 0)).setCell ⟨v1.heap.size, 1, none⟩ (.slice A2 m c2)).drew.heap.size ((((w2.setCell ⟨v1.heap.size, 0, none⟩ (.slice (some ⟨g, 0, none⟩) n1 cap)).setCell ⟨g, k * 8 + 6, none⟩ (.slice none 0 0)).setCell ⟨g, k * 8 + 7, none⟩ (.slice none 0 0)).setCell ⟨v1.heap.size, 1, none⟩ (.slice A2 m c2)).drew w') := Lib.hid (by
      have hy := recipe_any (YL.out _ _ g n1 cap R.out.below Y6.out.drew.own) (Nat.le_refl _) YN.out
      rw [YR.out] at hy
      exact hy)
    go_wp2_with (first | (go_at_call 10; (with_reducible refine (CY.out).mono ?_); rintro e v2 ⟨rfl, hb⟩; have R := Lib.hid (R.out.step hb); clear hb; obtain ⟨k0, k1, k2⟩ := KC.out _ R.out) | (go_at_call 19; (with_reducible refine (CQ.out _ R.out).mono ?_); rintro e v3 ⟨rfl, hb⟩; have R := Lib.hid (R.out.step hb); clear hb; obtain ⟨k0, k1, k2⟩ := KC.out _ R.out) | (go_at_call 9; (with_reducible refine (FX.out _ R.out).mono ?_); rintro e v1 ⟨rfl, hb⟩; have R := Lib.hid (R.out.step hb); clear hb; obtain ⟨k0, k1, k2⟩ := KC.out _ R.out))
    go_ret
    exact ⟨rfl, R.out.below⟩
  obtain ⟨rfl, rfl⟩ : rz = 0 ∧ rl = 0 := by
    by_cases e : rz = 0 ∧ rl = 0
    · exact e
    · exact absurd e hrr
  clear hrr
  by_cases hq2 : nq < 2
  · have hq2' : (nq : Int) < 2 := by omega
    clear hrz hrl sq
    obtain ⟨k0, k1, k2⟩ := KC.out _ R.out
    go_enter Try.func5, Try.ntmps5
    go_wp2_with (first | (go_at_call 8; (with_reducible refine (C0.out _ R.out).mono ?_); rintro e v1 ⟨rfl, hb⟩; have R := Lib.hid (R.out.step hb); clear hb; obtain ⟨k0, k1, k2⟩ := KC.out _ R.out) | (go_at_call 18; (with_reducible refine (C8.out _ R.out).mono ?_); rintro e v1 ⟨rfl, hb⟩; have R := Lib.hid (R.out.step hb); clear hb; obtain ⟨k0, k1, k2⟩ := KC.out _ R.out) | (go_at_call 10; (with_reducible refine (CX.out _ R.out).mono ?_); rintro e v1 ⟨rfl, hb⟩; have R := Lib.hid (R.out.step hb); clear hb; obtain ⟨k0, k1, k2⟩ := KC.out _ R.out; obtain ⟨e0, e1, e2⟩ := KC.out _ (R.out.alloc (.cells #[.slice (some ⟨b, o, none⟩) n1 c1, .slice A2 n2 c2] 25)); obtain ⟨f0, f1, f2⟩ := KC.out _ ((R.out.alloc (.cells #[.slice (some ⟨b, o, none⟩) n1 c1, .slice A2 n2 c2] 25)).alloc (.cells #[] 45)); have BW7 : Hid (Below w.heap.size w ((v1.alloc (.cells #[.slice (some ⟨b, o, none⟩) n1 c1, .slice A2 n2 c2] 25)).alloc (.cells #[] 45))) := Lib.hid ((R.out.alloc _).alloc _).below; have OW0 : Hid (((v1.alloc (.cells #[.slice (some ⟨b, o, none⟩) n1 c1, .slice A2 n2 c2] 25)).alloc (.cells #[] 45)).ownsRow (v1.heap.size + 1) 45 8 (.slice (some ⟨v1.heap.size + 1, 0, none⟩) 0 0) 0 []) := Lib.hid ⟨rfl, .inr ⟨v1.heap.size + 1, 0, #[], rfl, Nat.le_refl _, two_new v1 _ _, Nat.le_refl _, by unfold maxLen; omega, rfl, rfl⟩⟩; have Y0 : Hid (((v1.alloc (.cells #[.slice (some ⟨b, o, none⟩) n1 c1, .slice A2 n2 c2] 25)).alloc (.cells #[] 45)).heap[v1.heap.size]? = some (.cells #[.slice (some ⟨b, o, none⟩) n1 c1, .slice A2 n2 c2] 25 (0, 0))) := Lib.hid ((Below.heap_alloc _ _ _ (by simp)).trans (heap_alloc_new v1 _))) | (at_builtin; refine wpList_append_lies _ rfl (.tmp 36) (.tmp 38) 22 rfl (v1.heap.size + 1) 45 i0 _ 8 168 Try.underlying22 INF.out.1 INF.out.2.1 INF.out.2.2.1 INF.out.2.2.2 rfl (by decide) (.slice (some ⟨v1.heap.size + 1, 0, none⟩) 0 0) 0 [] rfl OW0.out ⟨b, o, none⟩ n1 c1 L.flatten rfl LL.out (NEWS.out _ BW7.out) ONE.out ?c1 ?c2 ?c3 ?c4 _ rfl ?_))
    case c1 => omega
    case c2 => unfold maxLen; omega
    case c3 => omega
    case c4 => simp
    intro g cap w2 hown hgrow hlie hlt
    have Y2 : Hid (Yst v1 w2 v1.heap.size g n1 cap (.slice (some ⟨b, o, none⟩) n1 c1) (.slice A2 n2 c2) L.flatten) := Lib.hid ⟨(hgrow.block v1.heap.size (by simp; omega) (by simp [Value.ownBlock])).trans Y0.out, hown, (two_below v1 _ _).grown hgrow (by simp; omega) (fun k hk => by simp [Value.ownBlock] at hk; omega)⟩
    have RB := R
    have LB : Hid ((L.flatten.set (k * 8 + 6) nilV).length = n1 * 8) := Lib.hid (by rw [List.length_set]; exact LL.out)
    have Y3 := Lib.hid (Y2.out.put0 (.slice (some ⟨g, 0, none⟩) n1 cap))
    have Y4 := Lib.hid (Y3.out.row (k * 8 + 6) nilV)
    have Y5 := Lib.hid (Y4.out.row (k * 8 + 7) nilV)
    have Y6 := Lib.hid (Y5.out.put1 (.slice A2 m c2))
    rw [NBV.out] at Y4 Y5 Y6
    obtain ⟨a0, a1, a2, a3⟩ := Y2.out.cells
    obtain ⟨d0, d1, d2, d3⟩ := Y3.out.cells
    obtain ⟨b0, b1, b2, b3⟩ := Y4.out.cells
    obtain ⟨j0, j1, j2, j3⟩ := Y5.out.cells
    obtain ⟨l0, l1, l2, l3⟩ := Y6.out.cells
    obtain ⟨⟨u6, x6⟩, y6⟩ := Y3.out.at LL.out (k * 8 + 6) (by have := HK.out; omega)
    obtain ⟨⟨u7, x7⟩, y7⟩ := Y4.out.at (by rw [List.length_set]; exact LL.out) (k * 8 + 7) (by have := HK.out; omega)
    obtain ⟨p0, p1, p2⟩ := KC.out _ (R.out.step Y5.out.bel)
    have hnc : (n1 : Int) ≤ 30 := by omega
    clear hown hgrow hlie hlt
    go_wp2_with fail
    go_region
    have R := Lib.hid (RB.out.step Y6.out.bel.drew)
    have CY : Hid (Calls Try.prog 10 #[.agg #[.slice (some ⟨g, 0, none⟩) n1 cap, .slice A2 m c2]] ((((w2.setCell ⟨v1.heap.size, 0, none⟩ (.slice (some ⟨g, 0, none⟩) n1 cap)).setCell ⟨g, k * 8 + 6, none⟩ (.slice none 0 0)).setCell ⟨g, k * 8 + 7, none⟩ (.slice none 0 0)).setCell ⟨v1.heap.size, 1, none⟩ (.slice A2 m c2)).drew fun e w' => e = .returned (.agg #[.int .u8 0, .int .i64 0]) ∧ Below ((((w2.setCell ⟨v1.heap.size, 0, none⟩ (.slice (some ⟨g, 0, none⟩) n1 cap)).setCell ⟨g, k * 8 + 6, none⟩ (.slice none 0 0)).setCell ⟨g, k * 8 + 7, none⟩ (.slice none 0 0)).setCell ⟨v1.heap.size, 1, none⟩ (.slice A2 m c2)).drew.heap.size ((((w2.setCell ⟨v1.heap.size, 0, none⟩ (.slice (some ⟨g, 0, none⟩) n1 cap)).setCell ⟨g, k * 8 + 6, none⟩ (.slice none 0 0)).setCell ⟨g, k * 8 + 7, none⟩ (.slice none 0 0)).setCell ⟨v1.heap.size, 1, none⟩ (.slice A2 m c2)).drew w') := Lib.hid (by
      have hy := recipe_any (YL.out _ _ g n1 cap R.out.below Y6.out.drew.own) (Nat.le_refl _) YN.out
      rw [YR.out] at hy
      exact hy)
    go_wp2_with (first | (go_at_call 10; (with_reducible refine (CY.out).mono ?_); rintro e v2 ⟨rfl, hb⟩; have R := Lib.hid (R.out.step hb); clear hb; obtain ⟨k0, k1, k2⟩ := KC.out _ R.out) | (go_at_call 19; (with_reducible refine (CQ.out _ R.out).mono ?_); rintro e v3 ⟨rfl, hb⟩; have R := Lib.hid (R.out.step hb); clear hb; obtain ⟨k0, k1, k2⟩ := KC.out _ R.out) | (go_at_call 9; (with_reducible refine (FX.out _ R.out).mono ?_); rintro e v1 ⟨rfl, hb⟩; have R := Lib.hid (R.out.step hb); clear hb; obtain ⟨k0, k1, k2⟩ := KC.out _ R.out))
    go_ret
    exact ⟨rfl, R.out.below⟩
  have hq2' : ¬ (nq : Int) < 2 := by omega
  obtain ⟨r0, bq, oq, D1, m1, e1, D2, m2, e2, -, hAq, t5, -⟩ := rt_at sq (show 0 < nq by omega)
  subst hAq
  obtain ⟨M, hM⟩ := row_news (by decide) (fun vs y hy => rt_one vs y hy) sq (fun e => by rw [e] at sq; have := sq.len; simp at this; omega)
  obtain ⟨n, hn, hn255, hne, hnt⟩ := mod_nat ha0 ha1 (show 0 < nq by omega)
  have hn' : (n : Int) < (nq : Int) := by omega
  have hnl : n < q.length := by rw [← sq.len]; exact hn
  have n40 : nq ≤ 40 := by rw [sq.len]; exact HLQ.out
  have hcq := sq.cap
  have hcm := sq.max
  have QR : Hid (reqF x (q.take n ++ q.drop (n + 1)) = (0, 0)) := Lib.hid (req_less hnl (by rw [← sq.len]; omega) hrz.symm)
  have LT1 := Lib.hid (news_take hM (Nat.le_of_lt hnl))
  have LT2 : Hid ((M.drop (n + 1)).flatten.length = (nq - (n + 1)) * 4 ∧ (∀ (j : Nat) (u : Value), (M.drop (n + 1)).flatten[j]? = some u → w.cell? ((⟨bq, oq + (n + 1) * 4, none⟩ : Addr).add j) = some u) ∧ ∀ u ∈ (M.drop (n + 1)).flatten, u.oneCell' = true) := Lib.hid (by rw [sq.len]; exact news_drop hM hnl)
  have TB := Lib.hid t5
  have QL : Hid (∀ (W : World) (base cp : Nat) (A : Option Addr), Below w.heap.size w W → W.ownsRow base 72 4 (.slice A (nq - 1) cp) (nq - 1) ((M.take n).flatten ++ (M.drop (n + 1)).flatten) → rqD W W.heap.size [.slice A (nq - 1) cp] (q.take n ++ q.drop (n + 1))) := Lib.hid (fun W base cp A hb ho =>
    rq_of (own_less hM hb hb.size hnl (by rw [← sq.len]) ho))
  obtain ⟨i1, hi1, hz9⟩ := Option.map_eq_some_iff.1 info_rt
  simp only [Prod.mk.injEq] at hz9
  obtain ⟨hi2, hi3, hi4⟩ := hz9
  have INR := Lib.hid (And.intro hi1 (And.intro hi2 (And.intro hi3 hi4)))
  have HNQ := Lib.hid hn
  clear hi1 hi2 hi3 hi4 hrz hrl sq hM hq2
  have hw1 : IntKind.i64.wrap ((n : Int) + 1) = (n : Int) + 1 := IntWalk.i64_in _ (by omega)
  have hw2 : ((n : Int) + 1).toNat = n + 1 := by omega
  obtain ⟨k0, k1, k2⟩ := KC.out _ R.out
  go_enter Try.func5, Try.ntmps5
  go_wp2_with (first | (go_at_call 8; (with_reducible refine (C0.out _ R.out).mono ?_); rintro e v1 ⟨rfl, hb⟩; have R := Lib.hid (R.out.step hb); clear hb; obtain ⟨k0, k1, k2⟩ := KC.out _ R.out) | (go_at_call 18; (with_reducible refine (C8.out _ R.out).mono ?_); rintro e v1 ⟨rfl, hb⟩; have R := Lib.hid (R.out.step hb); clear hb; obtain ⟨k0, k1, k2⟩ := KC.out _ R.out) | (go_at_call 10; (with_reducible refine (CX.out _ R.out).mono ?_); rintro e v1 ⟨rfl, hb⟩; have R := Lib.hid (R.out.step hb); clear hb; obtain ⟨k0, k1, k2⟩ := KC.out _ R.out; obtain ⟨e0, e1, e2⟩ := KC.out _ (R.out.alloc (.cells #[.slice (some ⟨b, o, none⟩) n1 c1, .slice A2 n2 c2] 25)); obtain ⟨f0, f1, f2⟩ := KC.out _ ((R.out.alloc (.cells #[.slice (some ⟨b, o, none⟩) n1 c1, .slice A2 n2 c2] 25)).alloc (.cells #[] 45)); have BW7 : Hid (Below w.heap.size w ((v1.alloc (.cells #[.slice (some ⟨b, o, none⟩) n1 c1, .slice A2 n2 c2] 25)).alloc (.cells #[] 45))) := Lib.hid ((R.out.alloc _).alloc _).below; have OW0 : Hid (((v1.alloc (.cells #[.slice (some ⟨b, o, none⟩) n1 c1, .slice A2 n2 c2] 25)).alloc (.cells #[] 45)).ownsRow (v1.heap.size + 1) 45 8 (.slice (some ⟨v1.heap.size + 1, 0, none⟩) 0 0) 0 []) := Lib.hid ⟨rfl, .inr ⟨v1.heap.size + 1, 0, #[], rfl, Nat.le_refl _, two_new v1 _ _, Nat.le_refl _, by unfold maxLen; omega, rfl, rfl⟩⟩; have Y0 : Hid (((v1.alloc (.cells #[.slice (some ⟨b, o, none⟩) n1 c1, .slice A2 n2 c2] 25)).alloc (.cells #[] 45)).heap[v1.heap.size]? = some (.cells #[.slice (some ⟨b, o, none⟩) n1 c1, .slice A2 n2 c2] 25 (0, 0))) := Lib.hid ((Below.heap_alloc _ _ _ (by simp)).trans (heap_alloc_new v1 _))) | (at_builtin; refine wpList_append_lies _ rfl (.tmp 36) (.tmp 38) 22 rfl (v1.heap.size + 1) 45 i0 _ 8 168 Try.underlying22 INF.out.1 INF.out.2.1 INF.out.2.2.1 INF.out.2.2.2 rfl (by decide) (.slice (some ⟨v1.heap.size + 1, 0, none⟩) 0 0) 0 [] rfl OW0.out ⟨b, o, none⟩ n1 c1 L.flatten rfl LL.out (NEWS.out _ BW7.out) ONE.out ?c1 ?c2 ?c3 ?c4 _ rfl ?_))
  case c1 => omega
  case c2 => unfold maxLen; omega
  case c3 => omega
  case c4 => simp
  intro g cap w2 hown hgrow hlie hlt
  have Y2 : Hid (Yst v1 w2 v1.heap.size g n1 cap (.slice (some ⟨b, o, none⟩) n1 c1) (.slice A2 n2 c2) L.flatten) := Lib.hid ⟨(hgrow.block v1.heap.size (by simp; omega) (by simp [Value.ownBlock])).trans Y0.out, hown, (two_below v1 _ _).grown hgrow (by simp; omega) (fun k hk => by simp [Value.ownBlock] at hk; omega)⟩
  have RB := R
  have LB : Hid ((L.flatten.set (k * 8 + 6) nilV).length = n1 * 8) := Lib.hid (by rw [List.length_set]; exact LL.out)
  have Y3 := Lib.hid (Y2.out.put0 (.slice (some ⟨g, 0, none⟩) n1 cap))
  have Y4 := Lib.hid (Y3.out.row (k * 8 + 6) nilV)
  have Y5 := Lib.hid (Y4.out.row (k * 8 + 7) nilV)
  have Y6 := Lib.hid (Y5.out.put1 (.slice A2 m c2))
  rw [NBV.out] at Y4 Y5 Y6
  obtain ⟨a0, a1, a2, a3⟩ := Y2.out.cells
  obtain ⟨d0, d1, d2, d3⟩ := Y3.out.cells
  obtain ⟨b0, b1, b2, b3⟩ := Y4.out.cells
  obtain ⟨j0, j1, j2, j3⟩ := Y5.out.cells
  obtain ⟨l0, l1, l2, l3⟩ := Y6.out.cells
  obtain ⟨⟨u6, x6⟩, y6⟩ := Y3.out.at LL.out (k * 8 + 6) (by have := HK.out; omega)
  obtain ⟨⟨u7, x7⟩, y7⟩ := Y4.out.at (by rw [List.length_set]; exact LL.out) (k * 8 + 7) (by have := HK.out; omega)
  obtain ⟨p0, p1, p2⟩ := KC.out _ (R.out.step Y5.out.bel)
  have hnc : (n1 : Int) ≤ 30 := by omega
  clear hown hgrow hlie hlt
  go_wp2_with fail
  go_region
  have R := Lib.hid (RB.out.step Y6.out.bel.drew)
  have CY : Hid (Calls Try.prog 10 #[.agg #[.slice (some ⟨g, 0, none⟩) n1 cap, .slice A2 m c2]] ((((w2.setCell ⟨v1.heap.size, 0, none⟩ (.slice (some ⟨g, 0, none⟩) n1 cap)).setCell ⟨g, k * 8 + 6, none⟩ (.slice none 0 0)).setCell ⟨g, k * 8 + 7, none⟩ (.slice none 0 0)).setCell ⟨v1.heap.size, 1, none⟩ (.slice A2 m c2)).drew fun e w' => e = .returned (.agg #[.int .u8 0, .int .i64 0]) ∧ Below ((((w2.setCell ⟨v1.heap.size, 0, none⟩ (.slice (some ⟨g, 0, none⟩) n1 cap)).setCell ⟨g, k * 8 + 6, none⟩ (.slice none 0 0)).setCell ⟨g, k * 8 + 7, none⟩ (.slice none 0 0)).setCell ⟨v1.heap.size, 1, none⟩ (.slice A2 m c2)).drew.heap.size ((((w2.setCell ⟨v1.heap.size, 0, none⟩ (.slice (some ⟨g, 0, none⟩) n1 cap)).setCell ⟨g, k * 8 + 6, none⟩ (.slice none 0 0)).setCell ⟨g, k * 8 + 7, none⟩ (.slice none 0 0)).setCell ⟨v1.heap.size, 1, none⟩ (.slice A2 m c2)).drew w') := Lib.hid (by
    have hy := recipe_any (YL.out _ _ g n1 cap R.out.below Y6.out.drew.own) (Nat.le_refl _) YN.out
    rw [YR.out] at hy
    exact hy)
  go_wp2_with (first | (go_at_call 10; (with_reducible refine (CY.out).mono ?_); rintro e v2 ⟨rfl, hb⟩; have R := Lib.hid (R.out.step hb); clear hb; obtain ⟨k0, k1, k2⟩ := KC.out _ R.out) | (go_at_call 19; (with_reducible refine (CQ.out _ R.out).mono ?_); rintro e v3 ⟨rfl, hb⟩; have R := Lib.hid (R.out.step hb); clear hb; obtain ⟨k0, k1, k2⟩ := KC.out _ R.out))
  have RV := R
  have R := Lib.hid R.out.drew
  have OWR : Hid ((v3.alloc (.cells #[] 72)).drew.ownsRow v3.heap.size 72 4 (.slice (some ⟨v3.heap.size, 0, none⟩) 0 0) 0 []) := Lib.hid ⟨rfl, .inr ⟨v3.heap.size, 0, #[], rfl, Nat.le_refl _, heap_alloc_new v3 _, Nat.le_refl _, by unfold maxLen; omega, rfl, rfl⟩⟩
  have B84 : Hid (Below v3.heap.size v3 (v3.alloc (.cells #[] 72)).drew) := Lib.hid ((Below.refl _ _).alloc (Nat.le_refl _) _).drew
  have RX := Lib.hid (RV.out.step B84.out)
  have NW1 := Lib.hid (news_below LT1.out.2.1 RX.out.below TB.out)
  by_cases hcn : cq = n + 1
  · have hnq : nq = n + 1 := by omega
    subst hcn
    obtain rfl : nq = n + 1 := hnq
    have hz0 : n ≤ n + 1 := by omega
    have hz2 : (n : Int) ≤ (n : Int) + 1 := by omega
    have hz6 : (0 : Int) ≤ (n : Int) + 1 := by omega
    have HNIL : Hid ((M.drop (n + 1)).flatten = []) := Lib.hid (List.eq_nil_of_length_eq_zero (by rw [LT2.out.1]; omega))
    refine wp_region_noPanic ?_
    refine wp_region_held_drew (S := fun W => W.cell? ⟨w.heap.size + 1, 0, none⟩ = some (.slice (some ⟨bq, oq, none⟩) (n + 1) (n + 1))) (by kernel_rfl) (by exact (KC.out _ R.out).2.2) (fun hHeld => ?_)
    refine wpAnyH_take (i := 1) (oi := _) (v := ?_) rfl (by kernel_rfl) (by kernel_rfl) (by kernel_rfl) (fun _ _ _ h => h) (Or.inl ⟨by rfl, ?_⟩) (by assumption) ?_
    rotate_left
    (focus (intro w' hSw; (try dsimp only at hSw); go_simp; first | done | with_reducible rfl))
    (try simp only [List.getElem_toArray, List.getElem_cons_zero, List.getElem_cons_succ, Act.put, List.setIfInBounds_toArray, List.set_cons_zero, List.set_cons_succ])
    refine wpAnyH_take (i := 2) (oi := _) (v := ?_) rfl (by kernel_rfl) (by kernel_rfl) (by kernel_rfl) (fun _ _ _ h => h) (Or.inl ⟨by rfl, ?_⟩) (by assumption) ?_
    rotate_left
    (focus (intro w' hSw; (try dsimp only at hSw); go_simp; first | done | with_reducible rfl))
    (try simp only [List.getElem_toArray, List.getElem_cons_zero, List.getElem_cons_succ, Act.put, List.setIfInBounds_toArray, List.set_cons_zero, List.set_cons_succ])
    refine wpAnyH_take (i := 3) (oi := _) (v := ?_) rfl (by kernel_rfl) (by kernel_rfl) (by kernel_rfl) (fun _ _ _ h => h) (Or.inl ⟨by rfl, ?_⟩) (by assumption) ?_
    rotate_left
    (focus (intro w' hSw; (try dsimp only at hSw); go_simp; first | done | with_reducible rfl))
    (try simp only [List.getElem_toArray, List.getElem_cons_zero, List.getElem_cons_succ, Act.put, List.setIfInBounds_toArray, List.set_cons_zero, List.set_cons_succ])
    refine wpAnyH_take (i := 4) (oi := _) (v := ?_) rfl (by kernel_rfl) (by kernel_rfl) (by kernel_rfl) (fun _ _ _ h => h) (Or.inl ⟨by rfl, ?_⟩) (by assumption) ?_
    rotate_left
    (focus (intro w' hSw; (try dsimp only at hSw); go_simp; first | done | with_reducible rfl))
    (try simp only [List.getElem_toArray, List.getElem_cons_zero, List.getElem_cons_succ, Act.put, List.setIfInBounds_toArray, List.set_cons_zero, List.set_cons_succ])
    refine wpAnyH_take (i := 6) (oi := _) (v := ?_) rfl (by kernel_rfl) (by kernel_rfl) (by kernel_rfl) (fun _ _ _ h => h) (Or.inl ⟨by rfl, ?_⟩) (by assumption) ?_
    rotate_left
    (focus (intro w' hSw; (try dsimp only at hSw); go_simp; first | done | with_reducible rfl))
    (try simp only [List.getElem_toArray, List.getElem_cons_zero, List.getElem_cons_succ, Act.put, List.setIfInBounds_toArray, List.set_cons_zero, List.set_cons_succ])
    refine wpAnyH_take (i := 7) (oi := _) (v := ?_) rfl (by kernel_rfl) (by kernel_rfl) (by kernel_rfl) (fun _ _ _ h => h) (Or.inl ⟨by rfl, ?_⟩) (by assumption) ?_
    rotate_left
    (focus (intro w' hSw; (try dsimp only at hSw); go_simp; first | done | with_reducible rfl))
    (try simp only [List.getElem_toArray, List.getElem_cons_zero, List.getElem_cons_succ, Act.put, List.setIfInBounds_toArray, List.set_cons_zero, List.set_cons_succ])
    refine wpAnyH_take (i := 8) (oi := _) (v := ?_) rfl (by kernel_rfl) (by kernel_rfl) (by kernel_rfl) (fun _ _ _ h => h) (Or.inl ⟨by rfl, ?_⟩) (by assumption) ?_
    rotate_left
    (focus (intro w' hSw; (try dsimp only at hSw); go_simp; first | done | with_reducible rfl))
    (try simp only [List.getElem_toArray, List.getElem_cons_zero, List.getElem_cons_succ, Act.put, List.setIfInBounds_toArray, List.set_cons_zero, List.set_cons_succ])
    refine wpAnyH_take (i := 9) (oi := _) (v := ?_) rfl (by kernel_rfl) (by kernel_rfl) (by kernel_rfl) (fun _ _ _ h => h) (Or.inl ⟨by rfl, ?_⟩) (by assumption) ?_
    rotate_left
    (focus (intro w' hSw; (try dsimp only at hSw); go_simp; first | done | with_reducible rfl))
    (try simp only [List.getElem_toArray, List.getElem_cons_zero, List.getElem_cons_succ, Act.put, List.setIfInBounds_toArray, List.set_cons_zero, List.set_cons_succ])
    refine wpAnyH_take (i := 10) (oi := _) (v := ?_) rfl (by kernel_rfl) (by kernel_rfl) (by kernel_rfl) (fun _ _ _ h => h) (Or.inl ⟨by rfl, ?_⟩) (by assumption) ?_
    rotate_left
    (focus (intro w' hSw; (try dsimp only at hSw); go_simp; first | done | with_reducible rfl))
    (try simp only [List.getElem_toArray, List.getElem_cons_zero, List.getElem_cons_succ, Act.put, List.setIfInBounds_toArray, List.set_cons_zero, List.set_cons_succ])
    refine wpAnyH_ready (rs := [0]) (by kernel_rfl) (by simp) ?_
    refine AllReadyH.cons (o := _) rfl (fun K' hK => ?_) AllReadyH.nil
    go_simp
    refine hK.out _ _ (by exact (KC.out _ RX.out).2.2) (fun hHeld => ?_)
    clear hK K'
    (try simp only [List.getElem_toArray, List.getElem_cons_zero, List.getElem_cons_succ, Act.put, List.setIfInBounds_toArray, List.set_cons_zero, List.set_cons_succ])
    refine wpAnyH_ready (rs := [5]) (by kernel_rfl) (by simp) ?_
    refine AllReadyH.cons (o := _) rfl (fun K' hK => ?_) AllReadyH.nil
    (refine step_append_at _ (by rfl) (.tmp 84) (.tmp 88) 35 (by rfl) v3.heap.size 72 i1 _ 4 72 Try.underlying35 INR.out.1 INR.out.2.1 INR.out.2.2.1 INR.out.2.2.2 (by rfl) (by decide) (.slice (some ⟨v3.heap.size, 0, none⟩) 0 0) 0 [] (by rfl) OWR.out ⟨bq, oq, none⟩ n (n + 1) (M.take n).flatten (by rfl) LT1.out.1 NW1.out LT1.out.2.2 (by unfold maxLen; omega) (by omega) B84.out.size ?_; intro x4 w4 hown4 hgr4 hnil4; have O4 := Lib.hid hown4; have B4 : Hid (Below v3.heap.size v3 w4) := Lib.hid (B84.out.grown hgr4 B84.out.size (fun k hk => (OWR.out.lt k hk).1)); have R4 := Lib.hid (RV.out.step B4.out); have NW2 := Lib.hid (news_below LT2.out.2.1 R4.out.below TB.out); clear hown4 hgr4 hnil4)
    refine hK.out _ _ (by exact (KC.out _ R4.out).2.2) (fun hHeld => ?_)
    clear hK K'
    (try simp only [List.getElem_toArray, List.getElem_cons_zero, List.getElem_cons_succ, Act.put, List.setIfInBounds_toArray, List.set_cons_zero, List.set_cons_succ])
    refine wpAnyH_ready (rs := [11]) (by kernel_rfl) (by simp) ?_
    refine AllReadyH.cons (o := _) rfl (fun K' hK => ?_) AllReadyH.nil
    (refine step_append_at _ (by rfl) (.tmp 89) (.tmp 94) 35 (by rfl) v3.heap.size 72 i1 _ 4 72 Try.underlying35 INR.out.1 INR.out.2.1 INR.out.2.2.1 INR.out.2.2.2 (by rfl) (by decide) x4 _ _ (by rfl) O4.out ⟨bq, oq, none⟩ 0 0 [] (by rfl) rfl (fun j u hu => by simp at hu) (fun u hu => by simp at hu) (by unfold maxLen; omega) (by omega) B4.out.size ?_; intro x5 w5 hown5 hgr5 hnil5; have O5 := Lib.hid hown5; have B5 : Hid (Below v3.heap.size v3 w5) := Lib.hid (B4.out.grown hgr5 B4.out.size (fun k hk => (O4.out.lt k hk).1)); have R5 := Lib.hid (RV.out.step B5.out); clear hown5 hgr5 hnil5)
    refine hK.out _ _ (by exact (KC.out _ R5.out).2.2) (fun hHeld => ?_)
    clear hK K'
    (try simp only [List.getElem_toArray, List.getElem_cons_zero, List.getElem_cons_succ, Act.put, List.setIfInBounds_toArray, List.set_cons_zero, List.set_cons_succ])
    refine wpAnyH_take (i := 12) (oi := _) (v := ?_) rfl (by kernel_rfl) (by kernel_rfl) (by kernel_rfl) (fun _ _ _ h => h) (Or.inl ⟨by rfl, ?_⟩) (by assumption) ?_
    rotate_left
    (focus (intro w' hSw; (try dsimp only at hSw); go_simp; first | done | with_reducible rfl))
    (try simp only [List.getElem_toArray, List.getElem_cons_zero, List.getElem_cons_succ, Act.put, List.setIfInBounds_toArray, List.set_cons_zero, List.set_cons_succ])
    refine wpAnyH_done (by kernel_rfl) ?_ _
    refine NoPanic.normal ?_
    have O6 : Hid (w5.ownsRow v3.heap.size 72 4 x5 n ((M.take n).flatten ++ (M.drop (n + 1)).flatten)) := Lib.hid (by
      have ho := O5.out
      first | rw [show 0 + n + (n + 1 - (n + 1)) = n by omega] at ho | rw [show n + (n + 1 - (n + 1)) = n by omega] at ho | skip
      first | exact ho | (rw [List.nil_append] at ho; exact ho) | (rw [HNIL.out, List.append_nil]; simpa using ho))
    obtain ⟨A5, c5, rfl⟩ := own_form O6.out
    have CZ : Hid (∀ W, Bxs w [(#[.slice (some ⟨b, o, none⟩) n1 c1, .slice A2 n2 c2], 25), (#[.slice (some ⟨bq, oq, none⟩) (n + 1) (n + 1)], 37)] W → Below w5.heap.size w5 W → Calls Try.prog 19 #[.agg #[.slice (some ⟨b, o, none⟩) n1 c1, .slice A2 n2 c2], .agg #[.slice A5 n c5]] W fun e w' => e = .returned (.agg #[.int .u8 0, .int .i64 0]) ∧ Below W.heap.size W w') := Lib.hid (fun W hR hb => by
      have h1 := rc_stays _ _ _ _ _ _ (DR.out W hR).1 (Nat.le_trans R5.out.below.size (Nat.le_refl _)) (Below.refl _ W)
      have h2 := rq_stays _ _ _ _ _ _ (QL.out w5 _ _ _ R5.out.below O6.out) (Nat.le_refl _) hb
      have hy := request_any h1 h2 hb.size (Nat.le_trans HL.out (by decide))
      rw [QR.out] at hy
      exact hy)
    have EQ := eq_zero
    clear CX CY CQ C0 C8
    go_wp2_with (first | (go_at_call 9; (with_reducible refine (FX.out _ R5.out).mono ?_); rintro e v6 ⟨rfl, hb⟩; have R6 := Lib.hid (R5.out.step hb); have B6 := Lib.hid hb; clear hb; obtain ⟨k0, k1, k2⟩ := KC.out _ R6.out) | (go_at_call 19; (with_reducible refine (CZ.out _ R6.out B6.out).mono ?_); rintro e v7 ⟨rfl, hb⟩; have R7 := Lib.hid (R6.out.step hb); clear hb))
    go_ret
    exact ⟨rfl, R7.out.below⟩
  have hcn' : ¬ (cq : Int) = (n : Int) + 1 := by omega
  have hz0 : n ≤ cq := by omega
  have hz2 : (n : Int) ≤ (cq : Int) := by omega
  have hz3 : n + 1 ≤ nq := by omega
  have hz4 : (n : Int) + 1 ≤ (nq : Int) := by omega
  have hz6 : (0 : Int) ≤ (n : Int) + 1 := by omega
  have hz5 : (nq : Int) ≤ (cq : Int) := by omega
  refine wp_region_noPanic ?_
  refine wp_region_held_drew (S := fun W => W.cell? ⟨w.heap.size + 1, 0, none⟩ = some (.slice (some ⟨bq, oq, none⟩) nq cq)) (by kernel_rfl) (by exact (KC.out _ R.out).2.2) (fun hHeld => ?_)
  refine wpAnyH_take (i := 1) (oi := _) (v := ?_) rfl (by kernel_rfl) (by kernel_rfl) (by kernel_rfl) (fun _ _ _ h => h) (Or.inl ⟨by rfl, ?_⟩) (by assumption) ?_
  rotate_left
  (focus (intro w' hSw; (try dsimp only at hSw); go_simp; first | done | with_reducible rfl))
  (try simp only [List.getElem_toArray, List.getElem_cons_zero, List.getElem_cons_succ, Act.put, List.setIfInBounds_toArray, List.set_cons_zero, List.set_cons_succ])
  refine wpAnyH_take (i := 2) (oi := _) (v := ?_) rfl (by kernel_rfl) (by kernel_rfl) (by kernel_rfl) (fun _ _ _ h => h) (Or.inl ⟨by rfl, ?_⟩) (by assumption) ?_
  rotate_left
  (focus (intro w' hSw; (try dsimp only at hSw); go_simp; first | done | with_reducible rfl))
  (try simp only [List.getElem_toArray, List.getElem_cons_zero, List.getElem_cons_succ, Act.put, List.setIfInBounds_toArray, List.set_cons_zero, List.set_cons_succ])
  refine wpAnyH_take (i := 3) (oi := _) (v := ?_) rfl (by kernel_rfl) (by kernel_rfl) (by kernel_rfl) (fun _ _ _ h => h) (Or.inl ⟨by rfl, ?_⟩) (by assumption) ?_
  rotate_left
  (focus (intro w' hSw; (try dsimp only at hSw); go_simp; first | done | with_reducible rfl))
  (try simp only [List.getElem_toArray, List.getElem_cons_zero, List.getElem_cons_succ, Act.put, List.setIfInBounds_toArray, List.set_cons_zero, List.set_cons_succ])
  refine wpAnyH_take (i := 4) (oi := _) (v := ?_) rfl (by kernel_rfl) (by kernel_rfl) (by kernel_rfl) (fun _ _ _ h => h) (Or.inl ⟨by rfl, ?_⟩) (by assumption) ?_
  rotate_left
  (focus (intro w' hSw; (try dsimp only at hSw); go_simp; first | done | with_reducible rfl))
  (try simp only [List.getElem_toArray, List.getElem_cons_zero, List.getElem_cons_succ, Act.put, List.setIfInBounds_toArray, List.set_cons_zero, List.set_cons_succ])
  refine wpAnyH_take (i := 6) (oi := _) (v := ?_) rfl (by kernel_rfl) (by kernel_rfl) (by kernel_rfl) (fun _ _ _ h => h) (Or.inl ⟨by rfl, ?_⟩) (by assumption) ?_
  rotate_left
  (focus (intro w' hSw; (try dsimp only at hSw); go_simp; first | done | with_reducible rfl))
  (try simp only [List.getElem_toArray, List.getElem_cons_zero, List.getElem_cons_succ, Act.put, List.setIfInBounds_toArray, List.set_cons_zero, List.set_cons_succ])
  refine wpAnyH_take (i := 7) (oi := _) (v := ?_) rfl (by kernel_rfl) (by kernel_rfl) (by kernel_rfl) (fun _ _ _ h => h) (Or.inl ⟨by rfl, ?_⟩) (by assumption) ?_
  rotate_left
  (focus (intro w' hSw; (try dsimp only at hSw); go_simp; first | done | with_reducible rfl))
  (try simp only [List.getElem_toArray, List.getElem_cons_zero, List.getElem_cons_succ, Act.put, List.setIfInBounds_toArray, List.set_cons_zero, List.set_cons_succ])
  refine wpAnyH_take (i := 8) (oi := _) (v := ?_) rfl (by kernel_rfl) (by kernel_rfl) (by kernel_rfl) (fun _ _ _ h => h) (Or.inl ⟨by rfl, ?_⟩) (by assumption) ?_
  rotate_left
  (focus (intro w' hSw; (try dsimp only at hSw); go_simp; first | done | with_reducible rfl))
  (try simp only [List.getElem_toArray, List.getElem_cons_zero, List.getElem_cons_succ, Act.put, List.setIfInBounds_toArray, List.set_cons_zero, List.set_cons_succ])
  refine wpAnyH_take (i := 9) (oi := _) (v := ?_) rfl (by kernel_rfl) (by kernel_rfl) (by kernel_rfl) (fun _ _ _ h => h) (Or.inl ⟨by rfl, ?_⟩) (by assumption) ?_
  rotate_left
  (focus (intro w' hSw; (try dsimp only at hSw); go_simp; first | done | with_reducible rfl))
  (try simp only [List.getElem_toArray, List.getElem_cons_zero, List.getElem_cons_succ, Act.put, List.setIfInBounds_toArray, List.set_cons_zero, List.set_cons_succ])
  refine wpAnyH_take (i := 10) (oi := _) (v := ?_) rfl (by kernel_rfl) (by kernel_rfl) (by kernel_rfl) (fun _ _ _ h => h) (Or.inl ⟨by rfl, ?_⟩) (by assumption) ?_
  rotate_left
  (focus (intro w' hSw; (try dsimp only at hSw); go_simp; first | done | with_reducible rfl))
  (try simp only [List.getElem_toArray, List.getElem_cons_zero, List.getElem_cons_succ, Act.put, List.setIfInBounds_toArray, List.set_cons_zero, List.set_cons_succ])
  refine wpAnyH_ready (rs := [0]) (by kernel_rfl) (by simp) ?_
  refine AllReadyH.cons (o := _) rfl (fun K' hK => ?_) AllReadyH.nil
  go_simp
  refine hK.out _ _ (by exact (KC.out _ RX.out).2.2) (fun hHeld => ?_)
  clear hK K'
  (try simp only [List.getElem_toArray, List.getElem_cons_zero, List.getElem_cons_succ, Act.put, List.setIfInBounds_toArray, List.set_cons_zero, List.set_cons_succ])
  refine wpAnyH_ready (rs := [5]) (by kernel_rfl) (by simp) ?_
  refine AllReadyH.cons (o := _) rfl (fun K' hK => ?_) AllReadyH.nil
  (refine step_append_at _ (by rfl) (.tmp 84) (.tmp 88) 35 (by rfl) v3.heap.size 72 i1 _ 4 72 Try.underlying35 INR.out.1 INR.out.2.1 INR.out.2.2.1 INR.out.2.2.2 (by rfl) (by decide) (.slice (some ⟨v3.heap.size, 0, none⟩) 0 0) 0 [] (by rfl) OWR.out ⟨bq, oq, none⟩ n cq (M.take n).flatten (by rfl) LT1.out.1 NW1.out LT1.out.2.2 (by unfold maxLen; omega) (by omega) B84.out.size ?_; intro x4 w4 hown4 hgr4 hnil4; have O4 := Lib.hid hown4; have B4 : Hid (Below v3.heap.size v3 w4) := Lib.hid (B84.out.grown hgr4 B84.out.size (fun k hk => (OWR.out.lt k hk).1)); have R4 := Lib.hid (RV.out.step B4.out); have NW2 := Lib.hid (news_below LT2.out.2.1 R4.out.below TB.out); clear hown4 hgr4 hnil4)
  refine hK.out _ _ (by exact (KC.out _ R4.out).2.2) (fun hHeld => ?_)
  clear hK K'
  (try simp only [List.getElem_toArray, List.getElem_cons_zero, List.getElem_cons_succ, Act.put, List.setIfInBounds_toArray, List.set_cons_zero, List.set_cons_succ])
  refine wpAnyH_ready (rs := [11]) (by kernel_rfl) (by simp) ?_
  refine AllReadyH.cons (o := _) rfl (fun K' hK => ?_) AllReadyH.nil
  (refine step_append_at _ (by rfl) (.tmp 89) (.tmp 94) 35 (by rfl) v3.heap.size 72 i1 _ 4 72 Try.underlying35 INR.out.1 INR.out.2.1 INR.out.2.2.1 INR.out.2.2.2 (by rfl) (by decide) x4 _ _ (by rfl) O4.out ⟨bq, oq + (n + 1) * 4, none⟩ (nq - (n + 1)) (cq - (n + 1)) (M.drop (n + 1)).flatten (by rfl) LT2.out.1 NW2.out LT2.out.2.2 (by unfold maxLen; omega) (by omega) B4.out.size ?_; intro x5 w5 hown5 hgr5 hnil5; have O5 := Lib.hid hown5; have B5 : Hid (Below v3.heap.size v3 w5) := Lib.hid (B4.out.grown hgr5 B4.out.size (fun k hk => (O4.out.lt k hk).1)); have R5 := Lib.hid (RV.out.step B5.out); clear hown5 hgr5 hnil5)
  refine hK.out _ _ (by exact (KC.out _ R5.out).2.2) (fun hHeld => ?_)
  clear hK K'
  (try simp only [List.getElem_toArray, List.getElem_cons_zero, List.getElem_cons_succ, Act.put, List.setIfInBounds_toArray, List.set_cons_zero, List.set_cons_succ])
  refine wpAnyH_take (i := 12) (oi := _) (v := ?_) rfl (by kernel_rfl) (by kernel_rfl) (by kernel_rfl) (fun _ _ _ h => h) (Or.inl ⟨by rfl, ?_⟩) (by assumption) ?_
  rotate_left
  (focus (intro w' hSw; (try dsimp only at hSw); go_simp; first | done | with_reducible rfl))
  (try simp only [List.getElem_toArray, List.getElem_cons_zero, List.getElem_cons_succ, Act.put, List.setIfInBounds_toArray, List.set_cons_zero, List.set_cons_succ])
  refine wpAnyH_done (by kernel_rfl) ?_ _
  refine NoPanic.normal ?_
  have O6 : Hid (w5.ownsRow v3.heap.size 72 4 x5 (nq - 1) ((M.take n).flatten ++ (M.drop (n + 1)).flatten)) := Lib.hid (by
    have ho := O5.out
    first | rw [show 0 + n + (nq - (n + 1)) = nq - 1 by omega] at ho | rw [show n + (nq - (n + 1)) = nq - 1 by omega] at ho | skip
    first | exact ho | (rw [List.nil_append] at ho; exact ho) | (rw [HNIL.out, List.append_nil]; simpa using ho))
  obtain ⟨A5, c5, rfl⟩ := own_form O6.out
  have CZ : Hid (∀ W, Bxs w [(#[.slice (some ⟨b, o, none⟩) n1 c1, .slice A2 n2 c2], 25), (#[.slice (some ⟨bq, oq, none⟩) nq cq], 37)] W → Below w5.heap.size w5 W → Calls Try.prog 19 #[.agg #[.slice (some ⟨b, o, none⟩) n1 c1, .slice A2 n2 c2], .agg #[.slice A5 (nq - 1) c5]] W fun e w' => e = .returned (.agg #[.int .u8 0, .int .i64 0]) ∧ Below W.heap.size W w') := Lib.hid (fun W hR hb => by
    have h1 := rc_stays _ _ _ _ _ _ (DR.out W hR).1 (Nat.le_trans R5.out.below.size (Nat.le_refl _)) (Below.refl _ W)
    have h2 := rq_stays _ _ _ _ _ _ (QL.out w5 _ _ _ R5.out.below O6.out) (Nat.le_refl _) hb
    have hy := request_any h1 h2 hb.size (Nat.le_trans HL.out (by decide))
    rw [QR.out] at hy
    exact hy)
  have EQ := eq_zero
  clear CX CY CQ C0 C8
  go_wp2_with (first | (go_at_call 9; (with_reducible refine (FX.out _ R5.out).mono ?_); rintro e v6 ⟨rfl, hb⟩; have R6 := Lib.hid (R5.out.step hb); have B6 := Lib.hid hb; clear hb; obtain ⟨k0, k1, k2⟩ := KC.out _ R6.out) | (go_at_call 19; (with_reducible refine (CZ.out _ R6.out B6.out).mono ?_); rintro e v7 ⟨rfl, hb⟩; have R7 := Lib.hid (R6.out.step hb); clear hb))
  go_ret
  exact ⟨rfl, R7.out.below⟩

end Go.Proofs.Ytccmgaibikiedaa.Dc
