/- The law on the ranks of a row: walked. -/
import Derived.Test.YtccmgaibikiedaaNrA
namespace Go.Proofs.Ytccmgaibikiedaa.Dc
open Go.RowKit
set_option linter.unusedVariables false
set_option linter.unusedSimpArgs false
theorem nodup_more {l : List ByteArray} {i : Nat} {v : ByteArray} (h : l[i]? = some v) (hd : Vs (l.take i)) (hm : Ver.mayV v.data.toList = true) (hn : (l.take i).any (fun u => eqB u v) = false) : Vs (l.take (i + 1)) := by
  rw [take_next h]
  refine ⟨List.nodup_append.2 ⟨hd.1, by simp, fun a ha b hb => ?_⟩, fun u hu => ?_⟩
  · rw [List.mem_singleton] at hb
    subst hb
    rintro rfl
    rw [List.any_eq_false] at hn
    exact hn a ha (by simp [eqB])
  · rw [List.mem_append, List.mem_singleton] at hu
    rcases hu with hu | rfl
    · exact hd.2 u hu
    · exact hm
theorem sl_below {w W : World} {A : Option Addr} {n c : Nat} {l : List ByteArray} (h : Sl ByteArray 1 strD w w.heap.size A n c l) (hb : Below w.heap.size w W) : Sl ByteArray 1 strD W w.heap.size A n c l := h.below strD_stays (Nat.le_refl _) hb
/-- what has been seen. -/
def Seen (W : World) (sb : Nat) (vs : List ByteArray) (i : Nat) : Prop := ∃ cs : Array Value, W.heap[sb]? = some (.cells cs 4 (0, 0)) ∧ cs.size = vs.length ∧ ∀ j, j < vs.length → cs[j]? = some (.bool ((vs.take i).any (fun u => rkN vs u == j)))
theorem Seen.step {W W' : World} {sb i : Nat} {vs : List ByteArray} (h : Seen W sb vs i) (hb : Below W.heap.size W W') : Seen W' sb vs i := by
  obtain ⟨cs, h1, h2, h3⟩ := h
  exact ⟨cs, (hb.block _ (lt_of_block h1)).trans h1, h2, h3⟩
theorem Seen.cell {W : World} {sb i j : Nat} {vs : List ByteArray} (h : Seen W sb vs i) (hj : j < vs.length) : W.cell? ⟨sb, j, none⟩ = some (.bool ((vs.take i).any (fun u => rkN vs u == j))) ∧ W.frozen? ⟨sb, j, none⟩ = false := by
  obtain ⟨cs, h1, h2, h3⟩ := h
  exact ⟨blk_cell h1 (h3 j hj), blk_free j h1⟩
theorem Seen.new (W : World) {n : Nat} {vs : List ByteArray} (hn : n = vs.length) : Seen (W.alloc (.cells (madeCells #[.bool false] n) 4)) W.heap.size vs 0 := by
  refine ⟨_, heap_alloc_new W _, ?_, fun j hj => ?_⟩
  · rw [size_madeCells, hn]
  · simp [madeCells, hn, hj, Nat.mod_one]
theorem Seen.set {W : World} {sb i : Nat} {vs : List ByteArray} {v : ByteArray} (h : Seen W sb vs i) (hv : vs[i]? = some v) : Seen (W.setCell ⟨sb, rkN vs v, none⟩ (.bool true)) sb vs (i + 1) := by
  obtain ⟨cs, h1, h2, h3⟩ := h
  refine ⟨_, blk_set _ _ h1, by simpa using h2, fun j hj => ?_⟩
  rw [any_more hv]
  rcases Nat.decEq (rkN vs v) j with e | e
  · rw [Array.getElem?_setIfInBounds_ne e, h3 j hj]
    simp [e]
  · subst e
    rw [Array.getElem?_setIfInBounds_self_of_lt (by omega)]
    simp
theorem NS.far {w W : World} {l : List ByteArray} {A : Option Addr} {n c sb : Nat} (h : NS w l A n c W) (hs : w.heap.size < sb) (ho : ∀ k, (Value.slice A n c).ownBlock = some k → k < sb) (j : Nat) (u : Value) : NS w l A n c (W.setCell ⟨sb, j, none⟩ u) :=
  ⟨(heap_farN _ _ _ _ _ (by omega)).trans h.box, own_farN h.own _ _ _ (fun e => by have := ho _ e; omega), h.len, h.below.setCell (p := ⟨sb, j, none⟩) (Nat.le_of_lt hs) _⟩
set_option maxHeartbeats 16000000 in
set_option maxRecDepth 100000 in
theorem row_go {w : World} {A : Option Addr} {n c : Nat} {vs : List ByteArray} (h : Sl ByteArray 1 strD w w.heap.size A n c vs) :
    Calls Try.prog 7 #[.slice A n c] w fun e w' => e = .returned (.bool true) ∧ Below w.heap.size w w' := by
  have n5 := h.le
  have H := Lib.hid h
  have HN := Lib.hid h.len
  obtain ⟨g, hg⟩ : ∃ g, g = Ver.greatB (vs.map (fun s => s.data.toList)) := ⟨_, rfl⟩
  have C0 : Hid (∀ W, Below w.heap.size w W → Calls Try.prog 20 #[.slice A n c] W fun e w' => e = .returned (.bool g) ∧ W = w') := Lib.hid (fun W hb => by
    rw [hg]; exact great_row (sl_below H.out hb))
  have FX : Hid (∀ W, Calls Try.prog 21 #[] W fun e w' => e = .returned (.bool true) ∧ Below W.heap.size W w') := Lib.hid fixed10_any
  have B0 := Lib.hid (Below.refl w.heap.size w)
  clear hg h
  by_cases h30 : 30 < n
  · have h30' : (30 : Int) < (n : Int) := by omega
    go_enter Try.func7, Try.ntmps7
    go_wp2_with (first | (go_at_call 21; (with_reducible refine (FX.out _).mono ?_); rintro e v1 ⟨rfl, hb⟩; have B0 := Lib.hid (B0.out.trans (hb.mono B0.out.size)); clear hb) | (go_at_call 20; (with_reducible refine (C0.out _ B0.out).mono ?_); rintro e v1 ⟨rfl, rfl⟩))
    go_ret
    exact ⟨rfl, B0.out⟩
  have h30' : ¬ (30 : Int) < (n : Int) := by omega
  cases g
  case true =>
    go_enter Try.func7, Try.ntmps7
    go_wp2_with (first | (go_at_call 21; (with_reducible refine (FX.out _).mono ?_); rintro e v1 ⟨rfl, hb⟩; have B0 := Lib.hid (B0.out.trans (hb.mono B0.out.size)); clear hb) | (go_at_call 20; (with_reducible refine (C0.out _ B0.out).mono ?_); rintro e v1 ⟨rfl, rfl⟩))
    go_ret
    exact ⟨rfl, B0.out⟩
  obtain ⟨i0, hi0, hz⟩ := Option.map_eq_some_iff.1 info_rel
  simp only [Prod.mk.injEq] at hz
  obtain ⟨hz0, hz1, hz2⟩ := hz
  have INF := Lib.hid (And.intro hi0 (And.intro hz0 (And.intro hz1 hz2)))
  have SZ : Hid (∀ s ∈ vs, s.size ≤ maxLen) := Lib.hid (fun s hs => by
    obtain ⟨i, hi⟩ := List.getElem?_of_mem hs
    have hil : i < n := by
      rw [HN.out]
      rcases Nat.lt_or_ge i vs.length with h' | h'
      · exact h'
      · rw [List.getElem?_eq_none h'] at hi; cases hi
    obtain ⟨y, b, o, t1, t2, t3, x0, s5⟩ := text_at H.out hil
    rw [hi] at t1
    rw [Option.some.inj t1]
    exact s5)
  have L30 : Hid (n ≤ 30) := Lib.hid (by omega)
  clear hi0 hz0 hz1 hz2 h30
  go_enter Try.func7, Try.ntmps7
  go_wp2_with (go_at_call 20; (with_reducible refine (C0.out _ B0.out).mono ?_); rintro e v1 ⟨rfl, rfl⟩)
  have N0 : Hid (NS w [] none 0 0 (w.alloc (.cells (pkCells none 0 0) 45))) := Lib.hid ⟨heap_alloc_new w _, own_none _ _ _, rfl, (Below.refl _ _).alloc (Nat.le_refl _) _⟩
  go_loopw [4, 5, 7, 24, 37] (fun _ _ _ v _ wq => ∃ (i : Nat) (A' : Option Addr) (c' : Nat), v = .int .i64 i ∧ i ≤ n ∧ Vs (vs.take i) ∧ NS w (vs.take i) A' i c' wq) (fun _ _ _ v _ _ => n - (RowKit.intOf v).toNat)
  case atStart => exact ⟨0, none, 0, rfl, Nat.zero_le _, ⟨List.nodup_nil, fun v hv => by cases hv⟩, N0.out⟩
  case round =>
    obtain ⟨i, A', c', rfl, hi, hvs, hns⟩ := hrel
    have VS := Lib.hid hvs
    have NN := Lib.hid hns
    clear hvs hns
    by_cases hlt : i < n
    · have hlt' : (i : Int) < (n : Int) := by omega
      obtain ⟨v, b, o, t1, hA, t3, x0, s5⟩ := text_at (sl_below H.out NN.out.below) hlt
      subst hA
      have T1 := Lib.hid t1
      obtain ⟨m, hm⟩ : ∃ m, m = Ver.mayV v.data.toList := ⟨_, rfl⟩
      have CM : Hid (∀ W, Calls Try.prog 29 #[.string v] W fun e w' => e = .returned (.bool m) ∧ Below W.heap.size W w') := Lib.hid (fun W => by
        rw [hm]; exact Ver.rmay_any v W s5)
      have HM := Lib.hid hm
      have S5 := Lib.hid s5
      clear hm t1 t3 s5
      cases m
      case false =>
        go_wp2_with (first | (go_at_call 21; (with_reducible refine (FX.out _).mono ?_); rintro e v1 ⟨rfl, hb⟩; have N1 := Lib.hid (N1.out.step hb); clear hb) | (go_at_call 29; (with_reducible refine (CM.out _).mono ?_); rintro e v1 ⟨rfl, hb⟩; have N1 := Lib.hid (NN.out.step hb); clear hb))
        go_ret
        exact ⟨rfl, N1.out.below⟩
      have hic : (i : Int) ≤ (c : Int) := by have := H.out.cap; omega
      go_wp2_with (go_at_call 29; (with_reducible refine (CM.out _).mono ?_); rintro e v1 ⟨rfl, hb⟩; have N1 := Lib.hid (NN.out.step hb); clear hb)
      clear x0
      go_loopw [7, 37] (fun _ z wq => ∃ k : Nat, z = .int .i64 k ∧ k ≤ i ∧ (vs.take k).any (fun u => eqB u v) = false ∧ NS w (vs.take i) A' i c' wq) (fun _ v _ => i - (RowKit.intOf v).toNat)
      case atStart => exact ⟨0, rfl, Nat.zero_le _, rfl, N1.out⟩
      case round =>
        obtain ⟨k, rfl, hk, hq, hnq⟩ := hrel
        have HQ := Lib.hid hq
        have NQ := Lib.hid hnq
        clear hq hnq
        by_cases hlk : k < i
        · have hlk' : (k : Int) < (i : Int) := by omega
          have hkn : (k : Int) < (n : Int) := by omega
          obtain ⟨u, b', o', t1, t2, t3, y0, -⟩ := text_at (sl_below H.out NQ.out.below) (show k < n by omega)
          injection t2 with t2
          injection t2 with t2 t2'
          subst t2 t2'
          have TK := Lib.hid t1
          have GV : Hid (eqB u v = (v.toList == u.toList)) := Lib.hid (by rw [eqB_comm]; rfl)
          clear t1 t3
          cases q : (v.toList == u.toList)
          case true =>
            go_wp2_with (go_at_call 21; (with_reducible refine (FX.out _).mono ?_); rintro e v1 ⟨rfl, hb⟩; have N2 := Lib.hid (NQ.out.step hb); clear hb)
            go_ret
            exact ⟨rfl, N2.out.below⟩
          have HQ2 : Hid ((vs.take (k + 1)).any (fun u => eqB u v) = false) := Lib.hid (by rw [any_more TK.out, HQ.out, GV.out, q]; rfl)
          go_wp2_with fail
          go_roundw
          case rel => exact ⟨k + 1, by go_num, by omega, HQ2.out, NQ.out⟩
          case measure => simp [RowKit.intOf]; omega
        · obtain rfl : k = i := by omega
          have V2 := Lib.hid (nodup_more T1.out VS.out HM.out.symm HQ.out)
          have a0 := blk_cell (j := 2) NQ.out.box rfl
          have CN : Hid (∀ j u, ([Value.string v, .bool false] : List Value)[j]? = some u → (wr.alloc (.cells #[.string v, .bool false] 55)).cell? ((⟨wr.heap.size, 0, none⟩ : Addr).add j) = some u) := Lib.hid (fun j u hu => by
            rw [add_at, Nat.zero_add]
            match j, hu with
            | 0, hu => obtain rfl := Option.some.inj hu; exact blk_cell (heap_alloc_new wr _) rfl
            | 1, hu => obtain rfl := Option.some.inj hu; exact blk_cell (heap_alloc_new wr _) rfl)
          have n30 : (k : Int) ≤ 30 := by have := L30.out; omega
          go_wp2_with (at_builtin; refine wpList_append_lies _ rfl (.tmp 47) (.tmp 50) 39 rfl (w.heap.size + 1) 55 i0 _ 2 24 Try.underlying39 INF.out.1 INF.out.2.1 INF.out.2.2.1 INF.out.2.2.2 rfl (by decide) (.slice A' k c') k _ rfl (NQ.out.own.alloc _) ⟨wr.heap.size, 0, none⟩ 1 1 [.string v, .bool false] rfl rfl CN.out ?c1 (by decide) ?c2 ?c3 ?c4 _ rfl ?_)
          case c1 => intro u hu; simp at hu; rcases hu with rfl | rfl <;> rfl
          case c2 => unfold maxLen; omega
          case c3 => omega
          case c4 => have := lt_of_block NQ.out.box; simp; omega
          intro g4 cap4 w4 hown4 hgr4 hlie hlt4
          obtain ⟨f1, f2⟩ := NQ.out.grow hown4 hgr4
          have N5 := Lib.hid f2
          have TN : Hid (vs.take (k + 1) = vs.take k ++ [v]) := Lib.hid (take_next T1.out)
          have q0 := blk_cell (j := 2) f1 rfl
          have q1 := blk_free 2 f1
          clear f1 f2 hown4 hgr4 hlie hlt4
          go_wp2_with fail
          go_roundw
          case rel => exact ⟨k + 1, _, _, by go_num, by omega, V2.out, by rw [TN.out]; exact N5.out⟩
          case measure => simp [RowKit.intOf]; omega
    · obtain rfl : n = i := by omega
      have E1 : Hid (vs.take n = vs) := Lib.hid (take_all (by have := HN.out; omega))
      have VA : Hid (Vs vs) := Lib.hid (by have := VS.out; rw [E1.out] at this; exact this)
      have NA : Hid (NS w vs A' n c' wr) := Lib.hid (by have := NN.out; rw [E1.out] at this; exact this)
      clear VS NN E1
      obtain ⟨w3, hw3⟩ : ∃ w3, w3 = wr := ⟨_, rfl⟩
      subst hw3
      have hmk := make_flags n (by have := L30.out; omega) w3
      have OFF : Hid (w.heap.size < w3.heap.size ∧ ∀ k, (Value.slice A' n c').ownBlock = some k → k < w3.heap.size) := Lib.hid ⟨lt_of_block NA.out.box, fun k hk => (NA.out.own.lt k hk).2⟩
      have N3 : Hid (NS w vs A' n c' (w3.alloc (.cells (madeCells #[.bool false] n) 4))) := Lib.hid (NA.out.step ((Below.refl _ _).alloc (Nat.le_refl _) _))
      have S3 : Hid (Seen (w3.alloc (.cells (madeCells #[.bool false] n) 4)) w3.heap.size vs 0) := Lib.hid (Seen.new w3 HN.out)
      go_wp2_with fail
      clear hmk
      go_loopw [10, 11, 13, 59, 85] (fun _ _ _ z _ wq => ∃ j : Nat, z = .int .i64 j ∧ j ≤ n ∧ NS w vs A' n c' wq ∧ Seen wq w3.heap.size vs j) (fun _ _ _ z _ _ => n - (RowKit.intOf z).toNat)
      case atStart => exact ⟨0, rfl, Nat.zero_le _, N3.out, S3.out⟩
      case round =>
        obtain ⟨j, rfl, hj, hns, hsn⟩ := hrel
        have NN := Lib.hid hns
        have SN := Lib.hid hsn
        clear hns hsn
        by_cases hlt : j < n
        · have hlt' : (j : Int) < (n : Int) := by omega
          obtain ⟨v, b, o, t1, hA, t3, x0, s5⟩ := text_at (sl_below H.out NN.out.below) hlt
          subst hA
          obtain ⟨r, hr⟩ : ∃ r, r = rkN vs v := ⟨_, rfl⟩
          have VM := Lib.hid (List.mem_of_getElem? t1)
          have hrn : (r : Int) < (n : Int) := by have := rk_lt VM.out; have := HN.out; omega
          have hr0 : (0 : Int) ≤ (r : Int) := by omega
          have hr1 : ¬ (r : Int) < 0 := by omega
          have hr2 : ¬ n ≤ r := by omega
          have hr3 : ¬ (n : Int) ≤ (r : Int) := by omega
          have HR := Lib.hid hr
          have S5 := Lib.hid s5
          have CR : Hid (∀ W, NS w vs A' n c' W → Calls Try.prog 22 #[.agg (pkCells A' n c'), .string v] W fun e w' => e = .returned (.int .i64 (r : Int)) ∧ Below W.heap.size W w') := Lib.hid (fun W hN => by
            have hx := rank_any (pk_own hN.own hN.len SZ.out) (Nat.le_refl _) v S5.out
            rw [rank_pkg VM.out, ← HR.out] at hx
            exact hx)
          have SC : Hid (∀ W, Seen W w3.heap.size vs j → W.cell? ⟨w3.heap.size, r, none⟩ = some (.bool false) ∧ W.frozen? ⟨w3.heap.size, r, none⟩ = false) := Lib.hid (fun W hS => by
            have hx := hS.cell (j := r) (by have := HN.out; omega)
            rw [HR.out, seen_no VA.out t1, ← HR.out] at hx
            exact hx)
          have SS : Hid (∀ W, Seen W w3.heap.size vs j → Seen (W.setCell ⟨w3.heap.size, r, none⟩ (.bool true)) w3.heap.size vs (j + 1)) := Lib.hid (fun W hS => by
            rw [HR.out]; exact hS.set t1)
          have PC : Hid (∀ W, NS w vs A' n c' W → W.cell? ⟨w.heap.size, 0, none⟩ = some (.string ⟨#[]⟩) ∧ W.cell? ⟨w.heap.size, 1, none⟩ = some (.int .i64 0) ∧ W.cell? ⟨w.heap.size, 2, none⟩ = some (.slice A' n c') ∧ W.cell? ⟨w.heap.size, 3, none⟩ = some (.slice none 0 0) ∧ W.cell? ⟨w.heap.size, 4, none⟩ = some (.slice none 0 0) ∧ W.cell? ⟨w.heap.size, 5, none⟩ = some (.slice none 0 0) ∧ W.cell? ⟨w.heap.size, 6, none⟩ = some (.slice none 0 0) ∧ W.cell? ⟨w.heap.size, 7, none⟩ = some (.slice none 0 0)) := Lib.hid (fun W hN => ⟨blk_cell (j := 0) hN.box rfl, blk_cell (j := 1) hN.box rfl, blk_cell (j := 2) hN.box rfl, blk_cell (j := 3) hN.box rfl, blk_cell (j := 4) hN.box rfl, blk_cell (j := 5) hN.box rfl, blk_cell (j := 6) hN.box rfl, blk_cell (j := 7) hN.box rfl⟩)
          clear t1 t3 s5 hr
          obtain ⟨k0, k1, k2, k3, k4, k5, k6, k7⟩ := PC.out _ NN.out
          go_wp2_with (go_at_call 22; (with_reducible refine (CR.out _ NN.out).mono ?_); rintro e v1 ⟨rfl, hb⟩; have NN := Lib.hid (NN.out.step hb); have SN := Lib.hid (SN.out.step hb); clear hb; obtain ⟨z0, z1⟩ := SC.out _ SN.out)
          have N4 : Hid (NS w vs A' n c' (v1.setCell ⟨w3.heap.size, r, none⟩ (.bool true))) := Lib.hid (NN.out.far OFF.out.1 OFF.out.2 r _)
          have S4 : Hid (Seen (v1.setCell ⟨w3.heap.size, r, none⟩ (.bool true)) w3.heap.size vs (j + 1)) := Lib.hid (SS.out _ SN.out)
          clear z0 z1 x0 k0 k1 k2 k3 k4 k5 k6 k7
          go_loopw [13, 85] (fun _ z wq => ∃ k : Nat, z = .int .i64 k ∧ k ≤ n ∧ NS w vs A' n c' wq ∧ Seen wq w3.heap.size vs (j + 1)) (fun _ z _ => n - (RowKit.intOf z).toNat)
          case atStart => exact ⟨0, rfl, Nat.zero_le _, N4.out, S4.out⟩
          case round =>
            obtain ⟨k, rfl, hk, hns, hsn⟩ := hrel
            have NN := Lib.hid hns
            have SN := Lib.hid hsn
            clear hns hsn
            by_cases hlk : k < n
            · have hlk' : (k : Int) < (n : Int) := by omega
              obtain ⟨u, b', o', t1, t2, t3, y0, u5⟩ := text_at (sl_below H.out NN.out.below) hlk
              injection t2 with t2
              injection t2 with t2 t2'
              subst t2 t2'
              obtain ⟨q, hq⟩ : ∃ q, q = rkN vs u := ⟨_, rfl⟩
              have QR := Lib.hid hq
              have UM := Lib.hid (List.mem_of_getElem? t1)
              have U5 := Lib.hid u5
              have CQ : Hid (∀ W, NS w vs A' n c' W → Calls Try.prog 22 #[.agg (pkCells A' n c'), .string u] W fun e w' => e = .returned (.int .i64 (q : Int)) ∧ Below W.heap.size W w') := Lib.hid (fun W hN => by
                have hx := rank_any (pk_own hN.own hN.len SZ.out) (Nat.le_refl _) u U5.out
                rw [rank_pkg UM.out, ← QR.out] at hx
                exact hx)
              obtain ⟨l, hl⟩ : ∃ l, l = decide (Ver.cmpV v.data.toList u.data.toList < 0) := ⟨_, rfl⟩
              have CL : Hid (∀ W, Calls Try.prog 30 #[.string v, .string u] W fun e w' => e = .returned (.bool l) ∧ Below W.heap.size W w') := Lib.hid (fun W => by
                rw [hl]; exact Ver.less_any v u W S5.out U5.out)
              have LL := Lib.hid hl
              clear t1 t3 u5 hq hl
              cases l
              case false =>
                go_wp2_with (go_at_call 30; (with_reducible refine (CL.out _).mono ?_); rintro e v1 ⟨rfl, hb⟩; have NN := Lib.hid (NN.out.step hb); have SN := Lib.hid (SN.out.step hb); clear hb; obtain ⟨k0, k1, k2, k3, k4, k5, k6, k7⟩ := PC.out _ NN.out)
                go_roundw
                case rel => exact ⟨k + 1, by go_num, by omega, NN.out, SN.out⟩
                case measure => simp [RowKit.intOf]; omega
              have hqr : (q : Int) < (r : Int) := by
                have := rk_less UM.out (of_decide_eq_true LL.out.symm)
                have := HR.out
                have := QR.out
                omega
              have hqr' : ¬ (r : Int) ≤ (q : Int) := by omega
              go_wp2_with (first | (go_at_call 30; (with_reducible refine (CL.out _).mono ?_); rintro e v1 ⟨rfl, hb⟩; have NN := Lib.hid (NN.out.step hb); have SN := Lib.hid (SN.out.step hb); clear hb; obtain ⟨k0, k1, k2, k3, k4, k5, k6, k7⟩ := PC.out _ NN.out) | (go_at_call 22; (with_reducible refine (CQ.out _ NN.out).mono ?_); rintro e v1 ⟨rfl, hb⟩; have NN := Lib.hid (NN.out.step hb); have SN := Lib.hid (SN.out.step hb); clear hb))
              go_roundw
              case rel => exact ⟨k + 1, by go_num, by omega, NN.out, SN.out⟩
              case measure => simp [RowKit.intOf]; omega
            · obtain rfl : n = k := by omega
              go_wp2_with fail
              go_roundw
              case rel => exact ⟨j + 1, by go_num, by omega, NN.out, SN.out⟩
              case measure => simp [RowKit.intOf]; omega
        · go_wp2_with (go_at_call 21; (with_reducible refine (FX.out _).mono ?_); rintro e v1 ⟨rfl, hb⟩; have NN := Lib.hid (NN.out.step hb); clear hb)
          go_ret
          exact ⟨rfl, NN.out.below⟩

end Go.Proofs.Ytccmgaibikiedaa.Dc
