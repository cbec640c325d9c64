/- Putting an atom into a heap. -/
import Derived.Test.YtapconhgcoefeaaHeapOps
namespace Go.Proofs.Ytapconhgcoefeaa.Heap
set_option linter.unusedVariables false
open Go.RowKit

variable {w : World} {I : Ids} {n : Nat} {sc : List Nat} {inn : Nat → Bool} {pl : List Int} {rw : List Nat}

theorem info_int : (Try.prog.info? 3).map (fun i => (i.zero, i.size, i.bytes)) = some (some (.int .i64 0), 1, 8) := by kernel_rfl

theorem HM.owns (h : HM w I sc pl rw) : w.ownsRow 0 3 1 (.slice (some ⟨I.g3, 0, none⟩) rw.length I.c3) rw.length (nats rw) := by
  obtain ⟨j, hj, hl⟩ := h.rws
  have hn : (nats rw).length = rw.length := by simp [nats]
  have hc := h.cap
  have hs := h.small
  refine ⟨by rw [hn]; omega, .inr ⟨I.g3, I.c3, _, rfl, Nat.zero_le _, hj, by omega, by unfold maxLen; omega, ?_, ?_⟩⟩
  · simp [hn]; omega
  · simp [hn]

theorem HM.grow (h : HM w I sc pl rw) {o : Obj} {w1 : World} {a : Nat} (hroom : rw.length + 1 < sc.length)
    (hown : w1.ownsRow 0 3 1 (.slice (some ⟨I.g3, 0, none⟩) (rw.length + 1) I.c3) (rw.length + 1) (nats rw ++ [.int .i64 (a : Int)])) (hg : (w.alloc o).grownBy w1 (some I.g3)) :
    HM (w1.setCell ⟨I.hb, 2, none⟩ (.slice (some ⟨I.g3, 0, none⟩) (rw.length + 1) I.c3)) I sc pl (rw ++ [a]) ∧
    Sm I.has w (w1.setCell ⟨I.hb, 2, none⟩ (.slice (some ⟨I.g3, 0, none⟩) (rw.length + 1) I.c3)) := by
  obtain ⟨a1, a2, a3, a4, a5, a6⟩ := h.apart
  have l := h.lt
  have hsz : (w.alloc o).heap.size = w.heap.size + 1 := by simp
  have old : ∀ k, k < w.heap.size → k ≠ I.g3 → w1.heap[k]? = w.heap[k]? := by
    intro k hk hne
    rw [hg.block k (by omega) (fun e => hne (by simpa using e))]
    exact Below.heap_alloc _ _ _ hk
  have hs : Sm I.has w w1 := ⟨hg.os, hg.tape, hg.output, by have := hg.size; omega, fun k hk hne => old k hk (fun e => hne (.inr (.inr (.inr e))))⟩
  refine ⟨⟨?_, ?_, ?_, ?_, h.apart, h.len, h.small, by simpa using hroom, h.cap⟩, hs.set _ _ (.inl rfl)⟩
  · have hh := old I.hb l.1 a3
    rw [h.head] at hh
    rw [blk_set _ _ hh]
    simp
  · rw [set_other _ _ _ _ _ (fun e => a1 e.symm), old _ l.2.1 a5]; exact h.scs
  · rw [set_other _ _ _ _ _ (fun e => a2 e.symm), old _ l.2.2.1 a6]; exact h.pls
  · rw [set_other _ _ _ _ _ (fun e => a3 e.symm)]
    have hn : nats (rw ++ [a]) = nats rw ++ [.int .i64 (a : Int)] := by simp [nats]
    rcases hown.2 with ⟨e, _⟩ | ⟨g, cap, cur, e, _, hh, hc, _, hcs, htk⟩
    · simp at e
    · simp only [Value.slice.injEq, Option.some.injEq, Addr.mk.injEq, and_true, true_and] at e
      obtain ⟨rfl, e2⟩ := e
      subst e2
      refine ⟨cur.toList.drop (rw.length + 1), ?_, ?_⟩
      · rw [hh, hn, ← htk, Nat.mul_one, List.take_append_drop]
      · simp; omega

set_option maxHeartbeats 800000 in
theorem push_no1 (h : IsAt w I n sc inn pl rw) (a : Int) (h1 : a < 1 ∨ (n : Int) < a) :
    Calls Try.prog 36 #[.pointer (some ⟨I.hb, 0, none⟩), .int .i64 a] w fun e w' => e = .returned (.bool false) ∧ w = w' := by
  have hm := may_no h.mem h.pla a h1
  have HM1 := Lib.hid hm
  clear h hm h1
  go_enter Try.func36, Try.ntmps36
  go_wp2_with (go_at_call 60; refine HM1.out.mono ?_; rintro e w' ⟨rfl, rfl⟩)
  go_ret
  exact ⟨rfl, rfl⟩

set_option maxHeartbeats 800000 in
theorem push_no2 (h : IsAt w I n sc inn pl rw) (a : Nat) (h1 : 1 ≤ a) (h2 : a ≤ n) (hi : inn a = true) :
    Calls Try.prog 36 #[.pointer (some ⟨I.hb, 0, none⟩), .int .i64 a] w fun e w' => e = .returned (.bool false) ∧ w = w' := by
  have hm := may_yes h.mem h.pla a h1 h2
  have hh := has_yes h a h1 h2
  rw [hi] at hh
  have HM1 := Lib.hid hm
  have HH1 := Lib.hid hh
  clear h hm h1 hh hi
  go_enter Try.func36, Try.ntmps36
  go_wp2_with (first | (go_at_call 60; refine HM1.out.mono ?_; rintro e w' ⟨rfl, rfl⟩) | (go_at_call 38; refine HH1.out.mono ?_; rintro e w' ⟨rfl, rfl⟩))
  go_ret
  exact ⟨rfl, rfl⟩

set_option maxHeartbeats 2000000 in
set_option maxRecDepth 100000 in
theorem push_yes (h : IsAt w I n sc inn pl rw) (a : Nat) (h1 : 1 ≤ a) (h2' : a ≤ n) (hf : inn a = false) :
    Calls Try.prog 36 #[.pointer (some ⟨I.hb, 0, none⟩), .int .i64 a] w fun e w' => e = .returned (.bool true) ∧ Is w' I n sc (fun x => inn x || decide (x = a)) ∧ Sm I.has w w' := by
  obtain ⟨i0, hi, hz0, hz1, hz2⟩ := info_parts info_int
  have hm := may_yes h.mem h.pla a h1 h2'
  have hh := has_yes h a h1 h2'
  rw [hf] at hh
  have HM1 := Lib.hid hm
  have HH1 := Lib.hid hh
  have hcnt := cin_lt h1 h2' hf
  rw [← h.cnt] at hcnt
  have hls := h.lenS
  have hcap := h.mem.cap
  have hsm := h.mem.small
  have hout : pl.getD a (-1) = -1 := by
    have := h.isin a h1 h2'
    rw [hf] at this
    simp at this
    simpa using this
  have hpl := h.pla.len
  have c2 := h.mem.c2
  have hown := h.mem.owns
  have hgrow := fun (o : Obj) (w1 : World) => h.mem.grow (o := o) (w1 := w1) (a := a) (by omega)
  have hpush := h.pla.push h1 h2' hout
  have hup := Up.push (a := a) h.ord
  have HG := Lib.hid hgrow
  have HO := Lib.hid hown
  have HPU := Lib.hid hpush
  have HUP := Lib.hid hup
  have HH := Lib.hid h
  have HF := Lib.hid hf
  have hfit : rw.length + 1 ≤ I.c3 := by omega
  have hrl : rw.length ≤ 65537 := by omega
  have hal : a < pl.length := by omega
  have head := h.mem.head
  have hlt := h.mem.lt.1
  have hne := h.mem.apart.2.2.1
  have HHEAD := Lib.hid head
  have HNE := Lib.hid hne
  clear h hm hh hf hout hgrow hown hpush hup hls hpl hcap head hne
  go_enter Try.func36, Try.ntmps36
  go_wp2_with (first | (go_at_call 60; refine HM1.out.mono ?_; rintro e w' ⟨rfl, rfl⟩) | (go_at_call 38; refine HH1.out.mono ?_; rintro e w' ⟨rfl, rfl⟩) | (at_builtin; refine wpList_append_fits _ rfl (.tmp 18) (.tmp 20) 31 rfl 0 3 i0 1 Try.underlying31 hi hz1 I.g3 rw.length I.c3 (nats rw) rfl (HO.out.alloc _) ⟨w.heap.size, 0, none⟩ 1 1 [.int .i64 (a : Int)] rfl rfl (cell_one_new _ _ _) (by intro u hu; simp at hu; subst hu; rfl) hfit ?_; intro w1 hown1 hgr1; obtain ⟨HM2, S2⟩ := HG.out _ w1 hown1 hgr1; have hb1 : w1.heap[I.hb]? = w.heap[I.hb]? := (hgr1.block I.hb (by simp; omega) (fun e => HNE.out (by simpa using e))).trans (Below.heap_alloc _ _ _ hlt); rw [HHEAD.out] at hb1; have f0 := blk_free 2 hb1; have k2 := blk_cell (j := 2) hb1 rfl; have HQ2 := Lib.hid HM2; have SQ2 := Lib.hid S2; clear HM2 S2 hown1 hgr1 hb1))
  refine (put_any HQ2.out rw.length a (by simp) hal).mono ?_
  rintro e w2 ⟨rfl, h2, s2⟩
  have e1 : (rw ++ [a]).set rw.length a = rw ++ [a] := by simp
  rw [e1] at h2
  have c3 := h2.c2
  have e2 : (rw ++ [a]).length = rw.length + 1 := by simp
  rw [e2] at c3
  have H2 := Lib.hid h2
  have S2 := Lib.hid s2
  clear h2 s2 e1 e2 f0 k2
  go_wp2_with fail
  refine (rise_any H2.out HPU.out rw.length (by simp) HUP.out).mono ?_
  rintro e w3 ⟨rfl, pl', rw', h3, h4, h5, h6, h7⟩
  have hfin := HH.out.pushed h1 h2' HF.out h3 h4 h5 h6
  have HFIN := Lib.hid hfin
  have HS := Lib.hid ((SQ2.out.trans S2.out).trans h7)
  clear hfin h3 h4 h5 h6 h7
  go_wp2_with fail
  go_ret
  exact ⟨rfl, HFIN.out, HS.out⟩

end Go.Proofs.Ytapconhgcoefeaa.Heap
