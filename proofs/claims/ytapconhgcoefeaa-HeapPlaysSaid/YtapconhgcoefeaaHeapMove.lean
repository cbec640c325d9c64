/- Rising and sinking in a heap: behind it the heap's order holds, and in it is what was in it. -/
import Derived.Test.YtapconhgcoefeaaHeapMem
namespace Go.Proofs.Ytapconhgcoefeaa.Heap
set_option linter.unusedVariables false
open Go.RowKit

/-- the same ones are in, of another order. -/
structure Eqv (pl pl' : List Int) (rw rw' : List Nat) : Prop where
  len : rw'.length = rw.length
  isin : ∀ a : Nat, pl'.getD a (-1) = -1 ↔ pl.getD a (-1) = -1
theorem Eqv.refl (pl : List Int) (rw : List Nat) : Eqv pl pl rw rw := ⟨rfl, fun _ => Iff.rfl⟩
theorem Eqv.swap {n : Nat} {pl pl' : List Int} {rw rw' : List Nat} (h : Eqv pl pl' rw rw') (hp : Places n pl' rw') {i k : Nat} (hi : i < rw'.length) (hk : k < rw'.length) :
    Eqv pl (swapPl pl' rw' i k) rw (Heap.swap rw' i k) := ⟨by rw [swap_len]; exact h.len, fun a => (swapPl_in hp hi hk a).trans (h.isin a)⟩

variable {w : World} {I : Ids} {sc : List Nat} {pl : List Int} {rw : List Nat} {n : Nat}

theorem inbounds (h : HM w I sc pl rw) (hp : Places n pl rw) (i : Nat) (hi : i < rw.length) : rw.getD i 0 < pl.length ∧ rw.getD i 0 < sc.length := by
  have a := (hp.row i hi).2.1
  have b := hp.len
  have c := h.len
  omega

/-- what a heap is like behind a rising or sinking. -/
def Moved (I : Ids) (n : Nat) (sc : List Nat) (pl : List Int) (rw : List Nat) (L : Nat) (w : World) (e : Ending) (w' : World) : Prop :=
  e = .returned (.tuple #[]) ∧ ∃ pl' rw', HM w' I sc pl' rw' ∧ Places n pl' rw' ∧ HeapFrom sc rw' L ∧ Eqv pl pl' rw rw' ∧ Sm I.has w w'

def RHead (I : Ids) (n : Nat) (sc : List Nat) (pl : List Int) (rw : List Nat) (w : World) (v : Value) (wr : World) : Prop :=
  ∃ (i : Nat) (pl' : List Int) (rw' : List Nat), v = .int .i64 i ∧ i < rw'.length ∧ HM wr I sc pl' rw' ∧ Places n pl' rw' ∧ Up sc rw' i ∧ Eqv pl pl' rw rw' ∧ Sm I.has w wr

set_option maxHeartbeats 2000000 in
set_option maxRecDepth 100000 in
theorem rise_any (h : HM w I sc pl rw) (hp : Places n pl rw) (i : Nat) (hi : i < rw.length) (hu : Up sc rw i) :
    Calls Try.prog 61 #[.pointer (some ⟨I.hb, 0, none⟩), .int .i64 i] w (Moved I n sc pl rw 0 w) := by
  have hstart : RHead I n sc pl rw w (.int .i64 i) w := ⟨i, pl, rw, rfl, hi, h, hp, hu, Eqv.refl _ _, Sm.refl _ _⟩
  clear h hp hu hi
  go_enter Try.func61, Try.ntmps61
  go_wp2_with fail
  go_loopw [1] (fun v wr => RHead I n sc pl rw w v wr) (fun v _ => (intOf v).toNat)
  case atStart => exact hstart
  case round =>
    clear hstart
    obtain ⟨k, pl', rw', rfl, hk, hm, hp, hu, he, hs⟩ := hrel
    have hsm := hm.small
    have hro := hm.room
    by_cases hk0 : 0 < k
    · obtain ⟨p, hpe⟩ : ∃ p, p = (k - 1) / 2 := ⟨_, rfl⟩
      have hpk : p < k := by omega
      have e1 : ((k : Int) - 1) / 2 = (p : Int) := by omega
      have b1 := inbounds hm hp k hk
      have b2 := inbounds hm hp p (by omega)
      have hah := ahead_any hm k p hk (by omega) b1.2 b2.2
      have HAH := Lib.hid hah; clear hah
      have HPE := Lib.hid hpe; clear hpe
      have HM1 := Lib.hid hm; clear hm
      have HP := Lib.hid hp; clear hp
      have HU := Lib.hid hu; clear hu
      have HE := Lib.hid he; clear he
      have HS := Lib.hid hs; clear hs
      have hk1 : (0 : Int) < (k : Int) := by omega
      by_cases hb : bt sc (rw'.getD k 0) (rw'.getD p 0)
      · have hd : decide (bt sc (rw'.getD k 0) (rw'.getD p 0)) = true := by simp only [hb, decide_true]
        have HB := Lib.hid hb; clear hb
        have HAH2 := HAH.out
        rw [hd] at HAH2
        have HA := Lib.hid HAH2; clear HAH2 HAH hd
        go_wp2_with fail
        refine HA.out.mono ?_
        rintro e w1 ⟨rfl, h1, s1⟩
        have hsw := swap_any h1 k p hk (by omega) b1.1 b2.1
        have HSW := Lib.hid hsw; clear hsw h1
        go_wp2_with fail
        refine HSW.out.mono ?_
        rintro e w2 ⟨rfl, h2, s2⟩
        have hend : RHead I n sc pl rw w (.int .i64 p) w2 := by
          refine ⟨p, _, _, rfl, by rw [swap_len]; omega, h2, HP.out.swap hk (by omega) (by omega), ?_, HE.out.swap HP.out hk (by omega), (HS.out.trans s1).trans s2⟩
          have := HU.out.step hk0 hk (by rw [← HPE.out]; exact HB.out)
          rw [← HPE.out] at this
          exact this
        have HEND := Lib.hid hend; clear hend h2
        go_wp2_with fail
        go_roundw
        case rel => rw [e1]; exact HEND.out
        case measure => simp [intOf]; omega
      · have hd : decide (bt sc (rw'.getD k 0) (rw'.getD p 0)) = false := by simp only [hb, decide_false]
        have HB := Lib.hid hb; clear hb
        have HAH2 := HAH.out
        rw [hd] at HAH2
        have HA := Lib.hid HAH2; clear HAH2 HAH hd
        go_wp2_with fail
        refine HA.out.mono ?_
        rintro e w1 ⟨rfl, h1, s1⟩
        have H1 := Lib.hid h1; clear h1
        go_wp2_with fail
        go_end0
        exact ⟨rfl, pl', rw', H1.out, HP.out, HU.out.done (fun _ => by rw [← HPE.out]; exact HB.out), HE.out, HS.out.trans s1⟩
    · obtain rfl : k = 0 := by omega
      have HM1 := Lib.hid hm; clear hm
      go_wp2_with fail
      go_end0
      exact ⟨rfl, pl', rw', HM1.out, hp, hu.done (fun h => absurd h (by omega)), he, hs⟩

def SHead (I : Ids) (n : Nat) (sc : List Nat) (pl : List Int) (rw : List Nat) (L : Nat) (w : World) (v : Value) (wr : World) : Prop :=
  ∃ (i : Nat) (pl' : List Int) (rw' : List Nat), v = .int .i64 i ∧ i < rw'.length ∧ HM wr I sc pl' rw' ∧ Places n pl' rw' ∧ Dn sc rw' L i ∧ Eqv pl pl' rw rw' ∧ Sm I.has w wr

/-- the search of the first one among a place and its children. -/
def KHead (I : Ids) (sc : List Nat) (pl : List Int) (rw : List Nat) (i : Nat) (w : World) (fv kv : Value) (wr : World) : Prop :=
  ∃ f k : Nat, fv = .int .i64 f ∧ kv = .int .i64 k ∧ 2 * i + 1 ≤ k ∧ k ≤ 2 * i + 3 ∧ (f = i ∨ (2 * i + 1 ≤ f ∧ f < k ∧ f < rw.length)) ∧
    ¬ bt sc (rw.getD i 0) (rw.getD f 0) ∧ (∀ c, 2 * i + 1 ≤ c → c < k → c < rw.length → ¬ bt sc (rw.getD c 0) (rw.getD f 0)) ∧ HM wr I sc pl rw ∧ Sm I.has w wr

theorem first_of {sc rw : List Nat} {i f k : Nat} (h1 : f = i ∨ (2 * i + 1 ≤ f ∧ f < k ∧ f < rw.length)) (hk : k ≤ 2 * i + 3)
    (h2 : ¬ bt sc (rw.getD i 0) (rw.getD f 0)) (h3 : ∀ c, 2 * i + 1 ≤ c → c < k → c < rw.length → ¬ bt sc (rw.getD c 0) (rw.getD f 0)) (hend : 2 * i + 2 < k ∨ rw.length ≤ k) : First sc rw i f := by
  refine ⟨?_, h2, fun c c0 c1 c2 => h3 c (by omega) (by omega) c1⟩
  rcases h1 with h | h
  · exact .inl h
  · exact .inr ⟨by omega, h.2.2, by omega⟩

set_option maxHeartbeats 4000000 in
set_option maxRecDepth 100000 in
theorem sink_any (h : HM w I sc pl rw) (hp : Places n pl rw) (L i : Nat) (hi : i < rw.length) (hu : Dn sc rw L i) :
    Calls Try.prog 62 #[.pointer (some ⟨I.hb, 0, none⟩), .int .i64 i] w (Moved I n sc pl rw L w) := by
  have hstart : SHead I n sc pl rw L w (.int .i64 i) w := ⟨i, pl, rw, rfl, hi, h, hp, hu, Eqv.refl _ _, Sm.refl _ _⟩
  have hlen := h.room
  have hsml := h.small
  clear h hp hu hi
  go_enter Try.func62, Try.ntmps62
  go_wp2_with fail
  go_loopw [1, 4, 5] (fun v _ _ wr => SHead I n sc pl rw L w v wr) (fun v _ _ _ => 65537 - (intOf v).toNat)
  case atStart => exact hstart
  case round =>
    clear hstart
    obtain ⟨k0, pl', rw', rfl, hk, hm, hp, hd, he, hs⟩ := hrel
    have hsm := hm.small
    have hro := hm.room
    have hin : KHead I sc pl' rw' k0 w (.int .i64 k0) (.int .i64 (2 * (k0 : Int) + 1)) wr :=
      ⟨k0, 2 * k0 + 1, rfl, by go_num, by omega, by omega, .inl rfl, bt_irr _ _, fun c h1 h2 => by omega, hm, hs⟩
    have HIN := Lib.hid hin
    have HD := Lib.hid hd
    have HP := Lib.hid hp
    have HE := Lib.hid he
    clear hm hs hd he hin hp
    go_wp2_with fail
    obtain ⟨wo, hwo⟩ : ∃ wo : World, wo = wr := ⟨_, rfl⟩
    go_loopw [4, 5] (fun fv kv wr => KHead I sc pl' rw' k0 w fv kv wr) (fun _ kv _ => 2 * k0 + 3 - (intOf kv).toNat)
    case atStart => exact HIN.out
    case round =>
      clear HIN hwo
      obtain ⟨f, k, rfl, rfl, k1, k2, f1, f2, f3, hm, hs⟩ := hrel
      by_cases hgo : k ≤ 2 * k0 + 2 ∧ k < rw'.length
      · obtain ⟨g1, g2⟩ := hgo
        have hf : f < rw'.length := by omega
        have b1 := inbounds hm HP.out k g2
        have b2 := inbounds hm HP.out f hf
        have hah := ahead_any hm k f g2 hf b1.2 b2.2
        have c2 := hm.c2
        have HAH := Lib.hid hah; clear hah
        have HM1 := Lib.hid hm; clear hm
        have HS := Lib.hid hs; clear hs
        have F1 := Lib.hid f1; clear f1
        have F2 := Lib.hid f2; clear f2
        have F3 := Lib.hid f3; clear f3
        by_cases hb : bt sc (rw'.getD k 0) (rw'.getD f 0)
        · have hdd : decide (bt sc (rw'.getD k 0) (rw'.getD f 0)) = true := by simp only [hb, decide_true]
          have HB := Lib.hid hb; clear hb
          have HAH2 := HAH.out
          rw [hdd] at HAH2
          have HA := Lib.hid HAH2; clear HAH2 HAH hdd
          go_wp2_with fail
          refine HA.out.mono ?_
          rintro e w1 ⟨rfl, h1, s1⟩
          have hend : KHead I sc pl' rw' k0 w (.int .i64 k) (.int .i64 ((k : Int) + 1)) w1 := by
            refine ⟨k, k + 1, rfl, by go_num, by omega, by omega, .inr ⟨k1, by omega, g2⟩, ?_, ?_, h1, HS.out.trans s1⟩
            · exact fun x => F2.out (bt_trans x HB.out)
            · intro c h2 h3 h4
              by_cases e : c = k
              · subst e; exact bt_irr _ _
              · exact fun x => F3.out c h2 (by omega) h4 (bt_trans x HB.out)
          have HEND := Lib.hid hend; clear hend h1
          go_wp2_with fail
          go_roundw
          case rel => exact HEND.out
          case measure => simp [intOf]; omega
        · have hdd : decide (bt sc (rw'.getD k 0) (rw'.getD f 0)) = false := by simp only [hb, decide_false]
          have HB := Lib.hid hb; clear hb
          have HAH2 := HAH.out
          rw [hdd] at HAH2
          have HA := Lib.hid HAH2; clear HAH2 HAH hdd
          go_wp2_with fail
          refine HA.out.mono ?_
          rintro e w1 ⟨rfl, h1, s1⟩
          have hend : KHead I sc pl' rw' k0 w (.int .i64 f) (.int .i64 ((k : Int) + 1)) w1 := by
            refine ⟨f, k + 1, rfl, by go_num, by omega, by omega, ?_, F2.out, ?_, h1, HS.out.trans s1⟩
            · rcases F1.out with h | h
              · exact .inl h
              · exact .inr ⟨h.1, by omega, h.2.2⟩
            · intro c h2 h3 h4
              by_cases e : c = k
              · subst e; exact HB.out
              · exact F3.out c h2 (by omega) h4
          have HEND := Lib.hid hend; clear hend h1
          go_wp2_with fail
          go_roundw
          case rel => exact HEND.out
          case measure => simp [intOf]; omega
      · have hF : First sc rw' k0 f := first_of f1 k2 f2 f3 (by omega)
        have HF := Lib.hid hF
        have c2 := hm.c2
        have hmem := hF.mem
        have hf : f < rw'.length := by omega
        have b1 := inbounds hm HP.out k0 hk
        have b2 := inbounds hm HP.out f hf
        have hsw := swap_any hm k0 f hk hf b1.1 b2.1
        have HSW := Lib.hid hsw; clear hsw
        have HM1 := Lib.hid hm; clear hm
        have HS := Lib.hid hs; clear hs
        clear f1 f2 f3 hF
        by_cases heq : f = k0
        · subst heq
          have hb : ((f : Int) == (f : Int)) = true := by simp
          have fin : Moved I n sc pl rw L w (.returned (.tuple #[])) wr := ⟨rfl, pl', rw', HM1.out, HP.out, HD.out.done HF.out, HE.out, HS.out⟩
          have FIN := Lib.hid fin; clear fin
          by_cases g1 : k ≤ 2 * f + 2
          · have g2 : ¬ k < rw'.length := by omega
            go_wp2_with fail
            go_end0
            exact FIN.out
          · go_wp2_with fail
            go_end0
            exact FIN.out
        · have hb : ((f : Int) == (k0 : Int)) = false := by simp; omega
          have hlow : k0 < f := by omega
          have HNE := Lib.hid heq; clear heq
          by_cases g1 : k ≤ 2 * k0 + 2
          all_goals
            try (have g2 : ¬ k < rw'.length := by omega)
            go_wp2_with fail
            refine HSW.out.mono ?_
            rintro e w2 ⟨rfl, h2, s2⟩
            have hend : SHead I n sc pl rw L w (.int .i64 f) w2 :=
              ⟨f, _, _, rfl, by rw [swap_len]; exact hf, h2, HP.out.swap hk hf (fun e => HNE.out e.symm), HD.out.step hk HF.out HNE.out, HE.out.swap HP.out hk hf, HS.out.trans s2⟩
            have HEND := Lib.hid hend; clear hend h2
            go_wp2_with fail
            go_roundw
            case rel => exact HEND.out
            case measure => simp [intOf]; omega

end Go.Proofs.Ytapconhgcoefeaa.Heap
