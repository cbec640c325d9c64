/- Stable sorting: blocks sorted, then merged two by two. -/
import Derived.Test.YtdilmiaaahpfcaaStabE
import Derived.Test.YtdilmiaaahpfcaaStabF
namespace Go.Proofs.Ytdilmiaaahpfcaa.Stab
set_option linter.unusedVariables false
set_option linter.unusedSimpArgs false
open Go.RowKit
open Go.Proofs.Ytdilmiaaahpfcaa.Ver (cmpV ord_v Ord Bs)

/-- the blocks of c that start from lo up to hi are sorted. -/
def Blks (f : Fn') (c n lo hi : Nat) : Prop := ∀ x, c ∣ x → lo ≤ x → x < hi → Srt ltN (seg f x (min (x + c) n))
theorem dvd_le {c x a : Nat} (hx : c ∣ x) (ha : c ∣ a) (h : x < a + c) : x ≤ a := by
  obtain ⟨u, rfl⟩ := hx
  obtain ⟨v, rfl⟩ := ha
  rw [show c * v + c = c * (v + 1) by rw [Nat.mul_add, Nat.mul_one]] at h
  have := Nat.lt_of_mul_lt_mul_left h
  exact Nat.mul_le_mul_left c (by omega)
theorem dvd_add_le {c x a : Nat} (hx : c ∣ x) (ha : c ∣ a) (h : x < a) : x + c ≤ a := by
  have h1 : c ∣ x + c := (Nat.dvd_add_right hx).2 (Nat.dvd_refl c)
  rcases Nat.lt_or_ge a (x + c) with k | k
  · have := dvd_le ha hx k; omega
  · exact k
theorem blks_put {f f' : Fn'} {c n a e : Nat} (hd : c ∣ a) (h : Blks f c n 0 a) (m : MergedIn ltN a e f f') (he : e = min (a + c) n) : Blks f' c n 0 (a + c) := by
  intro x hx _ hlt
  have hle := dvd_le hx hd hlt
  rcases Nat.lt_or_ge x a with k | k
  · have := dvd_add_le hx hd k
    have e1 : seg f' x (min (x + c) n) = seg f x (min (x + c) n) := seg_congr fun t h1 h2 => m.out t (by omega)
    rw [e1]
    exact h x hx (Nat.zero_le _) k
  · rw [show x = a by omega, ← he]
    exact m.mrg.srt
theorem blks_two {f f' : Fn'} {c n a e : Nat} (h : Blks f c n a n) (m : MergedIn ltN a e f f') (hae : a ≤ e) : Blks f' c n e n := by
  intro x hx hlo hlt
  have e1 : seg f' x (min (x + c) n) = seg f x (min (x + c) n) := seg_congr fun t h1 h2 => m.out t (by omega)
  rw [e1]
  exact h x hx (by omega) hlt
/-- what the sort keeps. -/
structure KP (f : Fn') (n : Nat) (h : Fn') : Prop where
  alike : Alike ltN (seg f 0 n) (seg h 0 n)
  sz : SZ h
theorem KP.step {f h h' : Fn'} {n a e : Nat} (k : KP f n h) (m : MergedIn ltN a e h h') (hae : a ≤ e) (hen : e ≤ n) : KP f n h' := ⟨k.alike.trans (m.alike (Nat.zero_le _) hen hae), SZ.mrg k.sz m⟩
theorem KP.start {f : Fn'} (n : Nat) (h : SZ f) : KP f n f := ⟨Alike.refl _, h⟩
theorem KP.fin {f h : Fn'} {n c : Nat} (k : KP f n h) (hb : Blks h c n 0 n) (hc : n ≤ c) : seg h 0 n = stab ltN (seg f 0 n) := by
  refine merged_stab woN ⟨?_, k.alike⟩
  rcases Nat.eq_zero_or_pos n with h0 | h0
  · rw [seg_nil h (by omega)]; exact List.Pairwise.nil
  · have := hb 0 (Nat.dvd_zero c) (Nat.le_refl _) h0
    rwa [show min (0 + c) n = n by omega] at this
/-- a pair of blocks and what's behind. -/
structure Pair (f : Fn') (c c2 n a : Nat) (h : Fn') : Prop where
  kp : KP f n h
  don : Blks h c2 n 0 a
  rest : Blks h c n a n
  d1 : c ∣ a
  d2 : c2 ∣ a
  an : a ≤ n
theorem Pair.next {f h h' : Fn'} {c c2 n a b : Nat} (p : Pair f c c2 n a h) (h2 : c2 = 2 * c) (hb : b = a + c2) (hbn : b ≤ n) (m : MergedIn ltN a b h h') : Pair f c c2 n b h' := by
  refine ⟨p.kp.step m (by omega) hbn, ?_, blks_two p.rest m (by omega), ?_, ?_, hbn⟩
  · rw [hb]; exact blks_put p.d2 p.don m (by omega)
  · rw [hb, h2]; exact (Nat.dvd_add_right p.d1).2 ⟨2, by rw [Nat.mul_comm]⟩
  · rw [hb]; exact (Nat.dvd_add_right p.d2).2 (Nat.dvd_refl _)
theorem Pair.srt1 {f h : Fn'} {c c2 n a m : Nat} (p : Pair f c c2 n a h) (hm : m = a + c) (hmn : m ≤ n) (hc : 0 < c) : Srt ltN (seg h a m) := by
  have := p.rest a p.d1 (Nat.le_refl _) (by omega)
  rwa [show min (a + c) n = m by omega] at this
theorem Pair.srt2 {f h : Fn'} {c c2 n a m e : Nat} (p : Pair f c c2 n a h) (hm : m = a + c) (hmn : m < n) (he : e = min (m + c) n) (hc : 0 < c) : Srt ltN (seg h m e) := by
  have := p.rest m (by rw [hm]; exact (Nat.dvd_add_right p.d1).2 (Nat.dvd_refl _)) (by omega) hmn
  rwa [← he] at this
theorem Pair.last {f h h' : Fn'} {c c2 n a : Nat} (p : Pair f c c2 n a h) (hn : n ≤ a + c2) (m : MergedIn ltN a n h h') : KP f n h' ∧ Blks h' c2 n 0 n := by
  refine ⟨p.kp.step m p.an (Nat.le_refl _), ?_⟩
  have := blks_put p.d2 p.don m (by omega)
  exact fun x hx h0 hlt => this x hx h0 (by omega)
theorem Pair.still {f h : Fn'} {c c2 n a m : Nat} (p : Pair f c c2 n a h) (hn : n ≤ a + c2) (hm : m = a + c) (hmn : n ≤ m) : KP f n h ∧ Blks h c2 n 0 n := by
  refine p.last hn ⟨fun _ _ => rfl, merged_left woN ?_⟩
  rcases Nat.lt_or_ge a n with k | k
  · have := p.rest a p.d1 (Nat.le_refl _) k
    rwa [show min (a + c) n = n by omega] at this
  · rw [seg_nil h k]; exact List.Pairwise.nil
theorem Pair.start {f h : Fn'} {c c2 n : Nat} (k : KP f n h) (hb : Blks h c n 0 n) : Pair f c c2 n 0 h := ⟨k, fun x _ _ hx => by omega, hb, Nat.dvd_zero _, Nat.dvd_zero _, Nat.zero_le _⟩

set_option maxHeartbeats 8000000 in
set_option maxRecDepth 100000 in
theorem stableCmp_any (hC : CMP) {B g n cap : Nat} {f : Fn'} {w W : World} (h : St B g n f w W) (hg : B ≤ g) (hw : B ≤ w.heap.size) (hn : n ≤ 1000) (hz : SZ f) :
    Calls Try.prog 35 #[.slice (some ⟨g, 0, none⟩) n cap, .int .i64 (n : Nat), cv] W fun e w' => e = .returned (.tuple #[]) ∧ ∃ f', St B g n f' w w' ∧ seg f' 0 n = stab ltN (seg f 0 n) ∧ SZ f' := by
  have z3 : (n : Int) ≤ 1000 := by omega
  have S0 := Lib.hid h
  have HG := Lib.hid hg
  have HZ := Lib.hid hz
  have HC := Lib.hid hC
  have HW := Lib.hid hw
  have HN := Lib.hid hn
  have SY : Hid (∀ d, SymC B g n cap w d) := Lib.hid (sym_any hC hg hw hn)
  clear h hg hz hC hw hn
  go_enter Try.func35, Try.ntmps35
  go_wp2_with fail
  go_loopw [7, 8] (fun u v wr => ∃ (a b : Nat) (h : Fn'), u = .int .i64 a ∧ v = .int .i64 b ∧ b = a + 20 ∧ a ≤ n ∧ 20 ∣ a ∧ St B g n h w wr ∧ KP f n h ∧ Blks h 20 n 0 a) (fun u _ _ => n - (intOf u).toNat)
  case atStart => exact ⟨0, 20, f, by first | rfl | go_num, by first | rfl | go_num, by omega, Nat.zero_le _, Nat.dvd_zero _, S0.out, KP.start n HZ.out, fun x _ _ hx => by omega⟩
  case round =>
    obtain ⟨a, b, h, rfl, rfl, hb, han, hd, hst, hk, hbl⟩ := hrel
    have SI := Lib.hid hst
    have KI := Lib.hid hk
    have BI := Lib.hid hbl
    have DI := Lib.hid hd
    have AB : Hid (b = a + 20 ∧ a ≤ n) := Lib.hid ⟨hb, han⟩
    have a1 : (a : Int) ≤ 1000 := by omega
    have b1 : (b : Int) ≤ 1020 := by omega
    clear hst hk hbl hd S0
    by_cases hbn : b ≤ n
    · have hbn' : (b : Int) ≤ (n : Int) := by omega
      have CL := Lib.hid (insSort_any (cap := cap) HC.out (a := a) (b := b) SI.out HG.out HW.out (by omega) hbn HN.out KI.out.sz)
      clear hb han
      go_wp2_with fail
      refine CL.out.mono ?_
      rintro _ w2 ⟨rfl, f2, hs, hm⟩
      have SI := Lib.hid hs
      have KN := Lib.hid (KI.out.step hm (by have := AB.out; omega) (by omega))
      have BN : Hid (Blks f2 20 n 0 b) := Lib.hid (by
        rw [AB.out.1]
        exact blks_put (e := b) DI.out BI.out hm (by have := AB.out; omega))
      have DN : Hid (20 ∣ b) := Lib.hid (by rw [AB.out.1]; exact (Nat.dvd_add_right DI.out).2 (Nat.dvd_refl _))
      clear hs hm CL
      go_wp2_with fail
      go_roundw
      case rel => exact ⟨b, b + 20, f2, by first | rfl | go_num, by first | rfl | go_num, rfl, by omega, DN.out, SI.out, KN.out, BN.out⟩
      case measure => have := AB.out; simp [intOf]; omega
    · have hbn' : ¬ (b : Int) ≤ (n : Int) := by omega
      have hbn2 : (n : Int) < (b : Int) := by omega
      have CL := Lib.hid (insSort_any (cap := cap) HC.out (a := a) (b := n) SI.out HG.out HW.out (by omega) (Nat.le_refl _) HN.out KI.out.sz)
      clear hb han
      go_wp2_with fail
      refine CL.out.mono ?_
      rintro _ w2 ⟨rfl, f2, hs, hm⟩
      have SI := Lib.hid hs
      have KN := Lib.hid (KI.out.step hm (by have := AB.out; omega) (Nat.le_refl _))
      have BN : Hid (Blks f2 20 n 0 n) := Lib.hid (by
        have := blks_put DI.out BI.out hm (by have := AB.out; omega)
        exact fun x hx h0 hlt => this x hx h0 (by have := AB.out; omega))
      clear hs hm CL KI BI
      go_wp2_with fail
      go_loopw [6, 7, 8, 9] (fun u _ _ _ wr => ∃ (c : Nat) (h : Fn'), u = .int .i64 c ∧ 0 < c ∧ c ≤ 2000 ∧ St B g n h w wr ∧ KP f n h ∧ Blks h c n 0 n) (fun u _ _ _ _ => n - (intOf u).toNat)
      case atStart => exact ⟨20, f2, by first | rfl | go_num, by omega, by omega, SI.out, KN.out, BN.out⟩
      case round =>
        obtain ⟨c, h, rfl, hc0, hc1, hst, hk, hbl⟩ := hrel
        clear BN KN SI
        have SI := Lib.hid hst
        have KI := Lib.hid hk
        have BI := Lib.hid hbl
        have C0 := Lib.hid hc0
        have c1 : (c : Int) ≤ 2000 := by omega
        clear hst hk hbl hc0 hc1
        by_cases hcn : c < n
        · have hcn' : (c : Int) < (n : Int) := by omega
          obtain ⟨c2, hc2⟩ : ∃ x, x = 2 * c := ⟨_, rfl⟩
          have ec2 : (2 : Int) * (c : Int) = (c2 : Int) := by omega
          have ec3 : (c : Int) * 2 = (c2 : Int) := by omega
          have c21 : (c2 : Int) ≤ 2000 := by omega
          have HC2 := Lib.hid hc2
          have P0 : Hid (Pair f c c2 n 0 h) := Lib.hid (Pair.start KI.out BI.out)
          clear hc2
          go_wp2_with fail
          go_loopw [7, 8] (fun u v wr => ∃ (a b : Nat) (h : Fn'), u = .int .i64 a ∧ v = .int .i64 b ∧ b = a + c2 ∧ St B g n h w wr ∧ Pair f c c2 n a h) (fun u _ _ => n - (intOf u).toNat)
          case atStart => exact ⟨0, c2, h, by first | rfl | go_num, rfl, by omega, SI.out, P0.out⟩
          case round =>
            obtain ⟨a, b, h, rfl, rfl, hb, hst, hp⟩ := hrel
            clear SI P0
            have SI := Lib.hid hst
            have PI := Lib.hid hp
            have HB := Lib.hid hb
            have han := hp.an
            obtain ⟨m, hm⟩ : ∃ x, x = a + c := ⟨_, rfl⟩
            have em : (a : Int) + (c : Int) = (m : Int) := by omega
            have a1 : (a : Int) ≤ 1000 := by omega
            have b1 : (b : Int) ≤ 3000 := by omega
            have m1 : (m : Int) ≤ 3000 := by omega
            have HM := Lib.hid hm
            have HA := Lib.hid han
            have HCN := Lib.hid hcn
            clear hst hp hb hm han
            by_cases hbn : b ≤ n
            · have hbn' : (b : Int) ≤ (n : Int) := by omega
              obtain ⟨bb, hbb⟩ : ∃ x, x = b + c2 := ⟨_, rfl⟩
              have ebb : (b : Int) + (c2 : Int) = (bb : Int) := by omega
              have bb1 : (bb : Int) ≤ 5000 := by omega
              have HBB := Lib.hid hbb
              clear hbb
              have CL := Lib.hid (SY.out (b - a + 1) a m b h wr (by omega) SI.out (by have := HM.out; have := C0.out; omega) (by have := HM.out; have := C0.out; have := HB.out; have := HC2.out; omega) hbn PI.out.kp.sz
                (PI.out.srt1 HM.out (by have := HM.out; have := HB.out; have := HC2.out; omega) C0.out) (PI.out.srt2 HM.out (by have := HM.out; have := C0.out; have := HB.out; have := HC2.out; omega) (by have := HM.out; have := HB.out; have := HC2.out; omega) C0.out))
              go_wp2_with fail
              refine CL.out.mono ?_
              rintro _ w3 ⟨rfl, f3, hs, hm⟩
              have SI := Lib.hid hs
              have PN := Lib.hid (PI.out.next HC2.out HB.out hbn hm)
              clear hs hm CL
              go_wp2_with fail
              go_roundw
              case rel => exact ⟨b, bb, f3, rfl, by first | rfl | go_num, HBB.out, SI.out, PN.out⟩
              case measure => have := HB.out; have := HC2.out; have := C0.out; simp [intOf]; omega
            · have hbn' : ¬ (b : Int) ≤ (n : Int) := by omega
              have hbn2 : (n : Int) < (b : Int) := by omega
              by_cases hmn : m < n
              · have hmn' : (m : Int) < (n : Int) := by omega
                have CL := Lib.hid (SY.out (n - a + 1) a m n h wr (by omega) SI.out (by have := HM.out; have := C0.out; omega) hmn (Nat.le_refl _) PI.out.kp.sz
                  (PI.out.srt1 HM.out (by omega) C0.out) (PI.out.srt2 HM.out hmn (by have := HM.out; have := HB.out; have := HC2.out; omega) C0.out))
                go_wp2_with fail
                refine CL.out.mono ?_
                rintro _ w3 ⟨rfl, f3, hs, hm⟩
                have SI := Lib.hid hs
                have PN := Lib.hid (PI.out.last (by have := HB.out; omega) hm)
                clear hs hm CL
                go_wp2_with fail
                go_roundw
                case rel => exact ⟨c2, f3, by first | rfl | go_num, by have := HC2.out; have := C0.out; omega, by omega, SI.out, PN.out.1, PN.out.2⟩
                case measure => have := HC2.out; have := C0.out; simp [intOf]; omega
              · have hmn' : ¬ (m : Int) < (n : Int) := by omega
                have PN := Lib.hid (PI.out.still (by have := HB.out; omega) HM.out (by omega))
                go_wp2_with fail
                go_roundw
                case rel => exact ⟨c2, h, by first | rfl | go_num, by have := HC2.out; have := C0.out; omega, by omega, SI.out, PN.out.1, PN.out.2⟩
                case measure => have := HC2.out; have := C0.out; simp [intOf]; omega
        · have hcn' : ¬ (c : Int) < (n : Int) := by omega
          have FN := Lib.hid (KI.out.fin BI.out (by omega))
          go_wp2_with fail
          go_end0
          exact ⟨rfl, h, SI.out, FN.out, KI.out.sz⟩

/-- slices.SortStableFunc. -/
theorem sortStable_any (hC : CMP) {B g n cap : Nat} {f : Fn'} {w W : World} (h : St B g n f w W) (hg : B ≤ g) (hw : B ≤ w.heap.size) (hn : n ≤ 1000) (hz : SZ f) :
    Calls Try.prog 24 #[.slice (some ⟨g, 0, none⟩) n cap, cv] W fun e w' => e = .returned (.tuple #[]) ∧ ∃ f', St B g n f' w w' ∧ seg f' 0 n = stab ltN (seg f 0 n) ∧ SZ f' := by
  have z3 : (n : Int) ≤ 1000 := by omega
  have CL := Lib.hid (stableCmp_any (cap := cap) hC h hg hw hn hz)
  clear h hg hw hn hz hC
  go_enter Try.func24, Try.ntmps24
  go_wp2_with fail
  refine CL.out.mono ?_
  rintro _ w2 ⟨rfl, h⟩
  go_wp2_with fail
  go_end0
  exact ⟨rfl, h⟩

end Go.Proofs.Ytdilmiaaahpfcaa.Stab
