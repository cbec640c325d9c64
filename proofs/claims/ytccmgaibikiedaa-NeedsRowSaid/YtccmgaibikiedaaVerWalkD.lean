/- The document's words on parts: which one stands ahead. -/
import Derived.Test.YtccmgaibikiedaaVerWalkC
namespace Go.Proofs.Ytccmgaibikiedaa.Ver
set_option linter.unusedVariables false
open Go.RowKit

theorem less_eq (a b : Bs) : Op.bytesLess a b = decide (Lib.compareBytes a b < 0) := by
  induction a generalizing b with
  | nil => cases b <;> rfl
  | cons x a ih =>
    cases b with
    | nil => rfl
    | cons y b =>
      rw [cb_cons, Op.bytesLess, ih b]
      simp only [UInt8.lt_iff_toNat_lt]
      by_cases h1 : x.toNat < y.toNat
      · simp [h1]
      · by_cases h2 : y.toNat < x.toNat
        · have : (x == y) = false := by
            cases e : (x == y) with
            | false => rfl
            | true => rw [eq_of_beq e] at h2; omega
          simp [h1, h2, this]
        · have : x = y := by rw [← UInt8.toNat_inj]; omega
          subst this
          simp
theorem size_ne (a b : ByteArray) : ((a.size : Int) != (b.size : Int)) = (a.data.toList.length != b.data.toList.length) := by
  rw [len_list, len_list]
  cases e : (a.size != b.size) with
  | false => have : a.size = b.size := by simpa using e
             rw [this]; simp
  | true => have : a.size ≠ b.size := by simpa using e
            rw [bne_iff_ne]; omega
theorem bne_not (x y : Bool) : (x != y) = (!x == y) := by cases x <;> cases y <;> rfl

set_option maxHeartbeats 1000000 in
theorem before_any (a b : ByteArray) (w : World) (ha : a.size ≤ maxLen) (hb : b.size ≤ maxLen) : Calls Try.prog 53 #[.string a, .string b] w fun e w' => e = .returned (.bool (beforeP a.data.toList b.data.toList)) ∧ w = w' := by
  have HA := Lib.hid ha
  have HB := Lib.hid hb
  have hma : (a.size : Int) ≤ 9223372036854775807 := by unfold maxLen at ha; omega
  have hmb : (b.size : Int) ≤ 9223372036854775807 := by unfold maxLen at hb; omega
  clear ha hb
  go_enter Try.func53, Try.ntmps53
  go_wp2_with (first | (go_at_call 76; refine (digits_any _ _ (by first | exact HA.out | exact HB.out)).mono ?_; rintro e w' ⟨rfl, rfl⟩) | (go_at_call 75; refine (letters_any _ _ (by first | exact HA.out | exact HB.out)).mono ?_; rintro e w' ⟨rfl, rfl⟩))
  all_goals (go_ret; refine ⟨ret_bool ?_, rfl⟩)
  all_goals clear HA HB
  all_goals simp only [Lib.toList_data, less_eq, size_ne] at *
  all_goals unfold beforeP
  · rename_i h
    rw [if_pos (eq_of_beq h)]
  all_goals rw [if_neg (by intro h; simp_all)]
  · rename_i h
    rw [if_pos (List.isEmpty_iff.1 h)]
  all_goals rw [if_neg (by intro h; simp_all)]
  · rename_i h
    rw [if_pos (List.isEmpty_iff.1 h)]
  all_goals rw [if_neg (by intro h; simp_all), bne_not]
  · rw [if_pos (by assumption)]
  all_goals rw [if_neg (by simp_all)]
  · rename_i h1 h
    rw [if_pos (by simp_all)]; rw [len_list, len_list]
  · rename_i h1 h
    rw [if_neg (by simp_all)]
  · rename_i h
    rw [if_neg (by simp_all)]

theorem before_list {a b : Bs} (w : World) (ha : a.length ≤ maxLen) (hb : b.length ≤ maxLen) (oa : okP a) (ob : okP b) : Calls Try.prog 53 #[str a, str b] w fun e w' => e = .returned (.bool (decide (cmpPart a b < 0))) ∧ w = w' := by
  rw [← before_eq oa ob]
  exact before_any ⟨a.toArray⟩ ⟨b.toArray⟩ w (by rw [size_str]; exact ha) (by rw [size_str]; exact hb)

/-! ### a text at a sign -/
theorem info_str : (Try.prog.info? 9).map (fun i => (i.zero, i.size, i.bytes)) = some (some (.string ⟨#[]⟩), 1, 16) := by kernel_rfl
theorem extract_list (s : ByteArray) (i j : Nat) (hj : j ≤ s.size) : (s.extract i j).data.toList = (s.data.toList.drop i).take (j - i) := by
  rw [Lib.extract_data]
theorem cut_rest (d : UInt8) (s : Bs) (f k : Nat) (hf : f ≤ k) (hk : k < s.length) (hn : d ∉ (s.drop f).take (k - f)) (hd : s[k]? = some d) : cutAt d (s.drop f) = (s.drop f).take (k - f) :: cutAt d (s.drop (k + 1)) := by
  have e : s.drop f = (s.drop f).take (k - f) ++ d :: s.drop (k + 1) := by
    conv => lhs; rw [← List.take_append_drop (k - f) (s.drop f)]
    rw [List.drop_drop, show f + (k - f) = k by omega]
    rw [List.drop_eq_getElem_cons hk]
    have : s[k] = d := by rw [List.getElem?_eq_getElem hk] at hd; simpa using hd
    rw [this]
  conv => lhs; rw [e]
  exact cut_at d _ _ hn
theorem cut_last (d : UInt8) (s : Bs) (f : Nat) (hn : d ∉ (s.drop f).take (s.length - f)) : cutAt d (s.drop f) = [(s.drop f).take (s.length - f)] := by
  have e : (s.drop f).take (s.length - f) = s.drop f := List.take_of_length_le (by simp)
  rw [e] at hn ⊢
  exact cut_none d _ hn
theorem none_next (d : UInt8) (s : ByteArray) (f k : Nat) (hf : f ≤ k) (hk : k < s.size) (hn : d ∉ (s.data.toList.drop f).take (k - f)) (hd : s[k] ≠ d) : d ∉ (s.data.toList.drop f).take (k + 1 - f) := by
  rw [show k + 1 - f = (k - f) + 1 by omega, List.take_succ_eq_append_getElem (by simp; omega)]
  simp only [List.mem_append, List.mem_singleton, not_or]
  refine ⟨hn, fun e => hd ?_⟩
  rw [e]
  simp only [List.getElem_drop]
  have : f + (k - f) = k := by omega
  simp only [this]; rfl

/-- what lies behind a call that makes memory: the slice that it hands back. -/
def CutPost (w : World) (l : List Bs) (e : Ending) (w' : World) : Prop :=
  ∃ g cap, e = .returned (.slice (some ⟨g, 0, none⟩) l.length cap) ∧ w'.ownsRow w.heap.size 9 1 (.slice (some ⟨g, 0, none⟩) l.length cap) l.length (l.map str) ∧ Below w.heap.size w w'

def CutSt (w : World) (d : UInt8) (s : ByteArray) (f k : Nat) (out : List Bs) (v : Value) (wr : World) : Prop :=
  ∃ g cap, v = .slice (some ⟨g, 0, none⟩) out.length cap ∧ wr.ownsRow w.heap.size 9 1 (.slice (some ⟨g, 0, none⟩) out.length cap) out.length (out.map str) ∧ Below w.heap.size w wr ∧ w.heap.size ≤ wr.heap.size ∧ out.length ≤ k ∧
    ((k ≤ s.size ∧ f ≤ k ∧ d ∉ (s.data.toList.drop f).take (k - f) ∧ cutAt d s.data.toList = out ++ cutAt d (s.data.toList.drop f)) ∨ (k = s.size + 1 ∧ cutAt d s.data.toList = out))
theorem CutSt.start (w : World) (d : UInt8) (s : ByteArray) : CutSt w d s 0 0 [] (.slice (some ⟨w.heap.size, 0, none⟩) 0 0) (w.alloc (.cells #[] 9)) := by
  refine ⟨w.heap.size, 0, rfl, ?_, (Below.refl _ _).alloc (Nat.le_refl _) _, by simp, Nat.le_refl _, .inl ⟨Nat.zero_le _, Nat.le_refl _, by simp, by simp⟩⟩
  exact World.ownsRow_lit (base := w.heap.size) (e := 9) (size := 1) w #[] 0 (Nat.le_refl _) (by decide) rfl
theorem str_extract (s : ByteArray) (i j : Nat) : Value.string (s.extract i j) = str ((s.data.toList.drop i).take (j - i)) := by
  rw [← Lib.extract_data]
theorem out_push (out : List Bs) (p : Bs) (v : Value) (h : v = str p) : out.map str ++ [v] = (out ++ [p]).map str := by rw [h]; simp

theorem CutSt.push {w w2 : World} {d : UInt8} {s : ByteArray} {k f' k' g2 cap2 n : Nat} {out : List Bs} {p : Bs} {x : Value} (hx : x = str p) (hn : n = out.length + 1)
    (hown : w2.ownsRow w.heap.size 9 1 (.slice (some ⟨g2, 0, none⟩) n cap2) n (out.map str ++ [x])) (hb : Below w.heap.size w w2) (hs : w.heap.size ≤ w2.heap.size) (hout : out.length ≤ k) (hk : k' = k + 1)
    (hor : (k' ≤ s.size ∧ f' ≤ k' ∧ d ∉ (s.data.toList.drop f').take (k' - f') ∧ cutAt d s.data.toList = (out ++ [p]) ++ cutAt d (s.data.toList.drop f')) ∨ (k' = s.size + 1 ∧ cutAt d s.data.toList = out ++ [p])) :
    CutSt w d s f' k' (out ++ [p]) (.slice (some ⟨g2, 0, none⟩) n cap2) w2 := by
  rw [out_push out p x hx] at hown
  subst hn
  refine ⟨g2, cap2, by simp, by simpa using hown, hb, hs, by simp; omega, hor⟩

set_option maxRecDepth 100000 in
set_option maxHeartbeats 2000000 in
theorem cut_any (s : ByteArray) (d : UInt8) (w : World) (hs : s.size ≤ 1000000) : Calls Try.prog 51 #[.string s, .int .u8 d.toNat] w (CutPost w (cutAt d s.data.toList)) := by
  obtain ⟨i0, hi, hz0, hz1, hz2⟩ := info_parts info_str
  have hs' : (s.size : Int) ≤ 1000000 := by omega
  have ST := Lib.hid (CutSt.start w d s)
  have BAD := Lib.hid (none_next d s)
  have CR := Lib.hid (cut_rest d s.data.toList)
  have CL := Lib.hid (cut_last d s.data.toList)
  have hd255 : (d.toNat : Int) ≤ 255 := by have := d.toNat_lt; omega
  go_enter Try.func51, Try.ntmps51
  go_wp2_with fail
  go_loopw [5, 6, 7] (fun v x y wr => ∃ f k out, x = .int .i64 (f : Nat) ∧ y = .int .i64 (k : Nat) ∧ CutSt w d s f k out v wr) (fun _ _ y _ => s.size + 1 - (intOf y).toNat)
  case atStart => exact ⟨0, 0, [], rfl, rfl, ST.out⟩
  case round =>
    obtain ⟨f, k, out, rfl, rfl, g, cap, rfl, hown, hbel, hsz, hout, hor⟩ := hrel
    clear ST
    rcases hor with ⟨hk, hf, hn, hc⟩ | ⟨hk, hc⟩
    · have HN := Lib.hid hn
      have HC := Lib.hid hc
      clear hn hc
      by_cases hlt : k < s.size
      · have hlt' : (k : Int) < (s.size : Int) := by omega
        have hle' : (k : Int) ≤ (s.size : Int) := by omega
        have e1 : ((k : Int) == (s.size : Int)) = false := beq_eq_false_iff_ne.2 (by omega)
        by_cases hd : s[k] = d
        · have e2 : ((s[k].toNat : Int) == (d.toNat : Int)) = true := by rw [hd]; exact beq_self_eq_true _
          have hget : s.data.toList[k]? = some d := by rw [List.getElem?_eq_getElem (by simpa using hlt)]; rw [← hd]; rfl
          have NC : Hid (cutAt d s.data.toList = (out ++ [(s.data.toList.drop f).take (k - f)]) ++ cutAt d (s.data.toList.drop (k + 1))) := Lib.hid (by
            rw [HC.out, CR.out f k hf (by simpa using hlt) HN.out hget]; simp)
          have E := Lib.hid (str_extract s f k)
          have hf' : (f : Int) ≤ (k : Int) := by omega
          clear hd hget
          go_wp2_with (at_builtin; refine wp_append_one _ rfl (.tmp 26) (.tmp 31) 41 rfl w.heap.size 9 i0 _ 16 Try.underlying41 hi hz0 hz1 hz2 rfl _ _ _ rfl hown _ rfl rfl (by unfold maxLen; omega) (by omega) hsz ?_; intro g2 cap2 w2 hown2 hg2 hgs2 hbel2 hsz2 hgr2)
          go_roundw
          case rel => exact ⟨k + 1, k + 1, out ++ [(s.data.toList.drop f).take (k - f)], by go_num, by go_num, CutSt.push E.out rfl hown2 (hbel.trans hbel2) (by omega) hout rfl (.inl ⟨by omega, Nat.le_refl _, by simp, NC.out⟩)⟩
          case measure => simp [intOf]; omega
        · have e2 : ((s[k].toNat : Int) == (d.toNat : Int)) = false := beq_eq_false_iff_ne.2 (fun e => hd (by rw [← UInt8.toNat_inj]; omega))
          have NB := Lib.hid (BAD.out f k hf hlt HN.out hd)
          clear hd
          go_wp2_with fail
          go_roundw
          case rel => exact ⟨f, k + 1, out, by go_num, by go_num, g, cap, rfl, hown, hbel, hsz, by omega, .inl ⟨by omega, by omega, NB.out, HC.out⟩⟩
          case measure => simp [intOf]; omega
      · obtain rfl : k = s.size := by omega
        have NC : Hid (cutAt d s.data.toList = out ++ [(s.data.toList.drop f).take (s.size - f)]) := Lib.hid (by
          have := CL.out f (by rw [len_list]; exact HN.out)
          rw [len_list] at this
          rw [HC.out, this])
        have E := Lib.hid (str_extract s f s.size)
        have hf' : (f : Int) ≤ (s.size : Int) := by omega
        go_wp2_with (at_builtin; refine wp_append_one _ rfl (.tmp 26) (.tmp 31) 41 rfl w.heap.size 9 i0 _ 16 Try.underlying41 hi hz0 hz1 hz2 rfl _ _ _ rfl hown _ rfl rfl (by unfold maxLen; omega) (by omega) hsz ?_; intro g2 cap2 w2 hown2 hg2 hgs2 hbel2 hsz2 hgr2)
        go_roundw
        case rel => exact ⟨s.size + 1, s.size + 1, out ++ [(s.data.toList.drop f).take (s.size - f)], by go_num, by go_num, CutSt.push E.out rfl hown2 (hbel.trans hbel2) (by omega) hout rfl (.inr ⟨rfl, NC.out⟩)⟩
        case measure => simp [intOf]
    · have hlt' : (s.size : Int) < (k : Int) := by omega
      have HC := Lib.hid hc
      clear hc hk
      go_wp2_with fail
      go_ret
      refine ⟨g, cap, ?_, ?_, hbel⟩
      · rw [HC.out]; rfl
      · rw [HC.out]; exact hown

end Go.Proofs.Ytccmgaibikiedaa.Ver
