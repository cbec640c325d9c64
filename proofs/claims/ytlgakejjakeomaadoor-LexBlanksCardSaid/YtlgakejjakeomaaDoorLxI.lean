/- Lines of words: the document's answer, a line. -/
import Derived.Test.YtlgakejjakeomaaDoorLxH
namespace Go.Proofs.YtlgakejjakeomaaDoor.Lx
set_option linter.unusedVariables false
set_option linter.unusedSimpArgs false
open Go.RowKit
def partB (c : UInt8) : Bool := decide (32 < c.toNat) && (decide (c.toNat < 127) && !(c.toNat == 35))
def twP (l : Bs) : Nat := (l.takeWhile partB).length
theorem twP_no {c : UInt8} {r : Bs} (h : partB c = false) : twP (c :: r) = 0 := by unfold twP; rw [List.takeWhile_cons, h]; rfl
theorem twP_yes {c : UInt8} {r : Bs} (h : partB c = true) : twP (c :: r) = twP r + 1 := by unfold twP; rw [List.takeWhile_cons, h]; rfl
def refW (room : Bool) : Bs → Nat → Bool → List Wp → Bool → List Wp × Nat × Nat
  | [], _, _, out, _ => (out, 0, 0)
  | c :: r, i, prev, out, off =>
    if c.toNat < 32 ∨ 126 < c.toNat then (out, i + 1, 3) else
    if (off || c.toNat == 35) = true ∨ partB c = false ∨ prev = true then refW room r (i + 1) (partB c) out (off || c.toNat == 35) else
    if out.length = 40 ∨ room = false then (out, i + 1, 4) else refW room r (i + 1) true (out ++ [(i, i + twP (c :: r))]) false
variable {room prev off : Bool} {c : UInt8} {r : Bs} {i : Nat} {out : List Wp}
theorem refW_bad (h : c.toNat < 32 ∨ 126 < c.toNat) : refW room (c :: r) i prev out off = (out, i + 1, 3) := by rw [refW, if_pos h]
theorem refW_go (h : ¬ (c.toNat < 32 ∨ 126 < c.toNat)) (h2 : (off || c.toNat == 35) = true ∨ partB c = false ∨ prev = true) : refW room (c :: r) i prev out off = refW room r (i + 1) (partB c) out (off || c.toNat == 35) := by rw [refW, if_neg h, if_pos h2]
theorem refW_full (h : ¬ (c.toNat < 32 ∨ 126 < c.toNat)) (h2 : ¬ ((off || c.toNat == 35) = true ∨ partB c = false ∨ prev = true)) (h3 : out.length = 40 ∨ room = false) : refW room (c :: r) i prev out off = (out, i + 1, 4) := by rw [refW, if_neg h, if_neg h2, if_pos h3]
theorem refW_new (h : ¬ (c.toNat < 32 ∨ 126 < c.toNat)) (h2 : ¬ ((off || c.toNat == 35) = true ∨ partB c = false ∨ prev = true)) (h3 : ¬ (out.length = 40 ∨ room = false)) : refW room (c :: r) i prev out off = refW room r (i + 1) true (out ++ [(i, i + twP (c :: r))]) false := by rw [refW, if_neg h, if_neg h2, if_neg h3]
theorem part_of (h : ¬ (c.toNat < 32 ∨ 126 < c.toNat)) : partB c = true ↔ ¬ (c.toNat = 35 ∨ c.toNat = 32) := by
  unfold partB
  simp only [Bool.and_eq_true, decide_eq_true_eq, Bool.not_eq_true', beq_eq_false_iff_ne, ne_eq]
  omega
def Sim (x y : List Wp × Nat × Nat) : Prop := x.2 = y.2 ∧ (x.2.2 = 0 → x.1 = y.1)
theorem ref_run (room : Bool) : ∀ (r : Bs) (i : Nat),
    (∀ (prev : Bool) (out : List Wp) (lf : Bool), (lf = false → prev = false) → (room = false → out = []) → Sim (runW (if room then 40 else 0) r i out false lf) (refW room r i prev out lf)) ∧
    (room = true → ∀ (o : List Wp) (a : Nat), Sim (runW (if room then 40 else 0) r i (o ++ [(a, i)]) true false) (refW room r i true (o ++ [(a, i + twP r)]) false))
  | [], i => ⟨fun prev out lf _ _ => ⟨rfl, fun _ => rfl⟩, fun _ o a => ⟨rfl, fun _ => rfl⟩⟩
  | c :: r, i => by
    obtain ⟨ih1, ih2⟩ := ref_run room r (i + 1)
    refine ⟨fun prev out lf hp ho => ?_, fun hroom o a => ?_⟩
    · by_cases hb : c.toNat < 32 ∨ 126 < c.toNat
      · rw [runW_bad hb, refW_bad hb]
        exact ⟨rfl, fun h => by cases h⟩
      · by_cases h2 : lf = true ∨ c.toNat = 35 ∨ c.toNat = 32
        · have h3 : (lf || c.toNat == 35) = true ∨ partB c = false ∨ prev = true := by
            rcases h2 with h | h | h
            · left; rw [h]; rfl
            · left; simp [h]
            · right; left
              exact Bool.eq_false_iff.2 (fun hh => (part_of hb).1 hh (.inr h))
          rw [runW_off hb h2, refW_go hb h3]
          refine ih1 _ _ _ (fun h => ?_) ho
          simp only [Bool.or_eq_false_iff, beq_eq_false_iff_ne] at h
          have h32 : c.toNat = 32 := by
            rcases h2 with h4 | h4 | h4
            · rw [h.1] at h4; cases h4
            · exact absurd h4 h.2
            · exact h4
          exact Bool.eq_false_iff.2 (fun hh => (part_of hb).1 hh (.inr h32))
        · have hl : lf = false := by cases lf <;> simp_all
          subst hl
          have hpr := hp rfl
          subst hpr
          have h35 : ¬ (c.toNat = 35 ∨ c.toNat = 32) := fun h => h2 (.inr h)
          have hpt := (part_of hb).2 h35
          have h4 : ¬ ((false || c.toNat == 35) = true ∨ partB c = false ∨ (false : Bool) = true) := by
            rw [hpt]
            simp
            omega
          by_cases hf : out.length = 40 ∨ room = false
          · rw [refW_full hb h4 hf]
            have hm : out.length = if room = true then 40 else 0 := by
              cases room
              · rw [ho rfl]; rfl
              · rcases hf with h | h
                · exact h
                · cases h
            rw [runW_full hb h35 hm]
            exact ⟨rfl, fun h => by cases h⟩
          · have hr : room = true := by cases room <;> simp_all
            rw [refW_new hb h4 hf, runW_new hb h35 (by subst hr; simpa using hf), twP_yes hpt]
            have := ih2 hr out i
            rw [Nat.add_assoc, Nat.add_comm 1] at this
            exact this
    · by_cases hb : c.toNat < 32 ∨ 126 < c.toNat
      · rw [runW_bad hb, refW_bad hb]
        exact ⟨rfl, fun h => by cases h⟩
      · by_cases h35 : c.toNat = 35 ∨ c.toNat = 32
        · have hpt : partB c = false := Bool.eq_false_iff.2 (fun hh => (part_of hb).1 hh h35)
          rw [runW_off hb (.inr h35), refW_go hb (.inr (.inl hpt)), twP_no hpt]
          exact ih1 _ _ _ (fun _ => hpt) (fun h => by rw [hroom] at h; cases h)
        · have hpt := (part_of hb).2 h35
          have e35 : (false || c.toNat == 35) = false := by simp; omega
          rw [runW_in hb h35, refW_go hb (.inr (.inr rfl)), setLast_app, hpt, e35, twP_yes hpt]
          have := ih2 hroom o a
          rw [Nat.add_assoc, Nat.add_comm 1] at this
          exact this

set_option maxHeartbeats 1000000 in
theorem part_any (c : UInt8) (w : World) : Calls Tryd.prog 34 #[.int .u8 c.toNat] w fun e w' => e = .returned (.bool (partB c)) ∧ w = w' := by
  by_cases h1 : 32 < (c.toNat : Int)
  · by_cases h2 : (c.toNat : Int) < 127
    · by_cases h3 : (c.toNat : Int) = 35
      · have e : partB c = false := by unfold partB; simp; omega
        go_enter Tryd.func34, Tryd.ntmps34
        go_wp2_with fail
        go_ret
        first | exact ⟨rfl, rfl⟩ | (rw [e]; exact ⟨rfl, rfl⟩)
      · have h3b : ((c.toNat : Int) != 35) = true := by simpa using h3
        have e : partB c = true := by unfold partB; simp; omega
        go_enter Tryd.func34, Tryd.ntmps34
        go_wp2_with fail
        go_ret
        first | exact ⟨rfl, rfl⟩ | (rw [e]; exact ⟨rfl, rfl⟩)
    · have e : partB c = false := by unfold partB; simp; omega
      go_enter Tryd.func34, Tryd.ntmps34
      go_wp2_with fail
      go_ret
      first | exact ⟨rfl, rfl⟩ | (rw [e]; exact ⟨rfl, rfl⟩)
  · have e : partB c = false := by unfold partB; simp; omega
    go_enter Tryd.func34, Tryd.ntmps34
    go_wp2_with fail
    go_ret
    first | exact ⟨rfl, rfl⟩ | (rw [e]; exact ⟨rfl, rfl⟩)

end Go.Proofs.YtlgakejjakeomaaDoor.Lx
