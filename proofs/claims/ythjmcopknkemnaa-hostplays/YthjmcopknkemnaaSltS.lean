/- slots: the plain mathematics of the laws. No program is named here. -/
import Derived.Test.YthjmcopknkemnaaSltP
namespace Go.Proofs.Ythjmcopknkemnaa.slots
set_option linter.unusedVariables false

theorem set_self {B : Bd} (hn : B.length = 9) {n : Nat} (h : n < 9) : B.set n (sl B n) = B := by
  refine sl_ext (by rw [List.length_set]; exact hn) hn fun j hj => ?_
  rw [sl_set hn h]
  by_cases q : j = n
  · rw [if_pos q, q]
  · rw [if_neg q]
theorem set_back {B : Bd} (hn : B.length = 9) {n : Nat} {s t : List Int} (h : n < 9) (ht : sl B n = t) : (B.set n s).set n t = B := by
  rw [List.set_set, ← ht]
  exact set_self hn h
theorem do_no {B : Bd} {k n e a : Int} (hw : Wf B) (h : (doB B k n e a).c ≠ 1) : (doB B k n e a).B = B := by
  unfold doB at *
  by_cases c0 : chk B = false
  · rw [if_pos c0]
  rw [if_neg c0] at *
  by_cases c1 : k = 1
  · rw [if_pos c1]
  rw [if_neg c1] at *
  by_cases c2 : k = 2
  · rw [if_pos c2] at *
    unfold enb at *
    by_cases f : fr B ≤ 8
    · rw [if_pos f] at h; exact absurd rfl h
    · rw [if_neg f]
  rw [if_neg c2] at *
  by_cases c3 : 3 ≤ k ∧ k ≤ 9
  · rw [if_pos c3] at *
    unfold ats at *
    by_cases q : slB n = false
    · rw [if_pos q]
    · rw [if_neg q] at *
      have hn := sl_in (s := n) (by simpa using q)
      show B.set n.toNat (beh _ _ _ _ _).1 = B
      rw [beh_no h]
      exact set_self hw.nine (by omega)
  · rw [if_neg c3]
theorem do_chk {B : Bd} {k n e a : Int} (h : (doB B k n e a).c = 1) : chk B = true := by
  unfold doB at h
  cases c0 : chk B with
  | true => rfl
  | false => rw [c0, if_pos rfl] at h; exact absurd h (show ¬ (0 : Int) = 1 by decide)
theorem back_x {B : Bd} (h : (doB B 2 0 0 0).c = 1) : fr B ≤ 8 ∧ doB B 2 0 0 0 = ⟨B.set (fr B) (one 1), 1, (fr B : Int)⟩ := by
  have hc := do_chk h
  have e : doB B 2 0 0 0 = enb B := by unfold doB; rw [hc, if_neg (by simp), if_neg (by omega), if_pos rfl]
  rw [e] at h ⊢
  unfold enb at *
  by_cases f : fr B ≤ 8
  · rw [if_pos f]; exact ⟨f, rfl⟩
  · rw [if_neg f] at h; exact absurd h (show ¬ (9 : Int) = 1 by decide)
theorem back_y {B : Bd} (hw : Wf B) (h : (doB B 2 0 0 0).c = 1) : doB (doB B 2 0 0 0).B 3 (doB B 2 0 0 0).n 0 0 = ⟨B, 1, (doB B 2 0 0 0).n⟩ := by
  obtain ⟨f, e⟩ := back_x h
  have hok := (chk_iff hw).1 (do_chk h)
  have hx : Ok (doB B 2 0 0 0).B := do_ok hw hok
  have hxw : Wf (doB B 2 0 0 0).B := do_wf hw
  have f1 := (fr_le B).1
  have hc := (chk_iff hxw).2 hx
  rw [e] at hc hxw ⊢
  simp only at hc hxw ⊢
  have hsl : slB (fr B : Int) = true := by unfold slB; simp; omega
  have ht : ((fr B : Nat) : Int).toNat = fr B := by omega
  unfold doB
  rw [hc, if_neg (by simp), if_neg (by omega), if_neg (by omega), if_pos (by omega)]
  unfold ats
  rw [hsl, if_neg (by simp), ht, sl_set hw.nine (by omega), if_pos rfl]
  have hb : ∀ x, beh (one 1) x 3 0 0 = (z66, 1) := fun x => by unfold beh; rw [st_one, if_neg (by omega), if_pos rfl]
  rw [hb]
  simp only
  rw [set_back hw.nine (by omega) (fr_is f)]
end Go.Proofs.Ythjmcopknkemnaa.slots
