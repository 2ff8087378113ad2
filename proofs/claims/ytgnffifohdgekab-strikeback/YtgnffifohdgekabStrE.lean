/- strike: what is known of what Carry told (plain). -/
import Derived.Test.YtgnffifohdgekabStrM
namespace Go.Proofs.Ytgnffifohdgekab.strike
open Go.RowKit Go.Proofs.Ytgnffifohdgekab.pipe
set_option linter.unusedVariables false

theorem ca_facts {z : Int} {t : ByteArray} {F : List Int} (h : caC z t F = 0) : ∃ (n : Nat) (r : Rs), z = (n : Int) ∧ 1 ≤ n ∧ n ≤ 64 ∧ t.size ≤ 4096 ∧ F.length ≤ 1000 ∧ F.all fateB = true ∧ t.size / n + 1 ≤ 200 ∧ gt (t.size / n + 1) (0, 0) 0 F = r ∧ caV z t F = toC n t r ∧ okc (t.size / n + 1) r.c := by
  obtain ⟨h1, h2, h3, h4, h5⟩ := ca_ok h
  obtain ⟨z1, z2, z3, _⟩ := sp_ok h1
  rw [pcs_length] at h2 h5
  obtain ⟨n, rfl⟩ : ∃ n : Nat, z = (n : Int) := ⟨z.toNat, by omega⟩
  rw [Int.toNat_natCast] at h2 h5
  exact ⟨n, _, rfl, by omega, by omega, z3, h3, h4, h2, rfl, h5, gt_okc _ _ _ (okc_zero _)⟩
theorem ex_all {t : ByteArray} {m : Nat} (h : t.size ≤ m) : t.extract 0 m = t := by
  apply ext_list
  rw [ex_list, List.drop_zero, List.take_of_length_le (by rw [← size_list]; omega)]
/-- the text that was taken, and what is known of it -/
theorem to_facts {n : Nat} {t : ByteArray} {r : Rs} (hn : 1 ≤ n) (hc : okc (t.size / n + 1) r.c) :
    (toC n t r).g.size = min (r.c.2 * n) t.size ∧ t.extract 0 (toC n t r).g.size = (toC n t r).g ∧ min (r.c.1 * n) t.size ≤ min (r.c.2 * n) t.size ∧ min (r.c.2 * n) t.size ≤ min (r.c.1 * n) t.size + n ∧
    (t.size / n + 1 ≤ r.c.1 → (toC n t r).g = t ∧ min (r.c.1 * n) t.size = t.size) := by
  obtain ⟨h1, h2, h3⟩ := hc
  have hs : (toC n t r).g.size = min (r.c.2 * n) t.size := by show (t.extract 0 (min (r.c.2 * n) t.size)).size = _; rw [ByteArray.size_extract]; omega
  refine ⟨hs, by rw [hs]; rfl, ?_, ?_, ?_⟩
  · have := Nat.mul_le_mul_right n h1; omega
  · have := Nat.mul_le_mul_right n h2; rw [Nat.succ_mul] at this; omega
  · intro h4
    have h5 := div_over (s := t.size) hn
    have h6 := Nat.mul_le_mul_right n h4
    have h7 := Nat.mul_le_mul_right n h1
    refine ⟨?_, by omega⟩
    show t.extract 0 (min (r.c.2 * n) t.size) = t
    rw [Nat.min_eq_right (by omega)]
    exact ex_all (Nat.le_refl _)
theorem zC_of {z : Int} {t : ByteArray} {F : List Int} {k : Int} {g : ByteArray} {d u : Int} (h : ¬ caC z t F = 0) (hc : caV z t F = ⟨k, g, d, u⟩) : k = 0 ∧ g = ⟨#[]⟩ ∧ d = 0 ∧ u = 0 := by
  rw [ca_err h] at hc
  injection hc with h1 h2 h3 h4
  exact ⟨h1.symm, h2.symm, h3.symm, h4.symm⟩
theorem to_parts {n : Nat} {t : ByteArray} {r : Rs} {k : Int} {g : ByteArray} {d u : Int} (h : toC n t r = ⟨k, g, d, u⟩) : k = r.k ∧ g = (toC n t r).g ∧ d = ((min (r.c.1 * n) t.size : Nat) : Int) ∧ u = (r.u : Int) := by
  have h' := h
  injection h with h1 h2 h3 h4
  exact ⟨h1.symm, by rw [h'], h3.symm, h4.symm⟩
end Go.Proofs.Ytgnffifohdgekab.strike
