/- phy: what is heard of texts on a wire: plain mathematics. -/
import Derived.Test.YtbkdalgmhmaofabPhyL
namespace Go.Proofs.Ytbkdalgmhmaofab.lane
open Go.RowKit Go.PlainAid
set_option linter.unusedVariables false

theorem nums_arr (l : List UInt8) : nums ⟨l.toArray⟩ = l.map fun b => (b.toNat : Int) := rfl
theorem nums_arr_append (a b : List UInt8) : nums ⟨(a ++ b).toArray⟩ = nums ⟨a.toArray⟩ ++ nums ⟨b.toArray⟩ := by simp [nums_arr]
theorem nums_data (s : ByteArray) : nums ⟨s.data.toList.toArray⟩ = nums s := rfl
theorem hear_rests (J q : List Int) (h : ∀ y ∈ J, y = 74) : hearL [] (J ++ q) = hearL [] q := by
  induction J with
  | nil => rfl
  | cons x J ih =>
    have hx : x = 74 := h x (by simp)
    rw [hx, List.cons_append, hear_skip, ih (fun y hy => h y (by simp [hy]))]
theorem sig_rests (J : List Int) (h : ∀ y ∈ J, y = 74) : sigB J = true := by
  unfold sigB
  rw [List.all_eq_true]
  intro x hx
  rw [h x hx]; rfl
theorem sig_sent (l : List Int) : sigB (sentL l) = true := by
  unfold sentL
  rw [sigB_append]
  have h := levB_wave l
  have : sigB (waveL l) = true := by
    unfold levB at h
    unfold sigB
    rw [List.all_eq_true] at *
    intro x hx
    have := h x hx
    unfold lev at this
    unfold sig
    rw [this]; rfl
  rw [this]; rfl
theorem nums_sent (x : ByteArray) (h : goodS x = true) : nums (sentS x) = sentL (nums x) := by
  unfold sentS
  rw [if_pos (good_size x h).1, nums_str _ (byt_sent _)]
theorem wire_cons (r x : ByteArray) (l : List ByteArray) (h : goodS x = true) : nums ⟨(wireB r (x :: l)).toArray⟩ = nums r ++ (sentL (nums x) ++ nums ⟨(wireB r l).toArray⟩) := by
  rw [(wire_put r x l h).1, nums_arr_append, nums_data, nums_append, nums_sent x h, List.append_assoc]
theorem wire_heard (r : ByteArray) (hr : ∀ y ∈ nums r, y = 74) (l : List ByteArray) : hearL [] (nums ⟨(wireB r l).toArray⟩) = (wantL l, []) ∧ sigB (nums ⟨(wireB r l).toArray⟩) = true := by
  induction l with
  | nil => exact ⟨rfl, rfl⟩
  | cons x l ih =>
    cases hg : goodS x
    · rw [(wire_skip r x l hg).1, (wire_skip r x l hg).2]; exact ih
    · rw [wire_cons r x l hg, (wire_put r x l hg).2]
      refine ⟨?_, ?_⟩
      · rw [hear_rests _ _ hr, hear_sent _ _ (nums_byt x) (by rw [nums_length]; exact (good_size x hg).1), ih.1]
      · rw [sigB_append, sigB_append, sig_rests _ hr, sig_sent, ih.2]; rfl
theorem wire_length (r : ByteArray) (c : Nat) (hc : r.size + 759 ≤ c) (l : List ByteArray) : (wireB r l).length ≤ l.length * c := by
  induction l with
  | nil => simp [wireB]
  | cons x l ih =>
    rw [List.length_cons, Nat.succ_mul]
    cases hg : goodS x
    · rw [(wire_skip r x l hg).1]; omega
    · rw [(wire_put r x l hg).1, List.length_append, Array.length_toList]
      have h1 := (good_size x hg).2
      have h2 : (r ++ sentS x).data.size = r.size + (sentS x).size := ByteArray.size_append
      omega
theorem want_length (l : List ByteArray) : (wantL l).length ≤ l.length := by
  unfold wantL
  rw [List.length_map]
  exact List.length_filter_le _ _
end Go.Proofs.Ytbkdalgmhmaofab.lane
