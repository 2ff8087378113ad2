/- gadget: what is described. -/
import Derived.Test.YtebaepkghbihkaaZAp
import Derived.Test.YtebaepkghbihkaaZBh
namespace Go.Proofs.Ytebaepkghbihkaa.gadget
open Go.RowKit Go.PlainAid Go.Proofs.Ytebaepkghbihkaa.lane Go.Proofs.Ytebaepkghbihkaa.desc
open Go.Proofs.Ytebaepkghbihkaa.setup (inS inS_iff askc good isK fitB te col row rK rN rC wrT wrC)
set_option linter.unusedVariables false
set_option linter.unusedSimpArgs false

theorem good_desc {v i l : Int} (h0 : 0 ≤ v) (h1 : v ≤ 65535) (h2 : 0 ≤ i) (h3 : i ≤ 65535) (h4 : 0 ≤ l) (h5 : l ≤ 65535) : good 5 v i l = true := by
  unfold good fitB
  simp [isK, te, inS, col, row]
  omega
/-- does a text begin so? -/
def nums_pre (a b : ByteArray) : Bool := decide ((nums b).take a.size = nums a)
theorem prefix_any (a b : ByteArray) (w : World) (hb : b.size ≤ maxLen) (ha : a.size ≤ maxLen) : Calls Try.prog 17 #[.string b, .string a] w fun e w' => e = .returned (.bool (nums_pre a b)) ∧ w = w' := by
  have h := setup.hasPrefix_any b a w hb ha
  exact h
theorem nums_ext (t : ByteArray) (k : Nat) (h : k ≤ t.size) : nums (t.extract 0 k) = (nums t).take k := by
  unfold nums
  simp [ByteArray.data_extract, List.map_take]
theorem cut_size (t : ByteArray) (l : Int) : (cutT t l).size = min t.size l.toNat := by
  unfold cutT
  rw [ByteArray.size_extract]; omega
theorem cut_pre (t : ByteArray) {l m : Int} (h0 : 0 ≤ l) (h : l ≤ m) : nums_pre (cutT t l) (cutT t m) = true := by
  unfold nums_pre
  rw [decide_eq_true_eq, cut_size]
  unfold cutT
  rw [nums_ext _ _ (by omega), nums_ext _ _ (by omega), List.take_take]
  congr 1
  omega
theorem cut_same (t : ByteArray) {l m : Int} (h0 : 0 ≤ l) (h : l ≤ m) : ((cutT t l).size : Int) ≤ l ∧ (((cutT t l).size : Int) = l ∨ cutT t l = cutT t m) := by
  rw [cut_size]
  refine ⟨by omega, ?_⟩
  by_cases q : l ≤ (t.size : Int)
  · left; omega
  · right
    unfold cutT
    rw [show min t.size l.toNat = min t.size m.toNat by omega]
/-- two asks for one descriptor -/
theorem short_facts {d : Dv} {c : Cf} {T : List (List Int)} {s a h v i j l m : Int} {A B : Ans} (hA : ctl d c T s a h (wrT 5 v i l) = A) (hB : ctl d c T s a h (wrT 5 v j m) = B) (g1 : good 5 v i l = true) (g2 : good 5 v j m = true) (h0 : 0 ≤ l) (hl : l ≤ m) :
    A.e = B.e ∧ (nums_pre A.t B.t = true) ∧ (A.t.size : Int) ≤ l ∧ ((A.t.size : Int) = l ∨ A.t = B.t) := by
  rw [ctl_asked g1] at hA
  rw [ctl_asked g2] at hB
  by_cases q1 : chkS d c T ≠ 0
  · rw [if_pos q1] at hA hB
    subst hA hB
    exact ⟨rfl, rfl, h0, .inr rfl⟩
  rw [if_neg q1] at hA hB
  by_cases q2 : gR s a h = false
  · rw [if_pos q2] at hA hB
    subst hA hB
    exact ⟨rfl, rfl, h0, .inr rfl⟩
  rw [if_neg q2, act_5] at hA hB
  cases hd : desO d c T v with
  | none =>
    rw [hd] at hA hB
    subst hA hB
    exact ⟨rfl, rfl, h0, .inr rfl⟩
  | some t =>
    rw [hd] at hA hB
    subst hA hB
    exact ⟨rfl, cut_pre t h0 hl, (cut_same t h0 hl).1, (cut_same t h0 hl).2⟩
theorem short_size {d : Dv} {c : Cf} {T : List (List Int)} {s a h v i l : Int} {A : Ans} (hA : ctl d c T s a h (wrT 5 v i l) = A) (g1 : good 5 v i l = true) : A.t.size ≤ maxLen := by
  rw [ctl_asked g1] at hA
  have hl := (setup.good_words g1).2.2.2
  by_cases q1 : chkS d c T ≠ 0
  · rw [if_pos q1] at hA; subst hA; exact Nat.zero_le _
  rw [if_neg q1] at hA
  by_cases q2 : gR s a h = false
  · rw [if_pos q2] at hA; subst hA; exact Nat.zero_le _
  rw [if_neg q2, act_5] at hA
  cases hd : desO d c T v with
  | none => rw [hd] at hA; subst hA; exact Nat.zero_le _
  | some t =>
    rw [hd] at hA; subst hA
    show (cutT t l).size ≤ maxLen
    rw [cut_size]; unfold maxLen; omega
end Go.Proofs.Ytebaepkghbihkaa.gadget
