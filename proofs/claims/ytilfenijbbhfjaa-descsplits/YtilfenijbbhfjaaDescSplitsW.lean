/- DescSplits: the walk. -/
import Derived.Test.YtilfenijbbhfjaaDescC
namespace Go.Proofs.Ytilfenijbbhfjaa.descSplits
open Go.RowKit Go.PlainAid Go.Proofs.Ytilfenijbbhfjaa.lane Go.Proofs.Ytilfenijbbhfjaa.desc
set_option linter.unusedVariables false

theorem splP_BB (s : ByteArray) : BB (splP (nums s)) := by
  unfold splP
  split
  · intro p hp; simp at hp
  · by_cases h : (splitL (nums s)).1 = 0
    · intro p hp x hx
      refine nums_byt s x ?_
      rw [← (split_pieces h).1]
      exact List.mem_flatten.2 ⟨p, hp, hx⟩
    · rw [split_err h]; intro p hp; simp at hp
set_option maxHeartbeats 2000000 in
theorem walk (a0 : ByteArray) (w0 : a0.size ≤ maxLen) (w : World) :
    Calls Try.prog 3 #[.string a0] w fun e w' => e = .returned (.bool true) ∧ Below w.heap.size w w' := by
  have HS : Hid (∀ w : World, Calls Try.prog 9 #[.string a0] w fun e w' => ∃ v, e = .returned (.tuple #[v, .int .i64 (splC (nums a0))]) ∧ Txs w' w.heap.size v (splP (nums a0)) ∧ Below w.heap.size w w') := fun w => split_any a0 w w0
  have HR : Hid (∀ w : World, Calls Try.prog 10 #[.string a0] w fun e w' => ∃ v, e = .returned (.tuple #[v, .int .i64 (splC (nums a0))]) ∧ Txs w' w.heap.size v (splP (nums a0)) ∧ Below w.heap.size w w') := fun w => rsplit_any a0 w w0
  have HBB : Hid (BB (splP (nums a0))) := splP_BB a0
  generalize splC (nums a0) = z at *
  generalize splP (nums a0) = ps at *
  go_enter Try.func3, Try.ntmps3
  go_wp2_with fail
  refine (HS.out _).mono ?_
  rintro e wa ⟨v1, rfl, h1, h2⟩
  have HX : Hid (Txs wa w.heap.size v1 ps) := h1
  have HB : Hid (Below w.heap.size w wa) := h2
  clear h1 h2
  go_wp2_with fail
  refine (HR.out _).mono ?_
  rintro e wb ⟨v2, rfl, h1, h2⟩
  have HX1 : Hid (Rts wb v1 ps) := HX.out.rts.below h2
  have HX2 : Hid (Rts wb v2 ps) := h1.rts
  have HB2 : Hid (Below w.heap.size w wb) := bsq HB.out h2
  clear h1 h2 HX HB
  go_wp2_with fail
  refine (equalT_any _ _ ps ps _ HX1.out HX2.out HBB.out HBB.out).mono ?_
  rw [decide_eq_true rfl]
  rintro e wc ⟨rfl, h3⟩
  go_wp2
  go_ret
  exact ⟨rfl, bsq HB2.out h3⟩
end Go.Proofs.Ytilfenijbbhfjaa.descSplits
