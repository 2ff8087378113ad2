/- a slice of texts as an argument: what it holds is no more than its bulk. -/
import Derived.Test.YtgnffifohdgekaaPipO
import Derived.Test.YtgnffifohdgekaaStrM
namespace Go.Proofs.Ytgnffifohdgekaa.strike
open Go.ChangeShapes Go.WideShapes Go.ChangeAt Go.RowKit Go.Deep Go.Proofs.Ytgnffifohdgekaa.pipe
set_option linter.unusedVariables false
set_option maxRecDepth 10000

section
variable {H : Type} {enc : TypeId × Value → H} {w : World} {base : Nat} {spare : Nat → Bool} {held : Bool}
theorem bulk_texts (l : List ByteArray) : Rows.uptoBulkAll (H := H) (l.map fun s => .lit (.string s.data.toList)) = l.length + sizes l := by
  induction l with
  | nil => rfl
  | cons x r ih =>
    rw [List.map_cons, Rows.uptoBulkAll, ih, sizes_cons, List.length_cons, size_list]
    show x.data.toList.length + 1 + _ = _
    omega
theorem open_txsB {fuel : Nat} {v : Value} {x : DataW H × List MemPlace} (h : DataW.trod enc Try.prog w base spare held fuel 22 [v] = some x) : ∃ l, Rts w v l ∧ l.length + sizes l ≤ Rows.uptoBulk x.1 := by
  rcases open_strs Try.underlying22 Try.underlying9 txt_cells h with ⟨hcs, _⟩ | ⟨a, len, cap, m, Sx, hcs, _, hl, hm, hmm, hx, hcell⟩
  · simp at hcs; subst hcs
    exact ⟨[], Rts.nil w, Nat.zero_le _⟩
  · simp at hcs; subst hcs
    have hlm : len ≤ m := by rw [hmm]; split <;> omega
    refine ⟨(List.range len).map Sx, ⟨some a, cap, by simp, by simpa using hl, hm, fun hn => ?_⟩, ?_⟩
    · have hn : 0 < len := by simpa using hn
      obtain ⟨g, off, rfl, hg⟩ := spot_of (hcell 0 (by omega)).1
      refine ⟨g, off, rfl, hg, fun j y hy => ?_⟩
      obtain ⟨hj, rfl⟩ := range_at hy
      have := (hcell j (by omega)).1
      rwa [Addr.add_lit] at this
    · rw [hx]
      show _ ≤ Rows.uptoBulk (DataW.slice _ _)
      have e := bulk_texts (H := H) ((List.range len).map Sx)
      rw [List.map_map] at e
      rw [Rows.uptoBulk, ← e]
      exact Nat.le_trans (Nat.le_add_right _ _) (Nat.le_succ _)
theorem txs_openB {r : Reach} {b0 : Nat} {v : Value} {x : DataW H} {p : List MemPlace} (hv : Value.okWide Try.prog w r b0 22 v) (h : DataW.Trod enc Try.prog w base spare held 22 v x p) : ∃ l, Rts w v l ∧ l.length + sizes l ≤ Rows.uptoBulk x := by
  obtain ⟨a0, len, cap, rfl⟩ := okWide_slice Try.underlying22 hv
  obtain ⟨fuel, hf⟩ := h
  exact open_txsB hf
end
end Go.Proofs.Ytgnffifohdgekaa.strike
