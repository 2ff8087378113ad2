/- scsi: strings.Join; a part of a row. -/
import Derived.Test.YtecknicmonhcaabDoorScsF
import Derived.Test.YtecknicmonhcaabDoorShelf
namespace Go.Proofs.YtecknicmonhcaabDoor.scsi
open Go.RowKit Go.PlainAid Go.Proofs.YtecknicmonhcaabDoor.lane Go.Proofs.YtecknicmonhcaabDoor.pipe Go.Proofs.YtecknicmonhcaabDoor.strike
set_option linter.unusedVariables false
set_option linter.unusedSimpArgs false
set_option maxRecDepth 100000

theorem join_none (a : Option Addr) (c : Nat) (w : World) : Calls Tryd.prog 66 #[.slice a 0 c, .string ⟨#[]⟩] w fun e w' => e = .returned (.string ⟨#[]⟩) ∧ Below w.heap.size w w' := by
  go_enter Tryd.func66, Tryd.ntmps66
  go_wp2
  go_ret
  exact ⟨rfl, Below.refl _ _⟩
theorem join_flat (l : List ByteArray) : (⟨(Lib.join (l.map (·.data.toList)) (⟨#[]⟩ : ByteArray).data.toList).toArray⟩ : ByteArray) = cat l := by
  have e : ∀ ys : List (List UInt8), Lib.join ys [] = ys.flatten := by
    intro ys
    cases ys with
    | nil => rfl
    | cons y r => rw [Lib.join_cons]; simp [Lib.joinTail]
  show (⟨(Lib.join (l.map (·.data.toList)) []).toArray⟩ : ByteArray) = _
  rw [e]
  rfl
set_option maxHeartbeats 400000 in
theorem join_any (v : Value) (l : List ByteArray) (w : World) (h : Rts w v l) (hl : sizes l ≤ 140737488355328) (hn : l.length ≤ 140737488355328) :
    Calls Tryd.prog 66 #[v, .string ⟨#[]⟩] w fun e w' => e = .returned (.string (cat l)) ∧ Below w.heap.size w w' := by
  obtain ⟨a, c, rfl, h1, h2, h4⟩ := h
  by_cases hz : 0 < l.length
  · obtain ⟨g, off, rfl, hg, hc⟩ := h4 hz
    have hs : (Lib.join (l.map (·.data.toList)) (⟨#[]⟩ : ByteArray).data.toList).length ≤ 140737488355328 := by
      have := congrArg ByteArray.size (join_flat l)
      rw [cat_size, size_list] at this
      exact Nat.le_trans (Nat.le_of_eq this) hl
    have := Tryd.strings_Join g off c l ⟨#[]⟩ w hc hg hn h1 hs
    rw [join_flat] at this
    exact this
  · have : l = [] := List.eq_nil_of_length_eq_zero (by omega)
    subst this
    exact join_none a c w
/-- the part of a row of one's own from i on, n texts -/
theorem txs_part {B g L cap : Nat} {b : List ByteArray} {w : World} (h : Txs w B (.slice (some ⟨g, 0, none⟩) L cap) b) (i n : Nat) (hin : i + n ≤ b.length) :
    ∃ a1, (0 < n → a1 = some ⟨g, i, none⟩) ∧ (∀ W : World, (Instr.slice 22 (.slice (some ⟨g, 0, none⟩) L cap) (some (.int .i64 (i : Int))) (some (.int .i64 ((i : Int) + (n : Int)))) none).run Tryd.prog W = .ok (.slice a1 n (cap - i)) W) ∧
      ∀ W, Txs W B (.slice (some ⟨g, 0, none⟩) L cap) b → Rts W (.slice a1 n (cap - i)) ((b.drop i).take n) := by
  obtain rfl := txs_len h
  obtain ⟨_, c, hv, h1, h2⟩ := h.form
  injection hv with _ _ e3
  subst e3
  refine ⟨if cap = i then some ⟨g, 0, none⟩ else some ⟨g, i, none⟩, fun hn => by rw [if_neg (by omega)], fun W => ?_, fun W hW => ?_⟩
  · have := run_slice_lh (P := Tryd.prog) (w := W) 22 (some ⟨g, 0, none⟩) b.length cap Tryd.underlying22 .i64 .i64 (i : Int) ((i : Int) + (n : Int)) (by omega) (by omega) (by omega)
    have e : ((i : Int) + (n : Int)).toNat = i + n := by omega
    simp [this, go_sem, sliced, e]
  · have hl : ((b.drop i).take n).length = n := by rw [List.length_take, List.length_drop]; omega
    refine ⟨_, _, by rw [hl], by omega, by omega, fun hn => ?_⟩
    rw [hl] at hn
    refine ⟨g, i, by rw [if_neg (by omega)], (txs_block hW).2, fun j y hy => ?_⟩
    have hj : j < n := by have := (List.getElem?_eq_some_iff.1 hy).1; omega
    rw [List.getElem?_take, if_pos hj, List.getElem?_drop] at hy
    have := txs_cell hW (i + j) (by omega)
    rw [this]
    rw [List.getElem?_eq_getElem (by omega)] at hy
    injection hy with hy
    rw [hy]
end Go.Proofs.YtecknicmonhcaabDoor.scsi
