/- a text's bytes in memory ([]byte(s)). -/
import Derived.Test.YtbkdalgmhmaofabRows
import Derived.Test.YtbkdalgmhmaofabLaneM
import Derived.WalkKit
import Derived.Handy
import Derived.Below
import Derived.WalkSmall
import Derived.Laws.IdiomStrings
namespace Go.Proofs.Ytbkdalgmhmaofab.lane
open Go.RowKit Go.PlainAid

/-- n cells at block B hold acc, and may be written -/
structure Byts (w : World) (B n : Nat) (acc : List Int) : Prop where
  len : acc.length = n
  cell : ∀ j, j < n → w.cell? ⟨B, j, none⟩ = some (.int .u8 (acc.getD j 0))
  free : ∀ j, j < n → w.frozen? ⟨B, j, none⟩ = false
theorem Byts.set {w : World} {B n : Nat} {acc : List Int} (h : Byts w B n acc) (k : Nat) (hk : k < n) (v : Int) : Byts (w.setCell ⟨B, k, none⟩ (.int .u8 v)) B n (acc.set k v) := by
  refine ⟨by rw [List.length_set]; exact h.len, fun j hj => ?_, fun j hj => by rw [World.frozen?_setCell]; exact h.free j hj⟩
  have hl := h.len
  by_cases e : k = j
  · subst e
    rw [World.cell?_setCell_same _ _ _ (h.cell k hk)]
    simp [List.getD, show k < acc.length by omega]
  · rw [World.cell?_setCell_other w ⟨B, k, none⟩ ⟨B, j, none⟩ _ (fun q => e (by injection q)), h.cell j hj]
    simp [List.getD, List.getElem?_set_ne e]
theorem Byts.drew {w : World} {B n : Nat} {acc : List Int} (h : Byts w B n acc) : Byts w.drew B n acc := ⟨h.len, h.cell, h.free⟩
theorem Byts.conv {w : World} {B n c : Nat} {acc : List Int} (h : Byts w B n acc) :
    (convert 41 9 (.slice (some ⟨B, 0, none⟩) n c)).run Try.prog w = .ok (.string (strOfNums acc)) w :=
  run_convert_bytes_arg w 41 5 Try.underlying41 Try.underlying5 B 0 n c acc h.len (fun i hi => by rw [Nat.zero_add]; exact h.cell i hi) 9 Try.underlying9
theorem byts_row (s : ByteArray) (cap j : Nat) (h : j < s.size) : (bytesRow s cap)[j]? = some (.int .u8 ((nums s).getD j 0)) := by
  have hl : j < s.data.size := h
  unfold bytesRow
  rw [Array.getElem?_append_left (by simpa using hl)]
  rw [Array.getElem?_map, Array.getElem?_eq_getElem hl, ← bt_nums s j h]
  unfold bt
  rw [dif_pos h]
  rfl
/-- what []byte(s) lays -/
theorem byts_of (w : World) (s : ByteArray) (cap : Nat) :
    Byts (w.drew.alloc (.cells (bytesRow s cap) 5 ((bytesRow s cap).size, (bytesRow s cap).size + 1))) w.heap.size s.size (nums s) := by
  have hz : s.size ≤ (bytesRow s cap).size := by
    unfold bytesRow
    rw [Array.size_append, Array.size_map]
    show s.data.size ≤ _
    omega
  refine ⟨nums_length s, fun j hj => ?_, fun j hj => ?_⟩
  · have := World.cell?_alloc_mark w.drew (bytesRow s cap) 5 ((bytesRow s cap).size, (bytesRow s cap).size + 1) j
    exact this.trans (byts_row s cap j hj)
  · have := World.frozen?_alloc_mark w.drew (bytesRow s cap) 5 (bytesRow s cap).size ((bytesRow s cap).size + 1) j
    refine this.trans ?_
    simp
    omega

end Go.Proofs.Ytbkdalgmhmaofab.lane
