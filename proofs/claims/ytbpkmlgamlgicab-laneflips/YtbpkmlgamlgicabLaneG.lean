/- a text's bytes in memory ([]byte(s)), turned one by one. -/
import Derived.Test.YtbpkmlgamlgicabLaneF
import Derived.Laws.IdiomStrings
namespace Go.Proofs.Ytbpkmlgamlgicab.lane
open Go.RowKit Go.PlainAid

/-- n cells at block B hold acc, and may be written -/
structure Byts (w : World) (B n : Nat) (acc : List Int) : Prop where
  len : acc.length = n
  cell : ∀ j, j < n → w.cell? ⟨B, j, none⟩ = some (.int .u8 (acc.getD j 0))
  free : ∀ j, j < n → w.frozen? ⟨B, j, none⟩ = false
theorem Byts.set {w : World} {B n : Nat} {acc : List Int} (h : Byts w B n acc) (k : Nat) (hk : k < n) (v : Int) : Byts (w.setCell ⟨B, k, none⟩ (.int .u8 v)) B n (acc.set k v) := by
  refine ⟨by rw [List.length_set]; exact h.len, fun j hj => ?_, fun j hj => by rw [World.frozen?_setCell]; exact h.free j hj⟩
  have hl := h.len
  by_cases e : k = j
  · subst e
    rw [World.cell?_setCell_same _ _ _ (h.cell k hk)]
    simp [List.getD, show k < acc.length by omega]
  · rw [World.cell?_setCell_other w ⟨B, k, none⟩ ⟨B, j, none⟩ _ (fun q => e (by injection q)), h.cell j hj]
    simp [List.getD, List.getElem?_set_ne e]
theorem Byts.drew {w : World} {B n : Nat} {acc : List Int} (h : Byts w B n acc) : Byts w.drew B n acc := ⟨h.len, h.cell, h.free⟩
theorem Byts.conv {w : World} {B n c : Nat} {acc : List Int} (h : Byts w B n acc) :
    (convert 27 9 (.slice (some ⟨B, 0, none⟩) n c)).run Try.prog w = .ok (.string (strOfNums acc)) w :=
  run_convert_bytes_arg w 27 5 Try.underlying27 Try.underlying5 B 0 n c acc h.len (fun i hi => by rw [Nat.zero_add]; exact h.cell i hi) 9 Try.underlying9
theorem byts_row (s : ByteArray) (cap j : Nat) (h : j < s.size) : (bytesRow s cap)[j]? = some (.int .u8 ((nums s).getD j 0)) := by
  have hl : j < s.data.size := h
  unfold bytesRow
  rw [Array.getElem?_append_left (by simpa using hl)]
  rw [Array.getElem?_map, Array.getElem?_eq_getElem hl, ← bt_nums s j h]
  unfold bt
  rw [dif_pos h]
  rfl
/-- what []byte(s) lays -/
theorem byts_of (w : World) (s : ByteArray) (cap : Nat) :
    Byts (w.drew.alloc (.cells (bytesRow s cap) 5 ((bytesRow s cap).size, (bytesRow s cap).size + 1))) w.heap.size s.size (nums s) := by
  have hz : s.size ≤ (bytesRow s cap).size := by
    unfold bytesRow
    rw [Array.size_append, Array.size_map]
    show s.data.size ≤ _
    omega
  refine ⟨nums_length s, fun j hj => ?_, fun j hj => ?_⟩
  · have := World.cell?_alloc_mark w.drew (bytesRow s cap) 5 ((bytesRow s cap).size, (bytesRow s cap).size + 1) j
    exact this.trans (byts_row s cap j hj)
  · have := World.frozen?_alloc_mark w.drew (bytesRow s cap) 5 (bytesRow s cap).size ((bytesRow s cap).size + 1) j
    refine this.trans ?_
    simp
    omega

/-- the last bit turned: a J is a K, a K a J -/
def flip (x : Int) : Int := if x % 2 = 0 then x + 1 else x - 1
theorem xor_one_all : ∀ n : Fin 256, bits BinOp.xor IntKind.u8 (n.val : Int) 1 = flip (n.val : Int) := by decide +kernel
theorem xor_one (x : Int) (h0 : 0 ≤ x) (h1 : x ≤ 255) : bits BinOp.xor IntKind.u8 x 1 = flip x := by
  have h := xor_one_all ⟨x.toNat, by omega⟩
  have e : ((x.toNat : Nat) : Int) = x := by omega
  simp only [e] at h
  exact h
theorem xor_two_all : ∀ n : Fin 256, bits BinOp.xor IntKind.u8 (bits BinOp.xor IntKind.u8 (n.val : Int) 74) 75 = flip (n.val : Int) := by decide +kernel
theorem xor_two (x : Int) (h0 : 0 ≤ x) (h1 : x ≤ 255) : bits BinOp.xor IntKind.u8 (bits BinOp.xor IntKind.u8 x 74) 75 = flip x := by
  have h := xor_two_all ⟨x.toNat, by omega⟩
  have e : ((x.toNat : Nat) : Int) = x := by omega
  simp only [e] at h
  exact h
theorem flip_bd (x : Int) (h0 : 0 ≤ x) (h1 : x ≤ 255) : 0 ≤ flip x ∧ flip x ≤ 255 := by unfold flip; split <;> omega
theorem flip_flip (x : Int) : flip (flip x) = x := by unfold flip; split <;> split <;> omega
theorem flip_eq (x c : Int) : (flip x == flip c) = (x == c) := by
  rw [Bool.eq_iff_iff]
  simp only [beq_iff_eq]
  exact ⟨fun h => by rw [← flip_flip x, h, flip_flip], fun h => by rw [h]⟩
theorem lev_flip (x : Int) : lev (flip x) = lev x := by
  unfold lev flip
  rw [Bool.eq_iff_iff]
  simp only [Bool.or_eq_true, beq_iff_eq]
  split <;> omega
theorem flip_oth {x : Int} (h : lev x = true) : flip x = oth x := by
  rcases lev_cases h with rfl | rfl <;> rfl
theorem levB_flip (l : List Int) : levB (l.map flip) = levB l := by
  induction l with
  | nil => rfl
  | cons x r ih => rw [List.map_cons, levB_cons, levB_cons, lev_flip, ih]
theorem unturn_flip (c : Int) (l : List Int) : unturnL (flip c) (l.map flip) = unturnL c l := by
  induction l generalizing c with
  | nil => rfl
  | cons x r ih => rw [List.map_cons, unturnL, unturnL, flip_eq, ih]
theorem byt_flip {l : List Int} (h : Byt l) : Byt (l.map flip) := by
  intro x hx
  obtain ⟨y, hy, rfl⟩ := List.mem_map.1 hx
  exact flip_bd y (h y hy).1 (h y hy).2
end Go.Proofs.Ytbpkmlgamlgicab.lane
