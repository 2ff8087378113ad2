/- plugref's lane: what Turn and Unturn answer. -/
import Derived.Test.YtbkdalgmhmaofaaLaneR
namespace Go.Proofs.Ytbkdalgmhmaofaa.lane
open Go.RowKit Go.PlainAid

theorem set_mid (acc : List Int) (r : Nat) (k : Nat) (v : Int) (h : acc.length = k) : (acc ++ List.replicate (r + 1) (0 : Int)).set k v = (acc ++ [v]) ++ List.replicate r 0 := by
  subst h
  rw [List.replicate_succ]
  simp
theorem Row.cell {w : World} {B m n : Nat} {acc : List Int} (h : Row w B m n acc) (k : Nat) (hk : k < m) : w.cell? ⟨B, k, none⟩ = some (.int .u8 (acc.getD k 0)) := by
  have hl := h.len
  rw [World.ownsRow.cellAt h k (by omega)]
  simp [List.getD, List.getElem?_eq_getElem (show k < acc.length by omega)]
theorem Row.free {w : World} {B m n : Nat} {acc : List Int} (h : Row w B m n acc) (k : Nat) : w.frozen? ⟨B, k, none⟩ = false := World.ownsRow.frozenAt h k
theorem Row.set {w : World} {B m n : Nat} {acc : List Int} (h : Row w B m n acc) (k : Nat) (v : Int) : Row (w.setCell ⟨B, k, none⟩ (.int .u8 v)) B m n (acc.set k v) := by
  have := (World.ownsRow.stored h k (.int .u8 v)).1
  unfold Row
  rw [List.map_set]
  exact this
theorem Row.made {w : World} {B n : Nat} (h : w.ownsRow B 5 1 (.slice (some ⟨B, 0, none⟩) n n) n (madeCells (Value.int .u8 0).cells (n * 1)).toList) : Row w B n n (List.replicate n 0) := by
  have e : (madeCells (Value.int .u8 0).cells (n * 1)).toList = (List.replicate n (0 : Int)).map (Value.int .u8) := by
    rw [Nat.mul_one]
    have := toList_madeCells_one (Value.int .u8 0) n
    rw [List.map_replicate]
    exact this
  rw [e] at h
  exact h
/-- a row that is filled from the front: k are there -/
structure Fill (w0 w : World) (B n k : Nat) (acc : List Int) : Prop where
  row : Row w B n n (acc ++ List.replicate (n - k) 0)
  len : acc.length = k
  bel : Below B w0 w
theorem Fill.set {w0 w : World} {B n k : Nat} {acc : List Int} (h : Fill w0 w B n k acc) (hk : k < n) (v : Int) : Fill w0 (w.setCell ⟨B, k, none⟩ (.int .u8 v)) B n (k + 1) (acc ++ [v]) := by
  refine ⟨?_, by simp [h.len], h.bel.setCell (Nat.le_refl _) _⟩
  have := h.row.set k v
  rw [show n - k = (n - (k + 1)) + 1 by omega, set_mid acc _ k v h.len] at this
  exact this
theorem Fill.set2 {w0 w : World} {B n k : Nat} {acc : List Int} (h : Fill w0 w B n k acc) (hk : k < n) (v u : Int) : Fill w0 ((w.setCell ⟨B, k, none⟩ (.int .u8 v)).setCell ⟨B, k, none⟩ (.int .u8 u)) B n (k + 1) (acc ++ [u]) := by
  refine ⟨?_, by simp [h.len], (h.bel.setCell (Nat.le_refl _) _).setCell (Nat.le_refl _) _⟩
  have := (h.row.set k v).set k u
  rw [List.set_set, show n - k = (n - (k + 1)) + 1 by omega, set_mid acc _ k u h.len] at this
  exact this
theorem Fill.done {w0 w : World} {B n : Nat} {acc : List Int} (h : Fill w0 w B n n acc) : Row w B n n acc := by
  have := h.row
  rw [Nat.sub_self] at this
  simpa using this

def lvl (c : Int) (z : Nat) : Int := if z % 2 = 1 then oth c else c
theorem oth_oth {c : Int} (h : lev c = true) : oth (oth c) = c := by
  rcases lev_cases h with rfl | rfl <;> simp [oth]
theorem lvl_succ {c : Int} (h : lev c = true) (z : Nat) : oth (lvl c z) = lvl c (z + 1) := by
  unfold lvl
  by_cases e : z % 2 = 1
  · rw [if_pos e, if_neg (by omega), oth_oth h]
  · rw [if_neg e, if_pos (by omega)]

theorem lev_tests {c : Int} (h : lev c = true) : ((c != 74) = true ∧ (c != 75) = false) ∨ (c != 74) = false := by
  rcases lev_cases h with rfl | rfl
  · exact .inr rfl
  · exact .inl ⟨rfl, rfl⟩

end Go.Proofs.Ytbkdalgmhmaofaa.lane
