/- lane: what Turn and Unturn answer. -/
import Derived.Test.YtbpkmlgamlgicaaDoorLaneA
import Derived.WalkKit
import Derived.Handy
import Derived.WalkSpells
namespace Go.Proofs.YtbpkmlgamlgicaaDoor.lane
open Go.RowKit Go.PlainAid

theorem info5 : (Tryd.prog.info? 5).map (fun i => (i.zero, i.size, i.bytes)) = some (some (.int .u8 0), 1, 1) := by kernel_rfl

/-- a row of bytes of the call's own: block B, m of n places taken, they hold acc -/
def Row (w : World) (B m n : Nat) (acc : List Int) : Prop :=
  w.ownsRow B 5 1 (.slice (some ⟨B, 0, none⟩) m n) m (acc.map (Value.int .u8))
theorem Row.len {w : World} {B m n : Nat} {acc : List Int} (h : Row w B m n acc) : acc.length = m := by
  have := h.1; simpa using this
theorem Row.conv {w : World} {B m n : Nat} {acc : List Int} (h : Row w B m n acc) :
    (convert 26 9 (.slice (some ⟨B, 0, none⟩) m n)).run Tryd.prog w = .ok (.string (strOfNums acc)) w := by
  refine run_convert_bytes_arg w 26 5 Tryd.underlying26 Tryd.underlying5 B 0 m n acc h.len ?_ 9 Tryd.underlying9
  intro i hi
  have hl := h.len
  have e := World.ownsRow.cellAt h i (by omega)
  rw [Nat.zero_add, e]
  simp [List.getD, List.getElem?_eq_getElem (show i < acc.length by omega)]
theorem Row.push {w w2 : World} {B m n : Nat} {acc : List Int} {x : Int} {o : Obj}
    (h : w2.ownsRow B 5 1 (.slice (some ⟨B, 0, none⟩) (m + 1) n) (m + 1) (acc.map (Value.int .u8) ++ [.int .u8 x]))
    (w0 : World) (hb : Below B w0 w) (hB : B ≤ w.heap.size) (hg : (w.alloc o).grownBy w2 (some B)) : Row w2 B (m + 1) n (acc ++ [x]) ∧ Below B w0 w2 := by
  refine ⟨by unfold Row; simpa using h, ?_⟩
  exact (hb.alloc hB o).grown hg (by simp; omega) (fun k hk => by simp at hk; omega)

end Go.Proofs.YtbpkmlgamlgicaaDoor.lane
