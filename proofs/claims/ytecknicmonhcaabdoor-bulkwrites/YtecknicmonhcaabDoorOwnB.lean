/- a row of bytes that the call made by append: whatever value names it. -/
import Derived.Test.YtecknicmonhcaabDoorRows
import Derived.Test.YtecknicmonhcaabDoorLaneM
import Derived.WalkKit
import Derived.Handy
import Derived.Below
import Derived.OwnWalk
import Derived.Laws.BytesArg
import Derived.Laws.AppendOwn
import Derived.Deep.AppendLies
import Derived.WalkSmall
namespace Go.Proofs.YtecknicmonhcaabDoor.lane
open Go.RowKit Go.PlainAid

/-- the value v owns the bytes acc, in a block from B on -/
def Bys (w : World) (B : Nat) (v : Value) (acc : List Int) : Prop := w.ownsRow B 5 1 v acc.length (acc.map (Value.int .u8))
theorem Bys.nil (w : World) (B : Nat) : Bys w B (.slice none 0 0) [] := ⟨rfl, .inl ⟨rfl, rfl⟩⟩
theorem Bys.conv {w : World} {B : Nat} {v : Value} {acc : List Int} (h : Bys w B v acc) :
    (convert 26 9 v).run Tryd.prog w = .ok (.string (strOfNums acc)) w := by
  rcases h.2 with ⟨rfl, h0⟩ | ⟨g, cap, cur, rfl, hb, hg, hn, hc, hs, ht⟩
  · rw [List.eq_nil_of_length_eq_zero h0]
    exact run_convert_bytes_nil w 26 5 Tryd.underlying26 Tryd.underlying5 0 0 9 Tryd.underlying9
  · refine run_convert_bytes_arg w 26 5 Tryd.underlying26 Tryd.underlying5 g 0 acc.length cap acc rfl ?_ 9 Tryd.underlying9
    intro i hi
    rw [Nat.zero_add, World.ownsRow.cellAt h i (by omega)]
    simp [List.getD, List.getElem?_eq_getElem hi]
theorem Bys.block {w : World} {B : Nat} {v : Value} {acc : List Int} (h : Bys w B v acc) : ∀ k, v.ownBlock = some k → B ≤ k := by
  intro k hk
  rcases h.2 with ⟨rfl, h0⟩ | ⟨g, cap, cur, rfl, hb, _⟩
  · cases hk
  · simp [Value.ownBlock] at hk; omega
theorem Bys.push {w1 : World} {B g cap : Nat} {acc : List Int} {x : Int}
    (h : w1.ownsRow B 5 1 (.slice (some ⟨g, 0, none⟩) (acc.length + 1) cap) (acc.length + 1) (acc.map (Value.int .u8) ++ [.int .u8 x])) :
    Bys w1 B (.slice (some ⟨g, 0, none⟩) (acc.length + 1) cap) (acc ++ [x]) := by
  unfold Bys
  simpa using h
theorem infoB : (Tryd.prog.info? 5).map (fun i => (i.zero, i.size, i.bytes)) = some (some (.int .u8 0), 1, 1) := by kernel_rfl
end Go.Proofs.YtecknicmonhcaabDoor.lane
