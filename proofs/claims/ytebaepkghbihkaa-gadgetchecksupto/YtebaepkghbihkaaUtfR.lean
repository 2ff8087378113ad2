/- plugref's utf: what narrowRune and TwoBytes answer. -/
import Derived.Test.YtebaepkghbihkaaUtfE
import Derived.OwnWalk
namespace Go.Proofs.Ytebaepkghbihkaa.utf
open Go.RowKit Go.PlainAid Go.Lib Go.Proofs.Ytebaepkghbihkaa.lane

/-- a row of n bytes of the call's own, in block B -/
def Rw (w : World) (B n : Nat) (l : List Int) : Prop := w.ownsRow B 5 1 (.slice (some ⟨B, 0, none⟩) n n) n (l.map (Value.int .u8))
theorem Rw.len {w : World} {B n : Nat} {l : List Int} (h : Rw w B n l) : l.length = n := by have := h.1; simpa using this
theorem Rw.free {w : World} {B n : Nat} {l : List Int} (h : Rw w B n l) (k : Nat) : w.frozen? ⟨B, k, none⟩ = false := World.ownsRow.frozenAt h k
theorem Rw.cell {w : World} {B n : Nat} {l : List Int} (h : Rw w B n l) (k : Nat) (hk : k < n) : w.cell? ⟨B, k, none⟩ = some (.int .u8 (l.getD k 0)) := by
  have hl := h.len
  rw [World.ownsRow.cellAt h k (by omega)]
  simp [List.getD, List.getElem?_eq_getElem (show k < l.length by omega)]
theorem Rw.set {w : World} {B n : Nat} {l : List Int} (h : Rw w B n l) (k : Nat) (v : Int) : Rw (w.setCell ⟨B, k, none⟩ (.int .u8 v)) B n (l.set k v) := by
  have := (World.ownsRow.stored h k (.int .u8 v)).1
  unfold Rw
  rw [List.map_set]
  exact this
theorem Rw.made {w : World} {B n : Nat} (h : w.ownsRow B 5 1 (.slice (some ⟨B, 0, none⟩) n n) n (madeCells (Value.int .u8 0).cells (n * 1)).toList) : Rw w B n (List.replicate n 0) := by
  have e : (madeCells (Value.int .u8 0).cells (n * 1)).toList = (List.replicate n (0 : Int)).map (Value.int .u8) := by
    rw [Nat.mul_one]
    have := toList_madeCells_one (Value.int .u8 0) n
    rw [List.map_replicate]
    exact this
  rw [e] at h
  exact h
theorem Rw.conv {w : World} {B n : Nat} {l : List Int} (h : Rw w B n l) :
    (convert 56 9 (.slice (some ⟨B, 0, none⟩) n n)).run Try.prog w = .ok (.string (strOfNums l)) w := by
  refine run_convert_bytes_arg w 56 5 Try.underlying56 Try.underlying5 B 0 n n l h.len ?_ 9 Try.underlying9
  intro i hi
  have hl := h.len
  rw [Nat.zero_add]
  exact h.cell i (by omega)

theorem two_conv (x y : Int) (w : World) : (convert 56 9 (.slice (some ⟨w.heap.size, 0, none⟩) 2 2)).run Try.prog (w.alloc (.cells #[.int .u8 x, .int .u8 y] 5)) = .ok (.string (strOfNums [x, y])) (w.alloc (.cells #[.int .u8 x, .int .u8 y] 5)) := by
  refine run_convert_bytes_arg _ 56 5 Try.underlying56 Try.underlying5 w.heap.size 0 2 2 [x, y] rfl ?_ 9 Try.underlying9
  intro i hi
  match i, hi with
  | 0, _ => simp
  | 1, _ => simp
theorem twoBytes_any (n : Int) (h0 : 0 ≤ n) (h1 : n ≤ 65535) (w : World) :
    Calls Try.prog 56 #[.int .i64 n] w fun e w' => e = .returned (.string (strOfNums [n % 256, n / 256])) ∧ Below w.heap.size w w' := by
  have hc := two_conv (n % 256) (n / 256) w
  have he : n / 256 % 256 = n / 256 := by omega
  go_enter Try.func56, Try.ntmps56
  go_wp2
  go_ret
  exact ⟨rfl, (Below.refl _ _).alloc (Nat.le_refl _) _⟩
end Go.Proofs.Ytebaepkghbihkaa.utf
