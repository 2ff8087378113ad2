/- desc: texts joined. -/
import Derived.Test.YtonheibhbilhhaaGreatZAc
import Derived.Test.YtonheibhbilhhaaGreatShelf
namespace Go.Proofs.YtonheibhbilhhaaGreat.desc
open Go.RowKit Go.PlainAid Go.Proofs.YtonheibhbilhhaaGreat.lane
set_option linter.unusedVariables false
theorem join_none (a : Option Addr) (c : Nat) (w : World) : Calls Tryz.prog 71 #[.slice a 0 c, .string ⟨#[]⟩] w fun e w' => e = .returned (.string ⟨#[]⟩) ∧ Below w.heap.size w w' := by
 go_enter Tryz.func71, Tryz.ntmps71
 go_wp2
 go_ret
 exact ⟨rfl, Below.refl _ _⟩
theorem join_flat (xs : List (List Int)) : Lib.join ((xs.map strOfNums).map (·.data.toList)) (⟨#[]⟩ : ByteArray).data.toList = (strOfNums xs.flatten).data.toList := by
 have e : ∀ ys : List (List UInt8), Lib.join ys [] = ys.flatten := by
  intro ys
  cases ys with
  | nil => rfl
  | cons y r => rw [Lib.join_cons]; simp [Lib.joinTail]
 show Lib.join ((xs.map strOfNums).map (·.data.toList)) [] = _
 rw [e]
 induction xs with
 | nil => rfl
 | cons x r ih =>
  rw [List.map_cons, List.map_cons, List.flatten_cons, ih, List.flatten_cons, str_append, ByteArray.data_append, Array.toList_append]
set_option maxHeartbeats 400000 in
theorem join_any (v : Value) (ps : List (List Int)) (w : World) (h : Rts w v ps) (hl : ps.flatten.length ≤ 140737488355328) (hn : ps.length ≤ 140737488355328) :
  Calls Tryz.prog 71 #[v, .string ⟨#[]⟩] w fun e w' => e = .returned (.string (strOfNums ps.flatten)) ∧ Below w.heap.size w w' := by
 obtain ⟨a, c, rfl, h1, h2, h3, h4⟩ := h
 have key : ∀ g off, g < w.heap.size → (∀ j x, (tcells ps)[j]? = some x → w.cell? ⟨g, off + j, none⟩ = some x) →
   Calls Tryz.prog 71 #[.slice (some ⟨g, off, none⟩) ps.length c, .string ⟨#[]⟩] w fun e w' => e = .returned (.string (strOfNums ps.flatten)) ∧ Below w.heap.size w w' := by
  intro g off hg hc
  have := Tryz.strings_Join g off c (ps.map strOfNums) ⟨#[]⟩ w (fun j x hx => by
   refine hc j (.string x) ?_
   rw [List.getElem?_map] at hx
   simp only [tcells, List.getElem?_map]
   cases hp : ps[j]? with
   | none => rw [hp] at hx; cases hx
   | some p => rw [hp] at hx; simp at hx; simp [hx]) hg (by rw [List.length_map]; exact hn) (by rw [List.length_map]; exact h1) (by rw [join_flat, Array.length_toList]; have := str_size ps.flatten; show (strOfNums ps.flatten).size ≤ _; omega)
  rw [List.length_map, join_flat] at this
  exact this
 by_cases hz : 0 < ps.length
 ·obtain ⟨g, off, rfl, hg, hc⟩ := h4 hz
  exact key g off hg hc
 ·have : ps = [] := List.eq_nil_of_length_eq_zero (by omega)
  subst this
  exact join_none a c w
end Go.Proofs.YtonheibhbilhhaaGreat.desc
