/- phy: what was heard put behind what was heard: append and slices.Clone. -/
import Derived.Test.YtbkdalgmhmaofabPhyI
import Derived.Laws.AppendOwnNone
import Derived.WalkLawsBesides
namespace Go.Proofs.Ytbkdalgmhmaofab.lane
open Go.RowKit Go.PlainAid
set_option linter.unusedVariables false

theorem hcells_one (L : List (List Int × Int)) : ∀ u ∈ hcells L, u.oneCell' = true := by
  intro u hu
  unfold hcells at hu
  obtain ⟨p, _, hp⟩ := List.mem_flatMap.1 hu
  simp at hp
  rcases hp with rfl | rfl <;> rfl
theorem run_hrs (w : World) (ty : TypeId) (B B' : Nat) (v1 v2 : Value) (L M : List (List Int × Int)) (h1 : Hrs w B v1 L) (h2 : Hrs w B' v2 M) (hb : L.length + M.length ≤ 4398046511104) (hB : B ≤ w.heap.size) :
    ∃ v' w', (Builtin.append_ #[24, 24] ty #[v1, v2]).run Try.prog w = .ok v' w' ∧ Hrs w' B v' (L ++ M) ∧ w.grownBy w' v1.ownBlock := by
  obtain ⟨i0, hi, hz0, hz1, hz2⟩ := info_parts infoH
  have h2' := h2
  rcases h2.2 with ⟨rfl, h0⟩ | ⟨g, cap, cur, rfl, hBg, hg, hnc, hcm, hcs, htk⟩
  · have : M = [] := List.eq_nil_of_length_eq_zero h0
    subst this
    exact ⟨v1, w, run_append_owned_none (P := Try.prog) (w := w) B 24 ty 35 i0 2 Try.underlying24 hi v1 L.length (hcells L) h1, by rw [List.append_nil]; exact h1, ⟨rfl, rfl, rfl, Nat.le_refl _, fun _ _ _ => rfl⟩⟩
  · obtain ⟨v', w', q0, q1, q2, _⟩ := run_append_own (P := Try.prog) w B 24 ty 35 i0 _ 2 24 Try.underlying24 hi hz0 hz1 hz2 rfl (by omega) v1 L.length (hcells L) h1 ⟨g, 0, none⟩ M.length cap (hcells M) (hcells_length M) (World.ownsRow.cells h2' rfl) (hcells_one M) (by unfold maxLen; omega) (by omega) hB
    refine ⟨v', w', q0, ?_, q2⟩
    unfold Hrs
    rw [List.length_append, hcells_append]
    exact q1
theorem wpList_hrs {ops : Array Oper} {rest : List Oper} {o : Oper} {a : Act} {Q : Exit → Act → World → Prop} (w : World) (hgd : Region.wanted o (yielded ops a.tmps) = true) (s x : Operand)
    (ho : o.op = .call { callee := .builtin .append, args := #[s, x], argTypes := #[24, 24] })
    (B B' : Nat) (v1 v2 : Value) (L M : List (List Int × Int)) (hs : a.eval s = v1) (hx : a.eval x = v2) (h1 : Hrs w B v1 L) (h2 : Hrs w B' v2 M) (hb : L.length + M.length ≤ 4398046511104) (hB : B ≤ w.heap.size)
    (hK : ∀ v' w', Hrs w' B v' (L ++ M) → w.grownBy w' v1.ownBlock → wpList Try.prog ops Q rest (a.put o.dst v') w') : wpList Try.prog ops Q (o :: rest) a w := by
  obtain ⟨v', w', hrun, q1, q2⟩ := run_hrs w o.type B B' v1 v2 L M h1 h2 hb hB
  refine wpList_step fun K hK' => ?_
  rw [if_pos hgd]
  unfold Oper.wp
  simp [execOp, ho, resolve, invoke, builtin, hs, hx, hrun, Result.andThen]
  exact hK' _ _ (hK v' w' q1 q2)
theorem kc {u u' : World} (hb : Below u.heap.size u u') {b o : Nat} {x : Value} (h : u.cell? ⟨b, o, none⟩ = some x) : u'.cell? ⟨b, o, none⟩ = some x := (hb.cell (World.block_lt_of_cell? u _ h)).trans h
theorem ear_new (u : World) (r : ByteArray) : (u.alloc (.cells #[.string r] 28)).cell? ⟨u.heap.size, 0, none⟩ = some (.string r) := by go_simp
end Go.Proofs.Ytbkdalgmhmaofab.lane
