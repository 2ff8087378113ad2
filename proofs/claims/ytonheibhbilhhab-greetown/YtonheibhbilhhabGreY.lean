/- GreetOwn: a face behind faces of one's own. -/
import Derived.Test.YtonheibhbilhhabGreW
import Derived.Test.YtonheibhbilhhabGreH
namespace Go.Proofs.Ytonheibhbilhhab.greet
open Go Go.RowKit Go.PlainAid Go.Proofs.Ytonheibhbilhhab.lane Go.Proofs.Ytonheibhbilhhab.desc
set_option linter.unusedVariables false
set_option linter.unusedSimpArgs false
set_option maxRecDepth 100000

theorem Mm.grown {w u v : World} {L : List Bk} {vf : Value} {n : Nat} {xs : List Value} (h : Mm w u L) (own : u.ownsRow w.heap.size 42 6 vf n xs) (hne : ∀ y ∈ L, vf.ownBlock ≠ some y.1) (hg : u.grownBy v vf.ownBlock) : Mm w v L :=
  ⟨fun y hy => (hg.block y.1 (bx_lt (h.lies y hy)) (fun q => hne y hy q.symm)).trans (h.lies y hy), h.own, h.ap, h.below.grown hg h.below.size (fun k hk => own_block own k hk)⟩
theorem Mo.ne {w u : World} {L : List Bk} {vf : Value} {F : FL} (h : Mo w u L vf F) : ∀ y ∈ L, vf.ownBlock ≠ some y.1 := fun y hy => box_ne h.own.row (h.mm.lies y hy) (fun q => (h.kd y hy).1 q.symm)
theorem fc_cells (q : Fc × Value × Value) : fcl q.1 q.2.1 q.2.2 = fcell q := rfl
/-- a face of one's own behind faces of one's own -/
theorem Oc.add {w u v : World} {vf vf' : Value} {D : FL} {q : Fc × Value × Value} (h : Oc w u vf D) (hT : Txs u w.heap.size q.2.1 q.1.ex) (hE : Eds u w.heap.size q.2.2 q.1.en) (hb : BB q.1.ex ∧ ∀ x ∈ q.1.ex, x.length ≤ maxLen)
    (own : v.ownsRow w.heap.size 42 6 vf' (D.length + 1) (fcells D ++ fcell q)) (hg : u.grownBy v vf.ownBlock) : Oc w v vf' (D ++ [q]) := by
  have txk : ∀ {y : Value} {ps : List (List Int)}, Txs u w.heap.size y ps → Txs v w.heap.size y ps := fun ht => World.ownsRow.kept ht hg (kind_ne ht h.row (by decide))
  have enk : ∀ {y : Value} {ps : List En}, Eds u w.heap.size y ps → Eds v w.heap.size y ps := fun ht => World.ownsRow.kept ht hg (kind_ne ht h.row (by decide))
  refine ⟨?_, fun p hp => ?_, fun p hp => ?_, fun p hp => ?_⟩
  · rw [fcells_append, List.length_append]
    simpa [fcells] using own
  · rcases List.mem_append.1 hp with hp | hp
    · exact txk (h.tx p hp)
    · simp at hp; subst hp; exact txk hT
  · rcases List.mem_append.1 hp with hp | hp
    · exact enk (h.en p hp)
    · simp at hp; subst hp; exact enk hE
  · rcases List.mem_append.1 hp with hp | hp
    · exact h.bb p hp
    · simp at hp; subst hp; exact hb
theorem wp_fc1 {o : Oper} {a : Act} {w u : World} {K : Act → World → Prop} {Q : Exit → Act → World → Prop} {s x : Operand}
    (ho : o.op = .call { callee := .builtin .append, args := #[s, x], argTypes := #[24, 24] }) {vf : Value} {D : FL} (hs : a.eval s = vf) {z : Nat} (hx : a.eval x = .slice (some ⟨z, 0, none⟩) 1 1) {L : List Bk} (hM : Mm w u L) (hO : Oc w u vf D)
    {q : Fc × Value × Value} (hz : u.heap[z]? = some (bx 42 (fcl q.1 q.2.1 q.2.2))) (hT : Txs u w.heap.size q.2.1 q.1.ex) (hE : Eds u w.heap.size q.2.2 q.1.en) (hb : BB q.1.ex ∧ ∀ x ∈ q.1.ex, x.length ≤ maxLen)
    (hl : (D.length + 1) * 80 ≤ 140737488355328) (hne : ∀ y ∈ L, vf.ownBlock ≠ some y.1)
    (hK : ∀ v' u', Oc w u' v' (D ++ [q]) → Mm w u' L → K (a.put o.dst v') u') : o.wp Try.prog a u K Q := by
  obtain ⟨i0, hi, hz0, hz1, hz2⟩ := info_parts infoF
  have hone : ∀ y ∈ fcell q, y.oneCell' = true := by
    obtain ⟨a1, c1, e1, _⟩ := own_form hT
    obtain ⟨a2, c2, e2, _⟩ := own_form hE
    intro y hy
    simp only [fcell, List.mem_cons, List.not_mem_nil, or_false] at hy
    rcases hy with rfl | rfl | rfl | rfl | rfl | rfl
    · rfl
    · rfl
    · rfl
    · rfl
    · rw [e1]; rfl
    · rw [e2]; rfl
  refine wp_append_own u s x 24 ho w.heap.size 42 i0 _ 6 80 Try.underlying24 hi hz0 hz1 hz2 rfl (by omega) vf D.length (fcells D) hs hO.row ⟨z, 0, none⟩ 1 1 (fcell q) hx rfl ?_ hone (by unfold maxLen; omega) hl hM.below.size ?_
  · intro j y hj
    have h1 := bx_cell (j := j) hz hj
    have hadd : (⟨z, 0, none⟩ : Addr).add j = ⟨z, j, none⟩ := by rw [Addr.add_lit]; simp
    rw [hadd]; exact h1
  · intro v' w' h1 h2 _
    exact hK v' w' (hO.add hT hE hb h1 h2) (hM.grown hO.row hne h2)
section
variable {ops : Array Oper} {rest : List Oper} {o : Oper} {a : Act} {w u : World} {Q : Exit → Act → World → Prop} {K : Act → World → Prop} {i : Nat} {s x : Operand}
theorem v_fc1 (hgd : o.guard = none) (ho : o.op = .call { callee := .builtin .append, args := #[s, x], argTypes := #[24, 24] }) {vf : Value} {D : FL} (hs : a.eval s = vf) {z : Nat} (hx : a.eval x = .slice (some ⟨z, 0, none⟩) 1 1) {L : List Bk} (hM : Mm w u L) (hO : Oc w u vf D)
    {q : Fc × Value × Value} (hz : u.heap[z]? = some (bx 42 (fcl q.1 q.2.1 q.2.2))) (hT : Txs u w.heap.size q.2.1 q.1.ex) (hE : Eds u w.heap.size q.2.2 q.1.en) (hb : BB q.1.ex ∧ ∀ x ∈ q.1.ex, x.length ≤ maxLen)
    (hl : (D.length + 1) * 80 ≤ 140737488355328) (hne : ∀ y ∈ L, vf.ownBlock ≠ some y.1)
    (h : ∀ v' u', Oc w u' v' (D ++ [q]) → Mm w u' L → wpList Try.prog ops Q rest (a.put o.dst v') u') : wpList Try.prog ops Q (o :: rest) a u :=
  wpList_plain hgd fun _ hK' => wp_fc1 ho hs hx hM hO hz hT hE hb hl hne fun v' u' h1 h2 => hK' _ _ (h v' u' h1 h2)
end
end Go.Proofs.Ytonheibhbilhhab.greet
