/- plugref's gadget: what Sheet answers. -/
import Derived.Test.YtebaepkghbihkaaGadC
import Derived.Test.YtebaepkghbihkaaDescU
import Derived.Test.YtebaepkghbihkaaDescWc
import Derived.Deep.Cut
namespace Go.Proofs.Ytebaepkghbihkaa.gadget
open Go.RowKit Go.PlainAid Go.Proofs.Ytebaepkghbihkaa.lane Go.Proofs.Ytebaepkghbihkaa.desc
open Go.Proofs.Ytebaepkghbihkaa.utf (werr)
set_option linter.unusedVariables false
set_option linter.unusedSimpArgs false

theorem infoN : (Try.prog.info? 3).map (fun i => (i.zero, i.size, i.bytes)) = some (some (.int .i64 0), 1, 8) := by kernel_rfl
/-- the value v owns these integers, in a block from B on -/
def Nms (w : World) (B : Nat) (v : Value) (us : List Int) : Prop := w.ownsRow B 3 1 v us.length (us.map (Value.int .i64))
theorem wpList_nms {ops : Array Oper} {rest : List Oper} {o : Oper} {a : Act} {Q : Exit → Act → World → Prop} (w : World) (hgd : o.guard = none) (s x : Operand)
    (ho : o.op = .call { callee := .builtin .append, args := #[s, x], argTypes := #[61, 61] }) (B : Nat) (v : Value) (us : List Int) (hs : a.eval s = v) (h : Nms w B v us)
    (g c : Nat) (z : Int) (hx : a.eval x = .slice (some ⟨g, 0, none⟩) 1 c) (hc : w.cell? ⟨g, 0, none⟩ = some (.int .i64 z)) (hl : us.length ≤ 1000000) (hB : B ≤ w.heap.size)
    (hK : ∀ v' w', Nms w' B v' (us ++ [z]) → w.grownBy w' v.ownBlock → Below B w w' → wpList Try.prog ops Q rest (a.put o.dst v') w') : wpList Try.prog ops Q (o :: rest) a w := by
  obtain ⟨i0, hi, hz0, hz1, hz2⟩ := info_parts infoN
  refine wpList_append_own w hgd s x 61 ho B 3 i0 _ 1 8 Try.underlying61 hi hz0 hz1 hz2 rfl (by omega) v us.length (us.map (Value.int .i64)) hs h ⟨g, 0, none⟩ 1 c [.int .i64 z] hx rfl ?_ (by simp [Value.oneCell']) (by unfold maxLen; omega) (by omega) hB ?_
  · intro j u hj
    match j, hj with
    | 0, hj => simp at hj; subst hj; simpa [Addr.add] using hc
    | (j + 1), hj => simp at hj
  · intro v' w' h1 h2 _
    refine hK v' w' ?_ h2 ((Below.refl _ _).grown h2 hB (own_block h))
    unfold Nms
    rw [List.length_append, List.map_append]
    exact h1
theorem Nms.new (w : World) (us : List Int) (hm : us.length ≤ maxLen) : Nms (w.alloc (.cells (us.map (Value.int .i64)).toArray 3)) w.heap.size (.slice (some ⟨w.heap.size, 0, none⟩) us.length us.length) us := by
  have := World.ownsRow_lit (base := w.heap.size) (e := 3) (size := 1) w (us.map (Value.int .i64)).toArray us.length (Nat.le_refl _) hm (by simp)
  unfold Nms
  simpa using this
theorem Nms.at {w : World} {B : Nat} {a : Option Addr} {n c : Nat} {us : List Int} (h : Nms w B (.slice a n c) us) : n = us.length ∧ n ≤ c ∧ c ≤ maxLen ∧ ∀ j x, us[j]? = some x → ∃ g off, a = some ⟨g, off, none⟩ ∧ w.cell? ⟨g, off + j, none⟩ = some (.int .i64 x) := by
  obtain ⟨a', c', e, h1, h2, h3, h4⟩ := Rdg.of h
  injection e with e1 e2 e3
  subst e1 e2 e3
  refine ⟨rfl, h1, h2, fun j x hx => ?_⟩
  have hj := (List.getElem?_eq_some_iff.1 hx).1
  obtain ⟨g, off, ha, hg, hc⟩ := h4 (by omega)
  exact ⟨g, off, ha, hc j _ (by simp [hx])⟩
theorem abv_at {n : Int} {l : List Int} {k : Nat} {x : Int} (h : l[k]? = some x) : abv n (l.drop k) = (decide (n < x) || abv n (l.drop (k + 1))) := by
  obtain ⟨hk, he⟩ := List.getElem?_eq_some_iff.1 h
  rw [List.drop_eq_getElem_cons hk, he]
  rfl
end Go.Proofs.Ytebaepkghbihkaa.gadget
