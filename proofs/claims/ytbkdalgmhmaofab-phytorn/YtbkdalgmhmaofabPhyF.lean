/- phy: rows of what was heard; a sign put behind the levels that are held. -/
import Derived.Test.YtbkdalgmhmaofabPhyE
import Derived.ArgAppend
import Derived.OwnWalk
import Derived.Deep.AppendLies
import Derived.Laws.OwnMore
import Derived.Laws.IdiomStrings
import Derived.Test.YtbkdalgmhmaofabByts
namespace Go.Proofs.Ytbkdalgmhmaofab.lane
open Go.RowKit Go.PlainAid
set_option linter.unusedVariables false

theorem infoH : (Try.prog.info? 35).map (fun i => (i.zero, i.size, i.bytes)) = some (some (.agg #[.string ⟨#[]⟩, .int .i64 0]), 2, 24) := by kernel_rfl
/-- the cells of what was heard -/
def hcells (L : List (List Int × Int)) : List Value := L.flatMap fun p => [.string (strOfNums p.1), .int .i64 p.2]
theorem hcells_length (L : List (List Int × Int)) : (hcells L).length = L.length * 2 := by
  induction L with
  | nil => rfl
  | cons p L ih =>
    have : hcells (p :: L) = .string (strOfNums p.1) :: .int .i64 p.2 :: hcells L := rfl
    rw [this, List.length_cons, List.length_cons, ih, List.length_cons]; omega
theorem hcells_append (L M : List (List Int × Int)) : hcells (L ++ M) = hcells L ++ hcells M := by simp [hcells]
/-- the value v owns what was heard, in a block from B on -/
def Hrs (w : World) (B : Nat) (v : Value) (L : List (List Int × Int)) : Prop := w.ownsRow B 35 2 v L.length (hcells L)
theorem Hrs.nil (w : World) (B : Nat) : Hrs w B (.slice none 0 0) [] := ⟨rfl, .inl ⟨rfl, rfl⟩⟩
theorem Hrs.lt {w : World} {B : Nat} {v : Value} {L : List (List Int × Int)} (h : Hrs w B v L) : ∀ k, v.ownBlock = some k → B ≤ k ∧ k < w.heap.size := World.ownsRow.lt h
theorem Hrs.grown {w u : World} {B : Nat} {v : Value} {L : List (List Int × Int)} {row : Option Nat} (h : Hrs w B v L) (hg : w.grownBy u row) (hne : v.ownBlock = none ∨ v.ownBlock ≠ row) : Hrs u B v L := World.ownsRow.kept h hg hne
theorem grown_below {w u : World} (hb : Below w.heap.size w u) : w.grownBy u none := ⟨hb.os, hb.tape, hb.output, hb.size, fun k hk _ => hb.block k hk⟩
theorem Hrs.below {w u : World} {B : Nat} {v : Value} {L : List (List Int × Int)} (h : Hrs w B v L) (hb : Below w.heap.size w u) : Hrs u B v L := by
  cases hv : v.ownBlock with
  | none => exact h.grown (grown_below hb) (.inl hv)
  | some k => exact h.grown (grown_below hb) (.inr (by rw [hv]; simp))
theorem Hrs.push {w1 : World} {B g cap : Nat} {L : List (List Int × Int)} {t : List Int} {c : Int}
    (h : w1.ownsRow B 35 2 (.slice (some ⟨g, 0, none⟩) (L.length + 1) cap) (L.length + 1) (hcells L ++ [.string (strOfNums t), .int .i64 c])) :
    Hrs w1 B (.slice (some ⟨g, 0, none⟩) (L.length + 1) cap) (L ++ [(t, c)]) := by
  unfold Hrs
  rw [hcells_append, List.length_append]
  exact h

theorem hd_set {w : World} {g n cap : Nat} {acc : List Int} (h : Hd w g n cap acc) (hn : n + 1 ≤ cap) (y : Int) : Hd (w.setCell ⟨g, n, none⟩ (.int .u8 y)) g (n + 1) cap (acc ++ [y]) := by
  have hl := h.len
  obtain ⟨v0, hv0⟩ := Option.isSome_iff_exists.1 (h.some n (by omega))
  refine ⟨by simp [hl], hn, h.max, by simpa using h.lt, fun j hj => ?_, fun j hj => ?_, fun j hj => by rw [World.frozen?_setCell]; exact h.free j hj⟩
  · by_cases e : n = j
    · subst e
      rw [World.cell?_setCell_same _ _ _ hv0]
      simp [List.getD, ← hl]
    · rw [World.cell?_setCell_other w ⟨g, n, none⟩ ⟨g, j, none⟩ _ (fun q => e (by injection q)), h.cell j (by omega)]
      simp [List.getD, List.getElem?_append_left (show j < acc.length by omega)]
  · by_cases e : n = j
    · subst e
      rw [World.cell?_setCell_same _ _ _ hv0]; rfl
    · rw [World.cell?_setCell_other w ⟨g, n, none⟩ ⟨g, j, none⟩ _ (fun q => e (by injection q))]
      exact h.some j hj
theorem hd_own {w : World} {B g n cap : Nat} {acc : List Int} (h : w.ownsRow B 5 1 (.slice (some ⟨g, 0, none⟩) n cap) n (acc.map (Value.int .u8))) (hp : 0 < n) : Hd w g n cap acc := by
  have hl : acc.length = n := by have := h.1; simpa using this
  have hc := fun j (hj : j < n) => World.ownsRow.cellAt h j (by omega)
  have hfz := World.ownsRow.frozenAt h
  rcases h.2 with ⟨hv, h0⟩ | ⟨g', cap', cur, hv, hb, hg, hn, hm, hs, ht⟩
  · omega
  · injection hv with e1 e2 e3
    injection e1 with e1
    injection e1 with e1
    subst e1 e3
    refine ⟨hl, hn, hm, ?_, fun j hj => ?_, fun j hj => ?_, fun j _ => hfz j⟩
    · rcases Nat.lt_or_ge g w.heap.size with q | q
      · exact q
      · rw [Array.getElem?_eq_none q] at hg; cases hg
    · rw [hc j hj]
      simp [List.getD, List.getElem?_eq_getElem (show j < acc.length by omega)]
    · rw [cell_of_row w g j cur 5 (0, 0) hg, Array.getElem?_eq_getElem (by omega)]
      rfl

/-- a sign is put behind the levels: in their block, or in a new one -/
theorem wpList_held {ops : Array Oper} {rest : List Oper} {o : Oper} {a : Act} {Q : Exit → Act → World → Prop} (w : World)
    (hg : o.guard = none) (s x : Operand) (hop : o.op = Op.call { callee := Callee.builtin Builtin.append, args := #[s, x], argTypes := #[41, 41] })
    (g n cap : Nat) (acc : List Int) (h : Hd w g n cap acc) (hs : a.eval s = .slice (some ⟨g, 0, none⟩) n cap) (ad : Nat) (c : Nat) (y : Int)
    (hx : a.eval x = .slice (some ⟨ad, 0, none⟩) 1 c) (hc : w.cell? ⟨ad, 0, none⟩ = some (.int .u8 y)) (hb : n + 1 ≤ 140737488355328)
    (hK : ∀ g' cap' w', Hd w' g' (n + 1) cap' (acc ++ [y]) → w.grownBy w' (some g) → (g' = g ∨ w.heap.size ≤ g') → wpList Try.prog ops Q rest (a.put o.dst (.slice (some ⟨g', 0, none⟩) (n + 1) cap')) w') :
    wpList Try.prog ops Q (o :: rest) a w := by
  obtain ⟨i0, hi, hz0, hz1, hz2⟩ := info_parts info5
  have hl := h.len
  refine wpList_append_arg w hg s x 41 hop 5 i0 (.int .u8 0) 1 1 Try.underlying41 hi hz0 hz1 hz2 rfl (by omega) g 0 n cap (acc.map (Value.int .u8)) hs (by simp [hl]) ?_ ⟨ad, 0, none⟩ 1 c [.int .u8 y] hx rfl ?_ (by simp [Value.oneCell']) ?_ (by unfold maxLen; omega) (by omega) ?_ ?_
  · intro j u hj
    have hj2 : j < acc.length := by simpa using (List.getElem?_eq_some_iff.1 hj).1
    rw [Nat.zero_add, h.cell j (by omega)]
    rw [← hj]
    simp [List.getD, List.getElem?_eq_getElem hj2]
  · intro j u hj
    match j, hj with
    | 0, hj =>
      simp at hj
      subst hj
      simpa [Addr.add] using hc
  · intro hr j hj
    have hj0 : j = 0 := by simpa using hj
    subst hj0
    simp only [Nat.zero_add, Nat.mul_one, Nat.add_zero]
    exact ⟨h.some n (by omega), h.free n (by omega)⟩
  · intro hr
    have e : w.setCells g (0 + n * 1) [.int .u8 y] = w.setCell ⟨g, n, none⟩ (.int .u8 y) := by
      rw [Nat.zero_add, Nat.mul_one]; rfl
    rw [e]
    refine hK g cap _ (hd_set h hr y) ⟨rfl, rfl, rfl, by simp, fun k hk hne => Below.heap_setCell w _ _ k (fun q => hne (by rw [q]))⟩ (.inl rfl)
  · intro hr v' w' hown hgrow
    obtain ⟨g', cap', rfl, hge, _⟩ := hown.form (by omega)
    refine hK g' cap' w' (hd_own (B := w.heap.size) ?_ (by omega)) ⟨hgrow.os, hgrow.tape, hgrow.output, hgrow.size, fun k hk _ => hgrow.block k hk (by simp)⟩ (.inr hge)
    simpa using hown
end Go.Proofs.Ytbkdalgmhmaofab.lane
