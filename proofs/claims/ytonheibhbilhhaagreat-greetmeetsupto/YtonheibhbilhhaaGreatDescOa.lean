/- DescOwn: clones of texts; a configuration that is copied; a configuration that is written over. -/
import Derived.Test.YtonheibhbilhhaaGreatZBf
import Derived.Test.YtonheibhbilhhaaGreatDescZ
namespace Go.Proofs.YtonheibhbilhhaaGreat.desc
open Go.RowKit Go.PlainAid Go.Proofs.YtonheibhbilhhaaGreat.lane
set_option linter.unusedVariables false
set_option linter.unusedSimpArgs false
set_option maxRecDepth 100000
theorem tcells_one (ps : List (List Int)) : ∀ u ∈ tcells ps, u.oneCell' = true := by
 intro u hu
 obtain ⟨p, _, rfl⟩ := List.mem_map.1 hu
 rfl
structure Bf (w0 wr : World) (X : Nat) (va na atr po : Int) (vf : Value) (L : FL) : Prop where
 box : wr.heap[X]? = some (cfO va na atr po vf)
 hX : w0.heap.size ≤ X
 row : wr.ownsRow w0.heap.size 74 6 vf L.length (fcells L)
 tx : ∀ q ∈ L, Txs wr w0.heap.size q.2.1 q.1.ex
 en : ∀ q ∈ L, Eds wr w0.heap.size q.2.2 q.1.en
 bb : ∀ q ∈ L, BB q.1.ex ∧ ∀ x ∈ q.1.ex, x.length ≤ maxLen
 bel : Below w0.heap.size w0 wr
theorem Bf.below {w0 wr u : World} {X : Nat} {va na atr po : Int} {vf : Value} {L : FL} (h : Bf w0 wr X va na atr po vf L) (hb : Below wr.heap.size wr u) : Bf w0 u X va na atr po vf L :=
 ⟨res_below h.box hb, h.hX, own_below h.row hb, fun q hq => own_below (h.tx q hq) hb, fun q hq => own_below (h.en q hq) hb, h.bb, h.bel.trans (hb.mono h.bel.size)⟩
theorem Bf.rc {w0 wr : World} {X : Nat} {va na atr po : Int} {vf : Value} {L : FL} (h : Bf w0 wr X va na atr po vf L) : Rc wr vf ⟨va, na, atr, po, L.map Prod.fst⟩ L :=
 ⟨⟨Rdg.of h.row, fun q hq => ⟨(h.tx q hq).rts, Rdg.of (h.en q hq), (h.bb q hq).1, (h.bb q hq).2⟩⟩, rfl⟩
theorem Bf.add {w0 wr w' : World} {X : Nat} {va na atr po : Int} {vf vf' : Value} {L : FL} {q : Fc × Value × Value} (h : Bf w0 wr X va na atr po vf L)
  (htx : Txs wr w0.heap.size q.2.1 q.1.ex) (hen : Eds wr w0.heap.size q.2.2 q.1.en) (hbb : BB q.1.ex ∧ ∀ x ∈ q.1.ex, x.length ≤ maxLen)
  (own : w'.ownsRow w0.heap.size 74 6 vf' (L.length + 1) (fcells L ++ fcell q)) (hg : wr.grownBy w' vf.ownBlock) : Bf w0 (w'.setCell ⟨X, 4, none⟩ vf') X va na atr po vf' (L ++ [q]) := by
 have hXlt := (Array.getElem?_eq_some_iff.1 h.box).1
 have hne := box_ne h.row h.box (by decide)
 have hbox : w'.heap[X]? = some (cfO va na atr po vf) := (hg.block X hXlt (fun q => hne q.symm)).trans h.box
 have hne' := box_ne own hbox (by decide)
 have txk : ∀ {v : Value} {ps : List (List Int)}, Txs wr w0.heap.size v ps → Txs (w'.setCell ⟨X, 4, none⟩ vf') w0.heap.size v ps := fun ht => by
  have h1 : Txs w' w0.heap.size _ _ := World.ownsRow.kept ht hg (kind_ne ht h.row (by decide))
  exact ownsRow_setCell_other h1 (box_ne h1 hbox (by decide)) vf'
 have enk : ∀ {v : Value} {ps : List En}, Eds wr w0.heap.size v ps → Eds (w'.setCell ⟨X, 4, none⟩ vf') w0.heap.size v ps := fun ht => by
  have h1 : Eds w' w0.heap.size _ _ := World.ownsRow.kept ht hg (kind_ne ht h.row (by decide))
  exact ownsRow_setCell_other h1 (box_ne h1 hbox (by decide)) vf'
 have bel' : Below w0.heap.size w0 w' := h.bel.grown hg h.bel.size (fun k hk => own_block h.row k hk)
 refine ⟨heap_set5 hbox, h.hX, ?_, fun p hp => ?_, fun p hp => ?_, fun p hp => ?_, bel'.setCell h.hX _⟩
 ·rw [fcells_append, List.length_append]
  have := ownsRow_setCell_other (a := ⟨X, 4, none⟩) own hne' vf'
  simpa [fcells] using this
 ·rcases List.mem_append.1 hp with hp | hp
  ·exact txk (h.tx p hp)
  ·simp at hp; subst hp; exact txk htx
 ·rcases List.mem_append.1 hp with hp | hp
  ·exact enk (h.en p hp)
  ·simp at hp; subst hp; exact enk hen
 ·rcases List.mem_append.1 hp with hp | hp
  ·exact h.bb p hp
  ·simp at hp; subst hp; exact hbb
structure Ds (w0 wr : World) (X : Nat) (va na atr po : Int) (vf : Value) (n : Nat) (D : Nat → Value × Value) (N : Nat → Nat × Nat) (i : Nat) : Prop where
 box : wr.heap[X]? = some (cfO va na atr po vf)
 hX : w0.heap.size ≤ X
 row : ∃ xs, wr.ownsRow w0.heap.size 74 6 vf n xs ∧ ∀ j, i ≤ j → j < n → xs[j * 6 + 4]? = some (D j).1 ∧ xs[j * 6 + 5]? = some (D j).2
 tx : ∀ j, i ≤ j → j < n → ∃ xs, wr.ownsRow w0.heap.size 9 1 (D j).1 (N j).1 xs
 en : ∀ j, i ≤ j → j < n → ∃ xs, wr.ownsRow w0.heap.size 89 5 (D j).2 (N j).2 xs
 bel : Below w0.heap.size w0 wr
theorem Ds.below {w0 wr u : World} {X : Nat} {va na atr po : Int} {vf : Value} {n : Nat} {D : Nat → Value × Value} {N : Nat → Nat × Nat} {i : Nat} (h : Ds w0 wr X va na atr po vf n D N i) (hb : Below wr.heap.size wr u) : Ds w0 u X va na atr po vf n D N i := by
 obtain ⟨xs, h1, h2⟩ := h.row
 refine ⟨res_below h.box hb, h.hX, ⟨xs, own_below h1 hb, h2⟩, fun j hj hn => ?_, fun j hj hn => ?_, h.bel.trans (hb.mono h.bel.size)⟩
 ·obtain ⟨ys, h3⟩ := h.tx j hj hn; exact ⟨ys, own_below h3 hb⟩
 ·obtain ⟨ys, h3⟩ := h.en j hj hn; exact ⟨ys, own_below h3 hb⟩
theorem Inv.ds {w0 wr : World} {X : Nat} {va na atr po : Int} {vf : Value} {L : FL} (h : Inv w0 wr X va na atr po vf L) {Y : Nat} (hY : wr.heap[Y]? = some (cfO va na atr po vf)) (hYl : w0.heap.size ≤ Y) : ∃ D N, Ds w0 wr Y va na atr po vf L.length D N 0 := by
 refine ⟨fun j => (L.getD j (⟨0, 0, 0, 0, [], []⟩, .bool false, .bool false)).2, fun j => ((L.getD j (⟨0, 0, 0, 0, [], []⟩, .bool false, .bool false)).1.ex.length, (L.getD j (⟨0, 0, 0, 0, [], []⟩, .bool false, .bool false)).1.en.length), hY, hYl, ⟨fcells L, h.row, fun j _ hn => ?_⟩, fun j _ hn => ?_, fun j _ hn => ?_, h.bel⟩
 ·have e : L[j]? = some (L.getD j (⟨0, 0, 0, 0, [], []⟩, .bool false, .bool false)) := by simp [List.getD, List.getElem?_eq_getElem hn]
  exact ⟨fcells_at L j _ e 4 _ rfl, fcells_at L j _ e 5 _ rfl⟩
 ·have e : L.getD j (⟨0, 0, 0, 0, [], []⟩, .bool false, .bool false) ∈ L := by rw [List.getD, List.getElem?_eq_getElem hn]; exact List.getElem_mem hn
  exact ⟨_, h.tx _ e⟩
 ·have e : L.getD j (⟨0, 0, 0, 0, [], []⟩, .bool false, .bool false) ∈ L := by rw [List.getD, List.getElem?_eq_getElem hn]; exact List.getElem_mem hn
  exact ⟨_, h.en _ e⟩
theorem own_some {w : World} {B : Nat} {e : TypeId} {s n c : Nat} {a : Option Addr} {xs : List Value} (h : w.ownsRow B e s (.slice a n c) n xs) (hn : 0 < n) : ∃ g, a = some ⟨g, 0, none⟩ := by
 rcases h.2 with ⟨h1, h2⟩ | ⟨g, cap, cur, h1, _⟩
 ·omega
 ·injection h1 with h1 _ _
  exact ⟨g, h1⟩
theorem own_cell {w : World} {B : Nat} {e : TypeId} {s n c g : Nat} {xs : List Value} (h : w.ownsRow B e s (.slice (some ⟨g, 0, none⟩) n c) n xs) (j : Nat) (hj : j < n * s) : (∃ v, w.cell? ⟨g, j, none⟩ = some v) ∧ w.frozen? ⟨g, j, none⟩ = false := by
 refine ⟨⟨xs[j]'(by rw [h.1]; exact hj), ?_⟩, World.ownsRow.frozenAt h j⟩
 rw [World.ownsRow.cellAt h j hj, List.getElem?_eq_getElem]
section
variable {w0 wr : World} {X : Nat} {va na atr po : Int} {gf : Option Addr} {n cf : Nat} {D : Nat → Value × Value} {N : Nat → Nat × Nat} {i : Nat}
end
end Go.Proofs.YtonheibhbilhhaaGreat.desc
