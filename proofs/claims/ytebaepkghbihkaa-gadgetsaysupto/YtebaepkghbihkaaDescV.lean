/- desc: a configuration that is being made: its rows, each in a block of its own. -/
import Derived.Test.YtebaepkghbihkaaDescQ
import Derived.OneCell
namespace Go.Proofs.Ytebaepkghbihkaa.desc
open Go.RowKit Go.PlainAid Go.Proofs.Ytebaepkghbihkaa.lane
set_option linter.unusedVariables false

theorem infoE : (Try.prog.info? 86).map (fun i => (i.zero, i.size, i.bytes)) = some (some (.agg #[.int .i64 0, .bool false, .int .i64 0, .int .i64 0, .int .i64 0]), 5, 40) := by kernel_rfl
theorem infoF : (Try.prog.info? 64).map (fun i => (i.zero, i.size, i.bytes)) = some (some (.agg #[.int .i64 0, .int .i64 0, .int .i64 0, .int .i64 0, .slice none 0 0, .slice none 0 0]), 6, 80) := by kernel_rfl
/-- the value v owns these ends -/
def Eds (w : World) (B : Nat) (v : Value) (es : List En) : Prop := w.ownsRow B 86 5 v es.length (ecells es)
theorem Eds.nil (w : World) (B : Nat) : Eds w B (.slice none 0 0) [] := ⟨rfl, .inl ⟨rfl, rfl⟩⟩
/-- rows that lie apart -/
def apart (a b : Value) : Prop := a.ownBlock = none ∨ b.ownBlock = none ∨ a.ownBlock ≠ b.ownBlock
theorem apart.symm {a b : Value} (h : apart a b) : apart b a := by
  rcases h with h | h | h
  · exact .inr (.inl h)
  · exact .inl h
  · exact .inr (.inr h.symm)
theorem kind_ne {w : World} {B B' : Nat} {e e' : TypeId} {s s' : Nat} {v v' : Value} {n n' : Nat} {xs xs' : List Value} (h : w.ownsRow B e s v n xs) (h' : w.ownsRow B' e' s' v' n' xs') (he : e ≠ e') : v.ownBlock = none ∨ v.ownBlock ≠ v'.ownBlock := by
  cases hv : v.ownBlock with
  | none => exact .inl rfl
  | some g =>
    right
    intro q
    obtain ⟨c, fz, h1⟩ := Lib.ownsRow_kind h g hv
    obtain ⟨c', fz', h2⟩ := Lib.ownsRow_kind h' g q.symm
    rw [h1] at h2
    injection h2 with h2
    injection h2 with _ h2 _
    exact he h2
/-- a row of another kind than block X -/
theorem box_ne {w : World} {B : Nat} {e T : TypeId} {s : Nat} {v : Value} {n : Nat} {xs : List Value} {X : Nat} {cs : Array Value} {fr : Nat × Nat} (h : w.ownsRow B e s v n xs) (hX : w.heap[X]? = some (.cells cs T fr)) (he : e ≠ T) : v.ownBlock ≠ some X := by
  intro q
  obtain ⟨c, fz, h1⟩ := Lib.ownsRow_kind h X q
  rw [hX] at h1
  injection h1 with h1
  injection h1 with _ h1 _
  exact he h1.symm
structure Inv (w0 wr : World) (X : Nat) (va na atr po : Int) (vf : Value) (L : FL) : Prop where
  box : wr.heap[X]? = some (.cells #[.int .i64 va, .int .i64 na, .int .i64 atr, .int .i64 po, vf] 26)
  hX : w0.heap.size ≤ X
  row : wr.ownsRow w0.heap.size 64 6 vf L.length (fcells L)
  tx : ∀ q ∈ L, Txs wr w0.heap.size q.2.1 q.1.ex
  en : ∀ q ∈ L, Eds wr w0.heap.size q.2.2 q.1.en
  sx : L.Pairwise fun a b => apart a.2.1 b.2.1
  sn : L.Pairwise fun a b => apart a.2.2 b.2.2
  bb : ∀ q ∈ L, BB q.1.ex ∧ ∀ x ∈ q.1.ex, x.length ≤ 512
  bel : Below w0.heap.size w0 wr
theorem Inv.below {w0 wr u : World} {X : Nat} {va na atr po : Int} {vf : Value} {L : FL} (h : Inv w0 wr X va na atr po vf L) (hb : Below wr.heap.size wr u) : Inv w0 u X va na atr po vf L :=
  ⟨(hb.block X (Array.getElem?_eq_some_iff.1 h.box).1).trans h.box, h.hX, own_below h.row hb, fun q hq => own_below (h.tx q hq) hb, fun q hq => own_below (h.en q hq) hb, h.sx, h.sn, h.bb, h.bel.trans (hb.mono h.bel.size)⟩
theorem Inv.drew {w0 wr : World} {X : Nat} {va na atr po : Int} {vf : Value} {L : FL} (h : Inv w0 wr X va na atr po vf L) : Inv w0 wr.drew X va na atr po vf L :=
  ⟨h.box, h.hX, h.row, h.tx, h.en, h.sx, h.sn, h.bb, h.bel.drew⟩
theorem Inv.rc {w0 wr : World} {X : Nat} {va na atr po : Int} {vf : Value} {L : FL} (h : Inv w0 wr X va na atr po vf L) : Rc wr vf ⟨va, na, atr, po, L.map Prod.fst⟩ L :=
  ⟨⟨Rdg.of h.row, fun q hq => ⟨(h.tx q hq).rts, Rdg.of (h.en q hq), (h.bb q hq).1, fun x hx => Nat.le_trans ((h.bb q hq).2 x hx) (by decide)⟩⟩, rfl⟩
theorem heap_set5 {w : World} {X : Nat} {a0 a1 a2 a3 a4 u : Value} {T : TypeId} (h : w.heap[X]? = some (.cells #[a0, a1, a2, a3, a4] T)) : (w.setCell ⟨X, 4, none⟩ u).heap[X]? = some (.cells #[a0, a1, a2, a3, u] T) :=
  heap_setCell_same w X 4 #[a0, a1, a2, a3, a4] T u h
/-- a face more -/
theorem Inv.addF {w0 wr w' : World} {X : Nat} {va na atr po : Int} {vf vf' : Value} {L : FL} {f : Fc} (h : Inv w0 wr X va na atr po vf L) (hf : f.ex = [] ∧ f.en = [])
    (own : w'.ownsRow w0.heap.size 64 6 vf' (L.length + 1) (fcells L ++ fcell (f, .slice none 0 0, .slice none 0 0))) (hg : wr.grownBy w' vf.ownBlock) :
    Inv w0 (w'.setCell ⟨X, 4, none⟩ vf') X va na atr po vf' (L ++ [(f, .slice none 0 0, .slice none 0 0)]) := by
  have hXlt := (Array.getElem?_eq_some_iff.1 h.box).1
  have hne := box_ne h.row h.box (by decide)
  have hbox : w'.heap[X]? = some (.cells #[.int .i64 va, .int .i64 na, .int .i64 atr, .int .i64 po, vf] 26) := (hg.block X hXlt (fun q => hne q.symm)).trans h.box
  have hne' := box_ne own hbox (by decide)
  have tx' : ∀ q ∈ L, Txs w' w0.heap.size q.2.1 q.1.ex := fun q hq => World.ownsRow.kept (h.tx q hq) hg (kind_ne (h.tx q hq) h.row (by decide))
  have en' : ∀ q ∈ L, Eds w' w0.heap.size q.2.2 q.1.en := fun q hq => World.ownsRow.kept (h.en q hq) hg (kind_ne (h.en q hq) h.row (by decide))
  have bel' : Below w0.heap.size w0 w' := h.bel.grown hg h.bel.size (fun k hk => own_block h.row k hk)
  refine ⟨heap_set5 hbox, h.hX, ?_, fun q hq => ?_, fun q hq => ?_, ?_, ?_, fun q hq => ?_, bel'.setCell h.hX _⟩
  · rw [fcells_append, List.length_append]
    exact ownsRow_setCell_other own hne' vf'
  · rcases List.mem_append.1 hq with hq | hq
    · exact ownsRow_setCell_other (tx' q hq) (box_ne (tx' q hq) hbox (by decide)) vf'
    · simp at hq; subst hq; show Txs _ _ _ f.ex; rw [hf.1]; exact Txs.nil _ _
  · rcases List.mem_append.1 hq with hq | hq
    · exact ownsRow_setCell_other (en' q hq) (box_ne (en' q hq) hbox (by decide)) vf'
    · simp at hq; subst hq; show Eds _ _ _ f.en; rw [hf.2]; exact Eds.nil _ _
  · rw [List.pairwise_append]
    exact ⟨h.sx, by simp, fun a _ b hb => by simp at hb; subst hb; exact .inr (.inl rfl)⟩
  · rw [List.pairwise_append]
    exact ⟨h.sn, by simp, fun a _ b hb => by simp at hb; subst hb; exact .inr (.inl rfl)⟩
  · rcases List.mem_append.1 hq with hq | hq
    · exact h.bb q hq
    · simp at hq; subst hq
      refine ⟨?_, ?_⟩
      · show BB f.ex; rw [hf.1]; intro p hp; simp at hp
      · show ∀ x ∈ f.ex, _; rw [hf.1]; intro p hp; simp at hp
theorem fcells_set (D : FL) (q : Fc × Value × Value) (i : Nat) (u : Value) (hi : i < 6) : (fcells (D ++ [q])).set (D.length * 6 + i) u = fcells D ++ (fcell q).set i u := by
  rw [fcells_append, List.set_append_right _ _ (by rw [fcells_length]; omega), fcells_length, Nat.add_sub_cancel_left]
  simp [fcells]
theorem apart_new {a v' vd : Value} {n : Nat} (h : apart a vd) (hn : ∀ k, a.ownBlock = some k → k < n) (hl : vd.ownBlock = v'.ownBlock ∨ v'.ownBlock = some n) : apart a v' := by
  rcases hl with hl | hl
  · unfold apart; rw [← hl]; exact h
  · cases ha : a.ownBlock with
    | none => exact .inl ha
    | some k =>
      right; right
      rw [ha, hl]
      intro q
      injection q with q
      have := hn k ha
      omega
/-- an end more, at the last face -/
theorem Inv.addE {w0 wr w' : World} {X gF cF : Nat} {va na atr po : Int} {D : FL} {f : Fc} {ve vd vd' : Value} {e : En} (h : Inv w0 wr X va na atr po (.slice (some ⟨gF, 0, none⟩) (D.length + 1) cF) (D ++ [(f, ve, vd)]))
    (own : w'.ownsRow w0.heap.size 86 5 vd' (f.en.length + 1) (ecells f.en ++ ecell e)) (hg : wr.grownBy w' vd.ownBlock) (hl : vd.ownBlock = vd'.ownBlock ∨ vd'.ownBlock = some wr.heap.size) :
    Inv w0 (w'.setCell ⟨gF, D.length * 6 + 5, none⟩ vd') X va na atr po (.slice (some ⟨gF, 0, none⟩) (D.length + 1) cF) (D ++ [(desc.addE f e, ve, vd')]) := by
  have hXlt := (Array.getElem?_eq_some_iff.1 h.box).1
  have hlast : (f, ve, vd) ∈ D ++ [(f, ve, vd)] := by simp
  have hen := h.en _ hlast
  have htx := h.tx _ hlast
  have hne := box_ne hen h.box (by decide)
  have hbox : w'.heap[X]? = some (.cells #[.int .i64 va, .int .i64 na, .int .i64 atr, .int .i64 po, .slice (some ⟨gF, 0, none⟩) (D.length + 1) cF] 26) := (hg.block X hXlt (fun q => hne q.symm)).trans h.box
  have hrl : (D ++ [(f, ve, vd)]).length = D.length + 1 := by simp
  have row0 := h.row
  rw [hrl] at row0
  have row' : w'.ownsRow w0.heap.size 64 6 (.slice (some ⟨gF, 0, none⟩) (D.length + 1) cF) (D.length + 1) (fcells (D ++ [(f, ve, vd)])) := World.ownsRow.kept row0 hg (kind_ne row0 hen (by decide))
  have hst := (World.ownsRow.stored row' (D.length * 6 + 5) vd').1
  rw [fcells_set D _ 5 vd' (by omega)] at hst
  have hXF : X ≠ gF := fun q => box_ne row' hbox (by decide) (by rw [q]; rfl)
  have tx' : ∀ q ∈ D ++ [(f, ve, vd)], Txs w' w0.heap.size q.2.1 q.1.ex := fun q hq => World.ownsRow.kept (h.tx q hq) hg (kind_ne (h.tx q hq) hen (by decide))
  have hap := (List.pairwise_append.1 h.sn).2.2
  have en' : ∀ q ∈ D, Eds w' w0.heap.size q.2.2 q.1.en := fun q hq => by
    refine World.ownsRow.kept (h.en q (by simp [hq])) hg ?_
    rcases hap q hq (f, ve, vd) (by simp) with k | k | k
    · exact .inl k
    · cases hv : q.2.2.ownBlock with
      | none => exact .inl rfl
      | some g => right; rw [show vd.ownBlock = none from k]; simp
    · exact .inr k
  have kind : ∀ {e : TypeId} {s : Nat} {v : Value} {n : Nat} {xs : List Value}, w'.ownsRow w0.heap.size e s v n xs → e ≠ 64 → v.ownBlock ≠ some gF := by
    intro e s v n xs ho he q
    rcases kind_ne ho row' he with k | k
    · rw [k] at q; cases q
    · exact k q
  have bel' : Below w0.heap.size w0 w' := h.bel.grown hg h.bel.size (fun k hk => own_block hen k hk)
  have hgF : w0.heap.size ≤ gF := own_block row' gF rfl
  refine ⟨?_, h.hX, ?_, fun q hq => ?_, fun q hq => ?_, ?_, ?_, fun q hq => ?_, bel'.setCell hgF _⟩
  · rw [Below.heap_setCell _ _ _ _ hXF]; exact hbox
  · rw [List.length_append, fcells_append]
    simpa [fcells, fcell, desc.addE] using hst
  · rcases List.mem_append.1 hq with hq | hq
    · exact ownsRow_setCell_other (tx' q (by simp [hq])) (kind (tx' q (by simp [hq])) (by decide)) vd'
    · simp at hq; subst hq
      exact ownsRow_setCell_other (tx' _ hlast) (kind (tx' _ hlast) (by decide)) vd'
  · rcases List.mem_append.1 hq with hq | hq
    · exact ownsRow_setCell_other (en' q hq) (kind (en' q hq) (by decide)) vd'
    · simp at hq; subst hq
      have : Eds w' w0.heap.size vd' (f.en ++ [e]) := by
        unfold Eds
        rw [List.length_append, ecells_append]
        simpa [ecells] using own
      exact ownsRow_setCell_other this (kind this (by decide)) vd'
  · have := h.sx
    rw [List.pairwise_append] at this ⊢
    exact ⟨this.1, by simp, fun a ha b hb => by simp at hb; subst hb; exact this.2.2 a ha (f, ve, vd) (by simp)⟩
  · have := h.sn
    rw [List.pairwise_append] at this ⊢
    exact ⟨this.1, by simp, fun a ha b hb => by
      simp at hb; subst hb
      exact apart_new (hap a ha (f, ve, vd) (by simp)) (fun k hk => (World.ownsRow.lt (h.en a (by simp [ha])) k hk).2) hl⟩
  · rcases List.mem_append.1 hq with hq | hq
    · exact h.bb q (by simp [hq])
    · simp at hq; subst hq
      have h0 := h.bb (f, ve, vd) hlast
      exact h0
/-- a text more, at the last face -/
theorem Inv.addX {w0 wr w' : World} {X gF cF : Nat} {va na atr po : Int} {D : FL} {f : Fc} {ve vd ve' : Value} {x : List Int} (h : Inv w0 wr X va na atr po (.slice (some ⟨gF, 0, none⟩) (D.length + 1) cF) (D ++ [(f, ve, vd)]))
    (own : w'.ownsRow w0.heap.size 9 1 ve' (f.ex.length + 1) (tcells f.ex ++ [.string (strOfNums x)])) (hg : wr.grownBy w' ve.ownBlock) (hl : ve.ownBlock = ve'.ownBlock ∨ ve'.ownBlock = some wr.heap.size) (hb : Byt x) (hxl : x.length ≤ 512) :
    Inv w0 (w'.setCell ⟨gF, D.length * 6 + 4, none⟩ ve') X va na atr po (.slice (some ⟨gF, 0, none⟩) (D.length + 1) cF) (D ++ [(desc.addX f x, ve', vd)]) := by
  have hXlt := (Array.getElem?_eq_some_iff.1 h.box).1
  have hlast : (f, ve, vd) ∈ D ++ [(f, ve, vd)] := by simp
  have hen := h.en _ hlast
  have htx := h.tx _ hlast
  have hne := box_ne htx h.box (by decide)
  have hbox : w'.heap[X]? = some (.cells #[.int .i64 va, .int .i64 na, .int .i64 atr, .int .i64 po, .slice (some ⟨gF, 0, none⟩) (D.length + 1) cF] 26) := (hg.block X hXlt (fun q => hne q.symm)).trans h.box
  have hrl : (D ++ [(f, ve, vd)]).length = D.length + 1 := by simp
  have row0 := h.row
  rw [hrl] at row0
  have row' : w'.ownsRow w0.heap.size 64 6 (.slice (some ⟨gF, 0, none⟩) (D.length + 1) cF) (D.length + 1) (fcells (D ++ [(f, ve, vd)])) := World.ownsRow.kept row0 hg (kind_ne row0 htx (by decide))
  have hst := (World.ownsRow.stored row' (D.length * 6 + 4) ve').1
  rw [fcells_set D _ 4 ve' (by omega)] at hst
  have hXF : X ≠ gF := fun q => box_ne row' hbox (by decide) (by rw [q]; rfl)
  have en' : ∀ q ∈ D ++ [(f, ve, vd)], Eds w' w0.heap.size q.2.2 q.1.en := fun q hq => World.ownsRow.kept (h.en q hq) hg (kind_ne (h.en q hq) htx (by decide))
  have hap := (List.pairwise_append.1 h.sx).2.2
  have tx' : ∀ q ∈ D, Txs w' w0.heap.size q.2.1 q.1.ex := fun q hq => by
    refine World.ownsRow.kept (h.tx q (by simp [hq])) hg ?_
    rcases hap q hq (f, ve, vd) (by simp) with k | k | k
    · exact .inl k
    · cases hv : q.2.1.ownBlock with
      | none => exact .inl rfl
      | some g => right; rw [show ve.ownBlock = none from k]; simp
    · exact .inr k
  have kind : ∀ {e : TypeId} {s : Nat} {v : Value} {n : Nat} {xs : List Value}, w'.ownsRow w0.heap.size e s v n xs → e ≠ 64 → v.ownBlock ≠ some gF := by
    intro e s v n xs ho he q
    rcases kind_ne ho row' he with k | k
    · rw [k] at q; cases q
    · exact k q
  have bel' : Below w0.heap.size w0 w' := h.bel.grown hg h.bel.size (fun k hk => own_block htx k hk)
  have hgF : w0.heap.size ≤ gF := own_block row' gF rfl
  refine ⟨?_, h.hX, ?_, fun q hq => ?_, fun q hq => ?_, ?_, ?_, fun q hq => ?_, bel'.setCell hgF _⟩
  · rw [Below.heap_setCell _ _ _ _ hXF]; exact hbox
  · rw [List.length_append, fcells_append]
    simpa [fcells, fcell, desc.addX] using hst
  · rcases List.mem_append.1 hq with hq | hq
    · exact ownsRow_setCell_other (tx' q hq) (kind (tx' q hq) (by decide)) ve'
    · simp at hq; subst hq
      have : Txs w' w0.heap.size ve' (f.ex ++ [x]) := by
        unfold Txs
        rw [List.length_append, show tcells (f.ex ++ [x]) = tcells f.ex ++ [.string (strOfNums x)] by simp [tcells]]
        exact own
      exact ownsRow_setCell_other this (kind this (by decide)) ve'
  · rcases List.mem_append.1 hq with hq | hq
    · exact ownsRow_setCell_other (en' q (by simp [hq])) (kind (en' q (by simp [hq])) (by decide)) ve'
    · simp at hq; subst hq
      exact ownsRow_setCell_other (en' _ hlast) (kind (en' _ hlast) (by decide)) ve'
  · have := h.sx
    rw [List.pairwise_append] at this ⊢
    exact ⟨this.1, by simp, fun a ha b hb => by
      simp at hb; subst hb
      exact apart_new (hap a ha (f, ve, vd) (by simp)) (fun k hk => (World.ownsRow.lt (h.tx a (by simp [ha])) k hk).2) hl⟩
  · have := h.sn
    rw [List.pairwise_append] at this ⊢
    exact ⟨this.1, by simp, fun a ha b hb => by simp at hb; subst hb; exact this.2.2 a ha (f, ve, vd) (by simp)⟩
  · rcases List.mem_append.1 hq with hq | hq
    · exact h.bb q (by simp [hq])
    · simp at hq; subst hq
      have h0 := h.bb _ hlast
      refine ⟨fun p hp => ?_, fun p hp => ?_⟩
      · rcases List.mem_append.1 (show p ∈ f.ex ++ [x] from hp) with hp | hp
        · exact h0.1 p hp
        · simp at hp; subst hp; exact hb
      · rcases List.mem_append.1 (show p ∈ f.ex ++ [x] from hp) with hp | hp
        · exact h0.2 p hp
        · simp at hp; subst hp; exact hxl
end Go.Proofs.Ytebaepkghbihkaa.desc
