/- greet: a configuration that is copied. -/
import Derived.Test.YtonheibhbilhhaaGreQ
import Derived.Test.YtonheibhbilhhaaDescOa
namespace Go.Proofs.Ytonheibhbilhhaa.greet
open Go Go.RowKit Go.PlainAid Go.Proofs.Ytonheibhbilhhaa.lane Go.Proofs.Ytonheibhbilhhaa.desc
set_option linter.unusedVariables false
set_option linter.unusedSimpArgs false
set_option maxRecDepth 100000

theorem fcells_one {w : World} {L : FL} (h : ∀ q ∈ L, Rf w q) : ∀ u ∈ fcells L, u.oneCell' = true := by
  intro u hu
  obtain ⟨q, hq, hu⟩ := List.mem_flatMap.1 hu
  obtain ⟨a, c, h1, _⟩ := (h q hq).ex
  obtain ⟨b, d, h2, _⟩ := (h q hq).en
  simp only [fcell, List.mem_cons, List.not_mem_nil, or_false] at hu
  rcases hu with rfl | rfl | rfl | rfl | rfl | rfl
  · rfl
  · rfl
  · rfl
  · rfl
  · rw [h1]; rfl
  · rw [h2]; rfl
/-- texts, ends and faces behind nothing: a copy -/
theorem wp_txs0 {o : Oper} {a : Act} {w : World} {K : Act → World → Prop} {Q : Exit → Act → World → Prop} {s x : Operand}
    (ho : o.op = .call { callee := .builtin .append, args := #[s, x], argTypes := #[42, 42] }) (hs : a.eval s = nilS)
    {vx : Value} {es : List (List Int)} (hx : a.eval x = vx) (hr : Rts w vx es) (hl : es.length * 16 ≤ 140737488351232)
    (hK : ∀ v' w', Txs w' w.heap.size v' es → Below w.heap.size w w' → K (a.put o.dst v') w') : o.wp Try.prog a w K Q := by
  obtain ⟨i0, hi, hz0, hz1, hz2⟩ := info_parts infoS
  obtain ⟨ax, cx, rfl, h1, h2, h3, h4⟩ := hr
  have h : Txs w w.heap.size nilS [] := Txs.nil _ _
  cases ax with
  | none =>
    have h0 : es.length = 0 := by
      rcases Nat.eq_zero_or_pos es.length with q | q
      · exact q
      · obtain ⟨g, off, q1, _⟩ := h4 q; cases q1
    have hes : es = [] := List.eq_nil_of_length_eq_zero h0
    subst hes
    have hrun := run_append_nothing (P := Try.prog) (w := w) w.heap.size 42 o.type 9 i0 1 Try.underlying42 hi nilS 0 [] h cx
    simp only [List.length_nil] at hx
    have hk := hK nilS w h (Below.refl _ _)
    unfold Oper.wp
    simp [execOp, ho, resolve, invoke, builtin, hs, hx, hrun, Result.andThen]
    exact hk
  | some ad =>
    refine wp_append_own w s x 42 ho w.heap.size 9 i0 _ 1 16 Try.underlying42 hi hz0 hz1 hz2 rfl (by omega) nilS 0 [] hs h ad es.length cx (tcells es) hx (by rw [tcells_length]; omega) ?_ (tcells_one es) (by unfold maxLen; omega) (by omega) (Nat.le_refl _) ?_
    · intro j u hj
      have hlt := (List.getElem?_eq_some_iff.1 hj).1
      rw [tcells_length] at hlt
      obtain ⟨g, off, q1, hg, hc⟩ := h4 (by omega)
      injection q1 with q1
      subst q1
      rw [Addr.add_lit]; exact hc j u hj
    · intro v' w' h1 h2 _
      refine hK v' w' ?_ ((Below.refl _ _).grown h2 (Nat.le_refl _) (own_block h))
      unfold Txs
      simpa using h1
theorem wp_ens0 {o : Oper} {a : Act} {w : World} {K : Act → World → Prop} {Q : Exit → Act → World → Prop} {s x : Operand}
    (ho : o.op = .call { callee := .builtin .append, args := #[s, x], argTypes := #[74, 74] }) (hs : a.eval s = nilS)
    {vx : Value} {es : List En} (hx : a.eval x = vx) (hr : Rns w vx es) (hl : es.length * 40 ≤ 140737488351232)
    (hK : ∀ v' w', Eds w' w.heap.size v' es → Below w.heap.size w w' → K (a.put o.dst v') w') : o.wp Try.prog a w K Q :=
  wp_eds s x ho w.heap.size nilS [] hs (Eds.nil _ _) vx es hx hr (by simp; omega) (Nat.le_refl _) fun v' w' h1 _ h3 => hK v' w' (by simpa using h1) h3
/-- these faces lie in a row of one's own -/
def Fow (w : World) (B : Nat) (v : Value) (L : FL) : Prop := w.ownsRow B 76 6 v L.length (fcells L)
theorem wp_fcs0 {o : Oper} {a : Act} {w : World} {K : Act → World → Prop} {Q : Exit → Act → World → Prop} {s x : Operand}
    (ho : o.op = .call { callee := .builtin .append, args := #[s, x], argTypes := #[24, 24] }) (hs : a.eval s = nilS)
    {vx : Value} {L : FL} (hx : a.eval x = vx) (hr : Rfs w vx L) (hl : L.length * 80 ≤ 140737488351232)
    (hK : ∀ v' w', Fow w' w.heap.size v' L → Below w.heap.size w w' → K (a.put o.dst v') w') : o.wp Try.prog a w K Q := by
  obtain ⟨i0, hi, hz0, hz1, hz2⟩ := info_parts infoF
  obtain ⟨ax, cx, rfl, h1, h2, h3, h4⟩ := hr.row
  have h : Fow w w.heap.size nilS [] := ⟨rfl, .inl ⟨rfl, rfl⟩⟩
  cases ax with
  | none =>
    have h0 : L.length = 0 := by
      rcases Nat.eq_zero_or_pos L.length with q | q
      · exact q
      · obtain ⟨g, off, q1, _⟩ := h4 q; cases q1
    have hes : L = [] := List.eq_nil_of_length_eq_zero h0
    subst hes
    have hrun := run_append_nothing (P := Try.prog) (w := w) w.heap.size 24 o.type 76 i0 6 Try.underlying24 hi nilS 0 [] h cx
    simp only [List.length_nil] at hx
    have hk := hK nilS w h (Below.refl _ _)
    unfold Oper.wp
    simp [execOp, ho, resolve, invoke, builtin, hs, hx, hrun, Result.andThen]
    exact hk
  | some ad =>
    refine wp_append_own w s x 24 ho w.heap.size 76 i0 _ 6 80 Try.underlying24 hi hz0 hz1 hz2 rfl (by omega) nilS 0 [] hs h ad L.length cx (fcells L) hx (fcells_length L) ?_ (fcells_one hr.all) (by unfold maxLen; omega) (by omega) (Nat.le_refl _) ?_
    · intro j u hj
      have hlt := (List.getElem?_eq_some_iff.1 hj).1
      rw [fcells_length] at hlt
      obtain ⟨g, off, q1, hg, hc⟩ := h4 (by omega)
      injection q1 with q1
      subst q1
      rw [Addr.add_lit]; exact hc j u hj
    · intro v' w' h1 h2 _
      refine hK v' w' ?_ ((Below.refl _ _).grown h2 (Nat.le_refl _) (own_block h))
      unfold Fow
      simpa using h1
section
variable {ops : Array Oper} {rest : List Oper} {o : Oper} {a : Act} {w : World} {Q : Exit → Act → World → Prop} {K : Act → World → Prop} {i : Nat} {s x : Operand} {vx : Value}
theorem r_txs (hi : ops[i]? = some o) (hg : Region.wanted o (yielded ops a.tmps) = true) (ho : o.op = .call { callee := .builtin .append, args := #[s, x], argTypes := #[42, 42] }) (hs : a.eval s = nilS) (hx : a.eval x = vx)
    {es : List (List Int)} (hr : Rts w vx es) (hl : es.length * 16 ≤ 140737488351232)
    (h : ∀ v' w', Txs w' w.heap.size v' es → Below w.heap.size w w' → K (a.put o.dst v') w') : wpOp Try.prog ops Q i K a w := by
  refine wpOp_step hi fun K' hK => ?_
  rw [if_pos hg]
  exact wp_txs0 ho hs hx hr hl fun v' w' h1 h2 => hK _ _ (h v' w' h1 h2)
theorem r_ens (hi : ops[i]? = some o) (hg : Region.wanted o (yielded ops a.tmps) = true) (ho : o.op = .call { callee := .builtin .append, args := #[s, x], argTypes := #[74, 74] }) (hs : a.eval s = nilS) (hx : a.eval x = vx)
    {es : List En} (hr : Rns w vx es) (hl : es.length * 40 ≤ 140737488351232)
    (h : ∀ v' w', Eds w' w.heap.size v' es → Below w.heap.size w w' → K (a.put o.dst v') w') : wpOp Try.prog ops Q i K a w := by
  refine wpOp_step hi fun K' hK => ?_
  rw [if_pos hg]
  exact wp_ens0 ho hs hx hr hl fun v' w' h1 h2 => hK _ _ (h v' w' h1 h2)
theorem v_fcs (hgd : o.guard = none) (ho : o.op = .call { callee := .builtin .append, args := #[s, x], argTypes := #[24, 24] }) (hs : a.eval s = nilS) (hx : a.eval x = vx)
    {L : FL} (hr : Rfs w vx L) (hl : L.length * 80 ≤ 140737488351232)
    (h : ∀ v' w', Fow w' w.heap.size v' L → Below w.heap.size w w' → wpList Try.prog ops Q rest (a.put o.dst v') w') : wpList Try.prog ops Q (o :: rest) a w :=
  wpList_plain hgd fun _ hK' => wp_fcs0 ho hs hx hr hl fun v' w' h1 h2 => hK' _ _ (h v' w' h1 h2)
end
theorem Mm.row {w u : World} {L : List Bk} {fg p : Nat} {x : Value} (h : Mm w u L) (hfg : w.heap.size ≤ fg) (hne : ∀ y ∈ L, y.1 ≠ fg) : Mm w (u.setCell ⟨fg, p, none⟩ x) L :=
  ⟨fun y hy => res_set (h.lies y hy) (hne y hy), h.own, h.ap, h.below.setCell hfg _⟩
theorem fcells_put (D R : FL) (q : Fc × Value × Value) (i : Nat) (u : Value) (hi : i < 6) : (fcells (D ++ q :: R)).set (D.length * 6 + i) u = fcells D ++ ((fcell q).set i u ++ fcells R) := by
  rw [fcells_append, List.set_append_right _ _ (by rw [fcells_length]; omega), fcells_length, Nat.add_sub_cancel_left]
  have e : fcells (q :: R) = fcell q ++ fcells R := rfl
  rw [e, List.set_append_left _ _ (by simpa [fcell] using hi)]
/-- the copy at work: the row, and the lists of the first faces -/
structure Cp (w u : World) (fg n cap : Nat) (M D : FL) : Prop where
  row : u.ownsRow w.heap.size 76 6 (.slice (some ⟨fg, 0, none⟩) n cap) n (fcells M)
  tx : ∀ q ∈ D, Txs u w.heap.size q.2.1 q.1.ex
  en : ∀ q ∈ D, Eds u w.heap.size q.2.2 q.1.en
section
variable {w u v : World} {fg n cap : Nat} {M D R : FL}
theorem Cp.ge (h : Cp w u fg n cap M D) : w.heap.size ≤ fg := own_block h.row fg rfl
theorem Cp.lt (h : Cp w u fg n cap M D) : fg < u.heap.size := by
  obtain ⟨c, fz, h1⟩ := Lib.ownsRow_kind h.row fg rfl
  exact (Array.getElem?_eq_some_iff.1 h1).1
theorem Cp.ne (h : Cp w u fg n cap M D) {X : Nat} {T : TypeId} {l : List Value} (hX : u.heap[X]? = some (bx T l)) (hT : 76 ≠ T) : X ≠ fg := fun q => box_ne h.row hX hT (by rw [q]; rfl)
theorem Cp.below (h : Cp w u fg n cap M D) (hb : Below u.heap.size u v) : Cp w v fg n cap M D := ⟨own_below h.row hb, fun q hq => own_below (h.tx q hq) hb, fun q hq => own_below (h.en q hq) hb⟩
theorem Cp.drew (h : Cp w u fg n cap M D) : Cp w u.drew fg n cap M D := ⟨h.row, h.tx, h.en⟩
theorem Cp.cell (h : Cp w u fg n cap M D) (j : Nat) (hj : j < n * 6) : (∃ x, u.cell? ⟨fg, j, none⟩ = some x) ∧ u.frozen? ⟨fg, j, none⟩ = false := own_cell h.row j hj
theorem Cp.keepT (h : Cp w u fg n cap M D) {p : Nat} {x y : Value} {ps : List (List Int)} (ht : Txs u w.heap.size y ps) : Txs (u.setCell ⟨fg, p, none⟩ x) w.heap.size y ps :=
  ownsRow_setCell_other ht (fun q => by
    rcases kind_ne ht h.row (by decide) with r | r
    · rw [q] at r; cases r
    · exact r q) x
theorem Cp.keepE (h : Cp w u fg n cap M D) {p : Nat} {x y : Value} {ps : List En} (ht : Eds u w.heap.size y ps) : Eds (u.setCell ⟨fg, p, none⟩ x) w.heap.size y ps :=
  ownsRow_setCell_other ht (fun q => by
    rcases kind_ne ht h.row (by decide) with r | r
    · rw [q] at r; cases r
    · exact r q) x
theorem Cp.put4 {f : Fc} {ve vd x : Value} (h : Cp w u fg n cap (D ++ (f, ve, vd) :: R) D) {k : Nat} (hk : D.length = k) : Cp w (u.setCell ⟨fg, k * 6 + 4, none⟩ x) fg n cap (D ++ (f, x, vd) :: R) D := by
  refine ⟨?_, fun q hq => h.keepT (h.tx q hq), fun q hq => h.keepE (h.en q hq)⟩
  have h1 := (World.ownsRow.stored h.row (k * 6 + 4) x).1
  rw [← hk, fcells_put D R (f, ve, vd) 4 x (by omega)] at h1
  rw [← hk, fcells_append]
  exact h1
theorem Cp.put5 {f : Fc} {ve vd x : Value} (h : Cp w u fg n cap (D ++ (f, ve, vd) :: R) D) {k : Nat} (hk : D.length = k) : Cp w (u.setCell ⟨fg, k * 6 + 5, none⟩ x) fg n cap (D ++ (f, ve, x) :: R) D := by
  refine ⟨?_, fun q hq => h.keepT (h.tx q hq), fun q hq => h.keepE (h.en q hq)⟩
  have h1 := (World.ownsRow.stored h.row (k * 6 + 5) x).1
  rw [← hk, fcells_put D R (f, ve, vd) 5 x (by omega)] at h1
  rw [← hk, fcells_append]
  exact h1
end
theorem ex_st {o : Oper} {a : Act} {W : World} {t : TypeId} {x y : Operand} (ho : o.op = .store t x y) {v z : Value} (ht : One t v) {p : Addr} (hx : a.eval x = .pointer (some p)) (hy : a.eval y = v) (hc : W.cell? p = some z) (hf : W.frozen? p = false) {u : World} (hu : W.setCell p v = u) :
    (execOp a.eval o).run Try.prog W = .ok .skip u := by
  subst hu
  have hs := ht.st W p z hc hf
  unfold execOp
  simp only [ho, hx, hy, Sem.run_bind, hs, Result.andThen_ok, Sem.run_pure]
theorem fcl_vs (f : Fc) (a b : Option Addr) (n m c d : Nat) : Vs (fcl f (.slice a n c) (.slice b m d)) 6 := ⟨rfl, fun v hv => by simp only [fcl, List.mem_cons, List.not_mem_nil, or_false] at hv; rcases hv with rfl | rfl | rfl | rfl | rfl | rfl <;> rfl⟩
end Go.Proofs.Ytonheibhbilhhaa.greet
