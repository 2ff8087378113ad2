/- plugref: what slices.Clone of ends answers; ends behind ends. -/
import Derived.Test.YtonheibhbilhhaaZBd
import Derived.WalkLawsBesides
namespace Go.Proofs.Ytonheibhbilhhaa.desc
open Go.RowKit Go.PlainAid Go.Proofs.Ytonheibhbilhhaa.lane
set_option linter.unusedVariables false
set_option linter.unusedSimpArgs false
set_option maxRecDepth 100000

theorem run_append_nothing {P : Program} {w : World} (base : Nat) (t ty e : TypeId) (i : TypeInfo) (size : Nat) (ht : P.underlying t = some (.slice e)) (hi : P.info? e = some i)
    (v : Value) (n : Nat) (xs : List Value) (hown : w.ownsRow base e size v n xs) (c : Nat) : (Builtin.append_ #[t, t] ty #[v, .slice none 0 c]).run P w = .ok v w := by
  rcases hown.2 with ⟨rfl, rfl⟩ | ⟨g, cap, cur, rfl, _, _, hnc, _⟩
  · simp [Builtin.append_, run_underlying ht, sizeOf, typeInfo, hi, Builtin.lenOf, Builtin.firstCells]
  · simp [Builtin.append_, run_underlying ht, sizeOf, typeInfo, hi, Builtin.lenOf, Builtin.firstCells, hnc, storeCells]
theorem ecells_one (es : List En) : ∀ u ∈ ecells es, u.oneCell' = true := by
  intro u hu
  obtain ⟨e, _, hu⟩ := List.mem_flatMap.1 hu
  simp only [ecell, List.mem_cons, List.not_mem_nil, or_false] at hu
  rcases hu with rfl | rfl | rfl | rfl | rfl <;> rfl
/-- ends behind ends -/
theorem wp_eds {o : Oper} {a : Act} {w : World} {K : Act → World → Prop} {Q : Exit → Act → World → Prop} (s x : Operand)
    (ho : o.op = .call { callee := .builtin .append, args := #[s, x], argTypes := #[74, 74] }) (B : Nat) (v : Value) (acc : List En) (hs : a.eval s = v) (h : Eds w B v acc)
    (vx : Value) (es : List En) (hx : a.eval x = vx) (hr : Rns w vx es) (hl : acc.length + es.length ≤ 3518437208780) (hB : B ≤ w.heap.size)
    (hK : ∀ v' w', Eds w' B v' (acc ++ es) → w.grownBy w' v.ownBlock → Below B w w' → K (a.put o.dst v') w') : o.wp Try.prog a w K Q := by
  obtain ⟨i0, hi, hz0, hz1, hz2⟩ := info_parts infoE
  obtain ⟨ax, cx, rfl, h1, h2, h3, h4⟩ := hr
  cases ax with
  | none =>
    have h0 : es.length = 0 := by
      rcases Nat.eq_zero_or_pos es.length with q | q
      · exact q
      · obtain ⟨g, off, q1, _⟩ := h4 q; cases q1
    have hes : es = [] := List.eq_nil_of_length_eq_zero h0
    subst hes
    have hrun := run_append_nothing (P := Try.prog) (w := w) B 74 o.type 85 i0 5 Try.underlying74 hi v acc.length (ecells acc) h cx
    simp only [List.length_nil] at hx
    have hk := hK v w (by rw [List.append_nil]; exact h) (World.grownBy.refl _ _) (Below.refl _ _)
    unfold Oper.wp
    simp [execOp, ho, resolve, invoke, builtin, hs, hx, hrun, Result.andThen]
    exact hk
  | some ad =>
    refine wp_append_own w s x 74 ho B 85 i0 _ 5 40 Try.underlying74 hi hz0 hz1 hz2 rfl (by omega) v acc.length (ecells acc) hs h ad es.length cx (ecells es) hx (ecells_length es) ?_ (ecells_one es) (by unfold maxLen; omega) (by omega) hB ?_
    · intro j u hj
      have hlt := (List.getElem?_eq_some_iff.1 hj).1
      rw [ecells_length] at hlt
      obtain ⟨g, off, q1, hg, hc⟩ := h4 (by omega)
      injection q1 with q1
      subst q1
      rw [Addr.add_lit]; exact hc j u hj
    · intro v' w' h1 h2 _
      refine hK v' w' ?_ h2 ((Below.refl _ _).grown h2 hB (own_block h))
      unfold Eds
      rw [List.length_append, ecells_append]
      exact h1
theorem wpList_eds {ops : Array Oper} {rest : List Oper} {o : Oper} {a : Act} {Q : Exit → Act → World → Prop} (w : World) (hgd : o.guard = none) (s x : Operand)
    (ho : o.op = .call { callee := .builtin .append, args := #[s, x], argTypes := #[74, 74] }) (B : Nat) (v : Value) (acc : List En) (hs : a.eval s = v) (h : Eds w B v acc)
    (vx : Value) (es : List En) (hx : a.eval x = vx) (hr : Rns w vx es) (hl : acc.length + es.length ≤ 3518437208780) (hB : B ≤ w.heap.size)
    (hK : ∀ v' w', Eds w' B v' (acc ++ es) → w.grownBy w' v.ownBlock → Below B w w' → wpList Try.prog ops Q rest (a.put o.dst v') w') : wpList Try.prog ops Q (o :: rest) a w :=
  wpList_plain hgd fun _ hK' => wp_eds s x ho B v acc hs h vx es hx hr hl hB fun v' w' h1 h2 h3 => hK' _ _ (hK v' w' h1 h2 h3)
theorem step_eds {ops : Array Oper} {o : Oper} {a : Act} {w : World} {K : Act → World → Prop} {Q : Exit → Act → World → Prop} {E : Prop} (hgd : o.guard = none) (s x : Operand)
    (ho : o.op = .call { callee := .builtin .append, args := #[s, x], argTypes := #[74, 74] }) (B : Nat) (v : Value) (acc : List En) (hs : a.eval s = v) (h : Eds w B v acc)
    (vx : Value) (es : List En) (hx : a.eval x = vx) (hr : Rns w vx es) (hl : acc.length + es.length ≤ 3518437208780) (hB : B ≤ w.heap.size)
    (hK : ∀ v' w', Eds w' B v' (acc ++ es) → w.grownBy w' v.ownBlock → Below B w w' → K (a.put o.dst v') w') : if Region.wanted o (yielded ops a.tmps) = true then Oper.wp Try.prog o a w K Q else E := by
  rw [if_pos (by simp [Region.wanted, hgd])]
  exact wp_eds s x ho B v acc hs h vx es hx hr hl hB hK
theorem Eds.empty (w : World) : Eds (w.alloc (.cells #[] 85)) w.heap.size (.slice (some ⟨w.heap.size, 0, none⟩) 0 0) [] :=
  World.ownsRow_made w #[] 0 (Nat.le_refl _) (Nat.zero_le _) rfl
theorem Eds.rns {w : World} {B : Nat} {v : Value} {es : List En} (h : Eds w B v es) : Rns w v es := Rdg.of h
theorem cloneE_any (v : Value) (es : List En) (w : World) (h : Rns w v es) (hl : es.length ≤ 3518437208780) :
    Calls Try.prog 112 #[v] w fun e w' => ∃ v', e = .returned v' ∧ Eds w' w.heap.size v' es ∧ Below w.heap.size w w' := by
  have HR : Hid (Rns w v es) := h
  obtain ⟨ax, cx, rfl, h1, h2, h3, h4⟩ := h
  have HN : Hid (ax = none → es = []) := fun q => by
    subst q
    rcases Nat.eq_zero_or_pos es.length with q | q
    · exact List.eq_nil_of_length_eq_zero q
    · obtain ⟨g, off, q1, _⟩ := h4 q; cases q1
  obtain ⟨n, hn⟩ : ∃ n, es.length = n := ⟨_, rfl⟩
  rw [hn] at HR hl ⊢
  have HE : Hid (es.length = n) := hn
  clear h1 h2 h3 h4 hn
  cases ax with
  | none =>
    have hes := HN.out rfl
    subst hes
    have hnl := fun (w : World) => Lib.run_eql_slice_nil (P := Try.prog) w 74 85 none n cx 0 0 Try.underlying74
    clear HR HN HE
    go_enter Try.func112, Try.ntmps112
    go_wp2
    go_ret
    exact ⟨_, rfl, Eds.nil _ _, Below.refl _ _⟩
  | some ad =>
    have hnl := fun (w : World) => Lib.run_eql_slice_nil (P := Try.prog) w 74 85 (some ad) n cx 0 0 Try.underlying74
    clear HN
    go_enter Try.func112, Try.ntmps112
    go_wp2_with
      (at_builtin
       refine wpList_eds _ rfl _ _ rfl w.heap.size _ [] rfl (Eds.empty w) _ es rfl (HR.out.below (balloc _ _)) (by have := HE.out; simp; omega) (by simp) ?_
       intro v' w' q1 q2 q3
       have t1 : Hid (Eds w' w.heap.size v' es) := q1
       have t2 : Hid (Below w.heap.size w w') := ((Below.refl _ _).alloc (Nat.le_refl _) _).trans q3
       clear q1 q2 q3)
    go_wp2
    go_ret
    exact ⟨_, rfl, t1.out, t2.out⟩
end Go.Proofs.Ytonheibhbilhhaa.desc
