/- topo: nodes behind nodes; slices.Clone of nodes. -/
import Derived.Test.YtemlafdmeaobfabTopK
namespace Go.Proofs.Ytemlafdmeaobfab.topo
open Go Go.RowKit Go.Proofs.Ytemlafdmeaobfab.route
set_option linter.unusedVariables false
set_option linter.unusedSimpArgs false
set_option maxRecDepth 100000

theorem rt_one {w : World} {v : Value} {L : NL} (h : Rt w v L) : ∀ q ∈ L, q.1.oneCell' = true := fun q hq => ris_one (h.all q hq)
/-- nodes behind nodes -/
theorem wpList_nodes {ops : Array Oper} {rest : List Oper} {o : Oper} {a : Act} {Q : Exit → Act → World → Prop} (w : World) (hgd : o.guard = none) (s x : Operand)
    (ho : o.op = .call { callee := .builtin .append, args := #[s, x], argTypes := #[22, 22] }) (B : Nat) (v : Value) (acc : NL) (hs : a.eval s = v) (h : Ow w B v acc)
    (vx : Value) (es : NL) (hx : a.eval x = vx) (hr : Rt w vx es) (hl : (acc.length + es.length) * 48 ≤ 140737488384000) (hB : B ≤ w.heap.size)
    (hK : ∀ v' w', Ow w' B v' (acc ++ es) → Below B w w' → w.grownBy w' v.ownBlock → wpList Try.prog ops Q rest (a.put o.dst v') w') : wpList Try.prog ops Q (o :: rest) a w := by
  refine wpList_plain hgd fun K hK' => ?_
  obtain ⟨i0, hi, hz0, hz1, hz2⟩ := info_parts' infoN
  obtain ⟨ax, cx, rfl, h1, h2, h4⟩ := hr.row
  cases ax with
  | none =>
    have h0 : es.length = 0 := by
      rcases Nat.eq_zero_or_pos es.length with q | q
      · exact q
      · obtain ⟨g, off, q1, _⟩ := h4 q; cases q1
    have hes : es = [] := List.eq_nil_of_length_eq_zero h0
    subst hes
    have hrun := run_append_nothing (P := Try.prog) (w := w) B 22 o.type 25 i0 4 Try.underlying22 hi v acc.length (ncs acc) h cx
    simp only [List.length_nil] at hx
    have hk := hK' _ _ (hK v w (by rw [List.append_nil]; exact h) (Below.refl _ _) ⟨rfl, rfl, rfl, Nat.le_refl _, fun _ _ _ => rfl⟩)
    unfold Oper.wp
    simp [execOp, ho, resolve, invoke, builtin, hs, hx, hrun, Result.andThen]
    exact hk
  | some ad =>
    refine wp_append_own_wide w s x 22 ho B 25 i0 _ 4 48 Try.underlying22 hi hz0 hz1 hz2 rfl (by omega) v acc.length (ncs acc) hs h ad es.length cx (ncs es) hx (by rw [ncs_length]) ?_ (ncs_one (rt_one hr)) (by unfold maxLen; omega) (by omega) hB ?_
    · intro j u hj
      have hlt := (List.getElem?_eq_some_iff.1 hj).1
      rw [ncs_length] at hlt
      obtain ⟨g, off, q1, hg, hc⟩ := h4 (by omega)
      injection q1 with q1
      subst q1
      rw [Addr.add_lit]
      exact hc j _ hj
    · intro v' w' h1 h2 _
      refine hK' _ _ (hK v' w' ?_ ((Below.refl _ _).grown h2 hB (own_block h)) h2)
      unfold Ow
      rw [List.length_append, ncs_append]
      exact h1
theorem cloneN_any (v : Value) (es : NL) (w : World) (h : Rt w v es) (hl : es.length * 48 ≤ 140737488384000) :
    Calls Try.prog 13 #[v] w fun e w' => ∃ v', e = .returned v' ∧ Ow w' w.heap.size v' es ∧ Below w.heap.size w w' := by
  have HR : Hid (Rt w v es) := h
  obtain ⟨ax, cx, rfl, h1, h2, h4⟩ := h.row
  have HN : Hid (ax = none → es = []) := fun q => by
    subst q
    rcases Nat.eq_zero_or_pos es.length with q | q
    · exact List.eq_nil_of_length_eq_zero q
    · obtain ⟨g, off, q1, _⟩ := h4 q; cases q1
  obtain ⟨n, hn⟩ : ∃ n, es.length = n := ⟨_, rfl⟩
  rw [hn] at HR hl ⊢
  have HE : Hid (es.length = n) := hn
  clear h h1 h2 h4 hn
  cases ax with
  | none =>
    have hes := HN.out rfl
    subst hes
    have hnl := fun (w : World) => Lib.run_eql_slice_nil (P := Try.prog) w 22 25 none n cx 0 0 Try.underlying22
    clear HR HN HE
    go_enter Try.func13, Try.ntmps13
    go_wp2
    go_ret
    exact ⟨_, rfl, Ow.nil _ _, Below.refl _ _⟩
  | some ad =>
    have hnl := fun (w : World) => Lib.run_eql_slice_nil (P := Try.prog) w 22 25 (some ad) n cx 0 0 Try.underlying22
    have HL : Hid (n * 48 ≤ 140737488384000) := hl
    clear HN hl
    go_enter Try.func13, Try.ntmps13
    go_wp2_with
      (at_builtin
       refine wpList_nodes _ rfl _ _ rfl w.heap.size _ [] rfl (World.ownsRow_made w #[] 0 (Nat.le_refl _) (Nat.zero_le _) rfl) _ es rfl (HR.out.below (balloc _ _)) (by have := HE.out; have := HL.out; simp; omega) (by simp) ?_
       intro v' w' q1 q3 _
       have t1 : Hid (Ow w' w.heap.size v' es) := q1
       have t2 : Hid (Below w.heap.size w w') := ((Below.refl _ _).alloc (Nat.le_refl _) _).trans q3
       clear q1 q3)
    go_wp2
    go_ret
    exact ⟨_, rfl, t1.out, t2.out⟩
end Go.Proofs.Ytemlafdmeaobfab.topo
