/- rows of numbers of the call's own: clone, append; a part of a slice of numbers. -/
import Derived.Test.YtgnffifohdgekacPipL
import Derived.Deep.DeepAppendWide
namespace Go.Proofs.Ytgnffifohdgekac.strike
open Go.RowKit Go.Proofs.Ytgnffifohdgekac.pipe
set_option linter.unusedVariables false
set_option linter.unusedSimpArgs false
set_option maxRecDepth 100000

theorem infoI : (Try.prog.info? 3).map (fun i => (i.zero, i.size, i.bytes)) = some (some (.int .i64 0), 1, 8) := by kernel_rfl
def icells (l : List Int) : List Value := l.map (Value.int .i64)
theorem icells_length (l : List Int) : (icells l).length = l.length := List.length_map ..
theorem icells_at {l : List Int} {j : Nat} {x : Int} (h : l[j]? = some x) : (icells l)[j]? = some (.int .i64 x) := by simp [icells, h]
theorem icells_one (l : List Int) : ∀ u ∈ icells l, u.oneCell' = true := by
  intro u hu
  obtain ⟨p, _, rfl⟩ := List.mem_map.1 hu
  rfl
/-- the value v owns these numbers, in a block from B on -/
def Ixs (w : World) (B : Nat) (v : Value) (l : List Int) : Prop := w.ownsRow B 3 1 v l.length (icells l)
theorem Ixs.nil (w : World) (B : Nat) : Ixs w B (.slice none 0 0) [] := ⟨rfl, .inl ⟨rfl, rfl⟩⟩
theorem Ixs.below {w u : World} {B : Nat} {v : Value} {l : List Int} (h : Ixs w B v l) (hb : Below w.heap.size w u) : Ixs u B v l := own_below h hb
theorem Ixs.ris {w : World} {B : Nat} {v : Value} {l : List Int} (h : Ixs w B v l) : Ris w v l := by
  have h' := h
  rcases h.2 with ⟨rfl, h0⟩ | ⟨g, cap, cur, rfl, hB, hg, hnc, hcm, hs, ht⟩
  · exact ⟨none, 0, by rw [h0], by omega, Nat.zero_le _, fun q => by omega⟩
  · refine ⟨_, cap, rfl, hnc, hcm, fun _ => ⟨g, 0, rfl, (Array.getElem?_eq_some_iff.1 hg).1, fun j x hx => ?_⟩⟩
    have hj := (List.getElem?_eq_some_iff.1 hx).1
    rw [Nat.zero_add, World.ownsRow.cellAt h' j (by omega)]
    exact icells_at hx
/-- numbers behind numbers -/
theorem wpList_ints {ops : Array Oper} {rest : List Oper} {o : Oper} {a : Act} {Q : Exit → Act → World → Prop} (w : World) (hgd : o.guard = none) (s x : Operand)
    (ho : o.op = .call { callee := .builtin .append, args := #[s, x], argTypes := #[22, 22] }) (B : Nat) (v : Value) (acc : List Int) (hs : a.eval s = v) (h : Ixs w B v acc)
    (vx : Value) (es : List Int) (hx : a.eval x = vx) (hr : Ris w vx es) (hl : acc.length + es.length ≤ 17592186048000) (hB : B ≤ w.heap.size)
    (hK : ∀ v' w', Ixs w' B v' (acc ++ es) → Below B w w' → wpList Try.prog ops Q rest (a.put o.dst v') w') : wpList Try.prog ops Q (o :: rest) a w := by
  refine wpList_plain hgd fun K hK' => ?_
  obtain ⟨i0, hi, hz0, hz1, hz2⟩ := info_parts infoI
  obtain ⟨ax, cx, rfl, h1, h2, h4⟩ := hr
  cases ax with
  | none =>
    have h0 : es.length = 0 := by
      rcases Nat.eq_zero_or_pos es.length with q | q
      · exact q
      · obtain ⟨g, off, q1, _⟩ := h4 q; cases q1
    have hes : es = [] := List.eq_nil_of_length_eq_zero h0
    subst hes
    have hrun := pipe.run_append_nothing (P := Try.prog) (w := w) B 22 o.type 3 i0 1 Try.underlying22 hi v acc.length (icells acc) h cx
    simp only [List.length_nil] at hx
    have hk := hK' _ _ (hK v w (by rw [List.append_nil]; exact h) (Below.refl _ _))
    unfold Oper.wp
    simp [execOp, ho, resolve, invoke, builtin, hs, hx, hrun, Result.andThen]
    exact hk
  | some ad =>
    refine wp_append_own_wide w s x 22 ho B 3 i0 _ 1 8 Try.underlying22 hi hz0 hz1 hz2 rfl (by omega) v acc.length (icells acc) hs h ad es.length cx (icells es) hx (by rw [icells_length]; omega) ?_ (icells_one es) (by unfold maxLen; omega) (by omega) hB ?_
    · intro j u hj
      have hlt := (List.getElem?_eq_some_iff.1 hj).1
      rw [icells_length] at hlt
      obtain ⟨g, off, q1, hg, hc⟩ := h4 (by omega)
      injection q1 with q1
      subst q1
      rw [Addr.add_lit]
      have hu : u = .int .i64 es[j] := by
        rw [icells_at (List.getElem?_eq_getElem hlt)] at hj
        injection hj with hj
        exact hj.symm
      rw [hu]
      exact hc j _ (List.getElem?_eq_getElem hlt)
    · intro v' w' h1 h2 _
      refine hK' _ _ (hK v' w' ?_ ((Below.refl _ _).grown h2 hB (own_block h)))
      unfold Ixs
      rw [List.length_append, show icells (acc ++ es) = icells acc ++ icells es by simp [icells]]
      exact h1
theorem cloneI_any (v : Value) (es : List Int) (w : World) (h : Ris w v es) (hl : es.length ≤ 17592186048000) :
    Calls Try.prog 7 #[v] w fun e w' => ∃ v', e = .returned v' ∧ Ixs w' w.heap.size v' es ∧ Below w.heap.size w w' := by
  have HR : Hid (Ris w v es) := h
  obtain ⟨ax, cx, rfl, h1, h2, h4⟩ := h
  have HN : Hid (ax = none → es = []) := fun q => by
    subst q
    rcases Nat.eq_zero_or_pos es.length with q | q
    · exact List.eq_nil_of_length_eq_zero q
    · obtain ⟨g, off, q1, _⟩ := h4 q; cases q1
  obtain ⟨n, hn⟩ : ∃ n, es.length = n := ⟨_, rfl⟩
  rw [hn] at HR hl ⊢
  have HE : Hid (es.length = n) := hn
  clear h1 h2 h4 hn
  cases ax with
  | none =>
    have hes := HN.out rfl
    subst hes
    have hnl := fun (w : World) => Lib.run_eql_slice_nil (P := Try.prog) w 22 3 none n cx 0 0 Try.underlying22
    clear HR HN HE
    go_enter Try.func7, Try.ntmps7
    go_wp2
    go_ret
    exact ⟨_, rfl, Ixs.nil _ _, Below.refl _ _⟩
  | some ad =>
    have hnl := fun (w : World) => Lib.run_eql_slice_nil (P := Try.prog) w 22 3 (some ad) n cx 0 0 Try.underlying22
    clear HN
    go_enter Try.func7, Try.ntmps7
    go_wp2_with
      (at_builtin
       refine wpList_ints _ rfl _ _ rfl w.heap.size _ [] rfl (World.ownsRow_made w #[] 0 (Nat.le_refl _) (Nat.zero_le _) rfl) _ es rfl (HR.out.below (balloc _ _)) (by have := HE.out; simp; omega) (by simp) ?_
       intro v' w' q1 q3
       have t1 : Hid (Ixs w' w.heap.size v' es) := q1
       have t2 : Hid (Below w.heap.size w w') := ((Below.refl _ _).alloc (Nat.le_refl _) _).trans q3
       clear q1 q3)
    go_wp2
    go_ret
    exact ⟨_, rfl, t1.out, t2.out⟩
theorem Ris.upto {w : World} {a : Option Addr} {n c : Nat} {T : List Int} (h : Ris w (.slice a n c) T) (k : Nat) (hk : k ≤ n) :
    (∀ W : World, (Instr.slice 22 (.slice a n c) none (some (.int .i64 (k : Int))) none).run Try.prog W = .ok (.slice a k c) W) ∧ Ris w (.slice a k c) (T.take k) := by
  obtain ⟨a', c', hv, h1, h2, h4⟩ := h
  injection hv with e1 e2 e3
  subst e1 e2 e3
  have hl : (T.take k).length = k := by rw [List.length_take, Nat.min_eq_left hk]
  refine ⟨fun W => ?_, a, c, by rw [hl], by omega, h2, fun hn => ?_⟩
  · have := run_slice_h (P := Try.prog) (w := W) 22 a T.length c Try.underlying22 .i64 (k : Int) (by omega) (by omega)
    simp [this, go_sem, sliced, Addr.add]
    try (intro _; cases a <;> simp [Addr.add])
  · obtain ⟨g, off, rfl, hg, hc⟩ := h4 (by omega)
    refine ⟨g, off, rfl, hg, fun j x hx => hc j x ?_⟩
    have hj := (List.getElem?_eq_some_iff.1 hx).1
    rw [List.getElem?_take, if_pos (by omega)] at hx
    exact hx
end Go.Proofs.Ytgnffifohdgekac.strike
