/- budget: slices.Clone of numbers and of berths. -/
import Derived.Test.YtcenaleladjakabBudV
import Derived.Deep.DeepAppendWide
import Derived.Lib.SliceRun
namespace Go.Proofs.Ytcenaleladjakab.budget
open Go Go.RowKit
set_option linter.unusedVariables false
set_option linter.unusedSimpArgs false
set_option maxRecDepth 100000

theorem icells_one (l : List Int) : ∀ u ∈ icells l, u.oneCell' = true := by
  intro u hu
  obtain ⟨p, _, rfl⟩ := List.mem_map.1 hu
  rfl
theorem run_append_nothing {P : Program} {w : World} (base : Nat) (t ty e : TypeId) (i : TypeInfo) (size : Nat) (ht : P.underlying t = some (.slice e)) (hi : P.info? e = some i)
    (v : Value) (n : Nat) (xs : List Value) (hown : w.ownsRow base e size v n xs) (c : Nat) : (Builtin.append_ #[t, t] ty #[v, .slice none 0 c]).run P w = .ok v w := by
  rcases hown.2 with ⟨rfl, rfl⟩ | ⟨g, cap, cur, rfl, _, _, hnc, _⟩
  · simp [Builtin.append_, run_underlying ht, sizeOf, typeInfo, hi, Builtin.lenOf, Builtin.firstCells]
  · simp [Builtin.append_, run_underlying ht, sizeOf, typeInfo, hi, Builtin.lenOf, Builtin.firstCells, hnc, storeCells]
/-- numbers behind numbers -/
theorem wpList_ints {ops : Array Oper} {rest : List Oper} {o : Oper} {a : Act} {Q : Exit → Act → World → Prop} (w : World) (hgd : o.guard = none) (s x : Operand)
    (ho : o.op = .call { callee := .builtin .append, args := #[s, x], argTypes := #[22, 22] }) (B : Nat) (v : Value) (acc : List Int) (hs : a.eval s = v) (h : Iw w B v acc)
    (vx : Value) (es : List Int) (hx : a.eval x = vx) (hr : Ris w vx es) (hl : acc.length + es.length ≤ 17592186048000) (hB : B ≤ w.heap.size)
    (hK : ∀ v' w', Iw w' B v' (acc ++ es) → Below B w w' → wpList Try.prog ops Q rest (a.put o.dst v') w') : wpList Try.prog ops Q (o :: rest) a w := by
  refine wpList_plain hgd fun K hK' => ?_
  obtain ⟨i0, hi, hz0, hz1, hz2⟩ := info_parts' infoI
  obtain ⟨ax, cx, rfl, h1, h2, h4⟩ := hr
  cases ax with
  | none =>
    have h0 : es.length = 0 := by
      rcases Nat.eq_zero_or_pos es.length with q | q
      · exact q
      · obtain ⟨g, off, q1, _⟩ := h4 q; cases q1
    have hes : es = [] := List.eq_nil_of_length_eq_zero h0
    subst hes
    have hrun := run_append_nothing (P := Try.prog) (w := w) B 22 o.type 3 i0 1 Try.underlying22 hi v acc.length (icells acc) h cx
    simp only [List.length_nil] at hx
    have hk := hK' _ _ (hK v w (by rw [List.append_nil]; exact h) (Below.refl _ _))
    unfold Oper.wp
    simp [execOp, ho, resolve, invoke, builtin, hs, hx, hrun, Result.andThen]
    exact hk
  | some ad =>
    refine wp_append_own_wide w s x 22 ho B 3 i0 _ 1 8 Try.underlying22 hi hz0 hz1 hz2 rfl (by omega) v acc.length (icells acc) hs h ad es.length cx (icells es) hx (by rw [icells_length]; omega) ?_ (icells_one es) (by unfold maxLen; omega) (by omega) hB ?_
    · intro j u hj
      have hlt := (List.getElem?_eq_some_iff.1 hj).1
      rw [icells_length] at hlt
      obtain ⟨g, off, q1, hg, hc⟩ := h4 (by omega)
      injection q1 with q1
      subst q1
      rw [Addr.add_lit]
      have hu : u = .int .i64 es[j] := by
        rw [icells_at (List.getElem?_eq_getElem hlt)] at hj
        injection hj with hj
        exact hj.symm
      rw [hu]
      exact hc j _ (List.getElem?_eq_getElem hlt)
    · intro v' w' h1 h2 _
      refine hK' _ _ (hK v' w' ?_ ((Below.refl _ _).grown h2 hB (own_block h)))
      unfold Iw
      rw [List.length_append, show icells (acc ++ es) = icells acc ++ icells es by simp [icells]]
      exact h1
theorem cloneI_any (v : Value) (es : List Int) (w : World) (h : Ris w v es) (hl : es.length ≤ 17592186048000) :
    Calls Try.prog 8 #[v] w fun e w' => ∃ v', e = .returned v' ∧ Iw w' w.heap.size v' es ∧ Below w.heap.size w w' := by
  have HR : Hid (Ris w v es) := h
  obtain ⟨ax, cx, rfl, h1, h2, h4⟩ := h
  have HN : Hid (ax = none → es = []) := fun q => by
    subst q
    rcases Nat.eq_zero_or_pos es.length with q | q
    · exact List.eq_nil_of_length_eq_zero q
    · obtain ⟨g, off, q1, _⟩ := h4 q; cases q1
  obtain ⟨n, hn⟩ : ∃ n, es.length = n := ⟨_, rfl⟩
  rw [hn] at HR hl ⊢
  have HE : Hid (es.length = n) := hn
  clear h1 h2 h4 hn
  cases ax with
  | none =>
    have hes := HN.out rfl
    subst hes
    have hnl := fun (w : World) => Lib.run_eql_slice_nil (P := Try.prog) w 22 3 none n cx 0 0 Try.underlying22
    clear HR HN HE
    go_enter Try.func8, Try.ntmps8
    go_wp2
    go_ret
    exact ⟨_, rfl, Iw.nil _ _, Below.refl _ _⟩
  | some ad =>
    have hnl := fun (w : World) => Lib.run_eql_slice_nil (P := Try.prog) w 22 3 (some ad) n cx 0 0 Try.underlying22
    clear HN
    go_enter Try.func8, Try.ntmps8
    go_wp2_with
      (at_builtin
       refine wpList_ints _ rfl _ _ rfl w.heap.size _ [] rfl (World.ownsRow_made w #[] 0 (Nat.le_refl _) (Nat.zero_le _) rfl) _ es rfl (HR.out.below (balloc _ _)) (by have := HE.out; simp; omega) (by simp) ?_
       intro v' w' q1 q3
       have t1 : Hid (Iw w' w.heap.size v' es) := q1
       have t2 : Hid (Below w.heap.size w w') := ((Below.refl _ _).alloc (Nat.le_refl _) _).trans q3
       clear q1 q3)
    go_wp2
    go_ret
    exact ⟨_, rfl, t1.out, t2.out⟩
theorem infoB : (Try.prog.info? 33).map (fun i => (i.zero, i.size, i.bytes)) = some (some (agv (ivs [0, 0])), 2, 16) := by kernel_rfl
/-- the value v owns these berths, in a block from B on -/
def Bo (w : World) (B : Nat) (v : Value) (T : List Bi) : Prop := w.ownsRow B 33 2 v T.length (icells (bfl T))
theorem Bo.nil (w : World) (B : Nat) : Bo w B (.slice none 0 0) [] := ⟨rfl, .inl ⟨rfl, rfl⟩⟩
theorem Bo.below {w u : World} {B : Nat} {v : Value} {l : List Bi} (h : Bo w B v l) (hb : Below w.heap.size w u) : Bo u B v l := by
  cases hv : v.ownBlock with
  | none => exact World.ownsRow.kept h (grown_below hb) (.inl hv)
  | some k => exact World.ownsRow.kept h (grown_below hb) (.inr (by rw [hv]; simp))
theorem Bo.rbs {w : World} {B : Nat} {v : Value} {l : List Bi} (h : Bo w B v l) : Rbs w v l := by
  have h' := h
  rcases h.2 with ⟨rfl, h0⟩ | ⟨g, cap, cur, rfl, hB, hg, hnc, hcm, hs, ht⟩
  · exact ⟨none, 0, by rw [h0], by omega, Nat.zero_le _, fun q => by omega⟩
  · refine ⟨_, cap, rfl, hnc, hcm, fun _ => ⟨g, 0, rfl, (Array.getElem?_eq_some_iff.1 hg).1, fun j x hx => ?_⟩⟩
    have hj := (List.getElem?_eq_some_iff.1 hx).1
    rw [bfl_len] at hj
    rw [Nat.zero_add, World.ownsRow.cellAt h' j (by omega)]
    exact icells_at hx
/-- numbers behind numbers -/
theorem wpList_berths {ops : Array Oper} {rest : List Oper} {o : Oper} {a : Act} {Q : Exit → Act → World → Prop} (w : World) (hgd : o.guard = none) (s x : Operand)
    (ho : o.op = .call { callee := .builtin .append, args := #[s, x], argTypes := #[23, 23] }) (B : Nat) (v : Value) (acc : List Bi) (hs : a.eval s = v) (h : Bo w B v acc)
    (vx : Value) (es : List Bi) (hx : a.eval x = vx) (hr : Rbs w vx es) (hl : acc.length + es.length ≤ 1000) (hB : B ≤ w.heap.size)
    (hK : ∀ v' w', Bo w' B v' (acc ++ es) → Below B w w' → wpList Try.prog ops Q rest (a.put o.dst v') w') : wpList Try.prog ops Q (o :: rest) a w := by
  refine wpList_plain hgd fun K hK' => ?_
  obtain ⟨i0, hi, hz0, hz1, hz2⟩ := info_parts' infoB
  obtain ⟨ax, cx, rfl, h1, h2, h4⟩ := hr
  cases ax with
  | none =>
    have h0 : es.length = 0 := by
      rcases Nat.eq_zero_or_pos es.length with q | q
      · exact q
      · obtain ⟨g, off, q1, _⟩ := h4 q; cases q1
    have hes : es = [] := List.eq_nil_of_length_eq_zero h0
    subst hes
    have hrun := run_append_nothing (P := Try.prog) (w := w) B 23 o.type 33 i0 2 Try.underlying23 hi v acc.length (icells (bfl acc)) h cx
    simp only [List.length_nil] at hx
    have hk := hK' _ _ (hK v w (by rw [List.append_nil]; exact h) (Below.refl _ _))
    unfold Oper.wp
    simp [execOp, ho, resolve, invoke, builtin, hs, hx, hrun, Result.andThen]
    exact hk
  | some ad =>
    refine wp_append_own_wide w s x 23 ho B 33 i0 _ 2 16 Try.underlying23 hi hz0 hz1 hz2 rfl (by omega) v acc.length (icells (bfl acc)) hs h ad es.length cx (icells (bfl es)) hx (by rw [icells_length, bfl_len]) ?_ (icells_one (bfl es)) (by unfold maxLen; omega) (by omega) hB ?_
    · intro j u hj
      have hlt := (List.getElem?_eq_some_iff.1 hj).1
      rw [icells_length] at hlt
      have hlt2 := hlt
      rw [bfl_len] at hlt2
      obtain ⟨g, off, q1, hg, hc⟩ := h4 (by omega)
      injection q1 with q1
      subst q1
      rw [Addr.add_lit]
      have hu : u = .int .i64 (bfl es)[j] := by
        rw [icells_at (List.getElem?_eq_getElem hlt)] at hj
        injection hj with hj
        exact hj.symm
      rw [hu]
      exact hc j _ (List.getElem?_eq_getElem hlt)
    · intro v' w' h1 h2 _
      refine hK' _ _ (hK v' w' ?_ ((Below.refl _ _).grown h2 hB (own_block h)))
      unfold Bo
      rw [List.length_append, show icells (bfl (acc ++ es)) = icells (bfl acc) ++ icells (bfl es) by simp [icells, bfl]]
      exact h1
theorem cloneB_any (v : Value) (es : List Bi) (w : World) (h : Rbs w v es) (hl : es.length ≤ 1000) :
    Calls Try.prog 9 #[v] w fun e w' => ∃ v', e = .returned v' ∧ Bo w' w.heap.size v' es ∧ Below w.heap.size w w' := by
  have HR : Hid (Rbs w v es) := h
  obtain ⟨ax, cx, rfl, h1, h2, h4⟩ := h
  have HN : Hid (ax = none → es = []) := fun q => by
    subst q
    rcases Nat.eq_zero_or_pos es.length with q | q
    · exact List.eq_nil_of_length_eq_zero q
    · obtain ⟨g, off, q1, _⟩ := h4 q; cases q1
  obtain ⟨n, hn⟩ : ∃ n, es.length = n := ⟨_, rfl⟩
  rw [hn] at HR hl ⊢
  have HE : Hid (es.length = n) := hn
  clear h1 h2 h4 hn
  cases ax with
  | none =>
    have hes := HN.out rfl
    subst hes
    have hnl := fun (w : World) => Lib.run_eql_slice_nil (P := Try.prog) w 23 33 none n cx 0 0 Try.underlying23
    clear HR HN HE
    go_enter Try.func9, Try.ntmps9
    go_wp2
    go_ret
    exact ⟨_, rfl, Bo.nil _ _, Below.refl _ _⟩
  | some ad =>
    have hnl := fun (w : World) => Lib.run_eql_slice_nil (P := Try.prog) w 23 33 (some ad) n cx 0 0 Try.underlying23
    clear HN
    go_enter Try.func9, Try.ntmps9
    go_wp2_with
      (at_builtin
       refine wpList_berths _ rfl _ _ rfl w.heap.size _ [] rfl (World.ownsRow_made w #[] 0 (Nat.le_refl _) (Nat.zero_le _) rfl) _ es rfl (HR.out.below (balloc _ _)) (by have := HE.out; simp; omega) (by simp) ?_
       intro v' w' q1 q3
       have t1 : Hid (Bo w' w.heap.size v' es) := q1
       have t2 : Hid (Below w.heap.size w w') := ((Below.refl _ _).alloc (Nat.le_refl _) _).trans q3
       clear q1 q3)
    go_wp2
    go_ret
    exact ⟨_, rfl, t1.out, t2.out⟩
end Go.Proofs.Ytcenaleladjakab.budget
