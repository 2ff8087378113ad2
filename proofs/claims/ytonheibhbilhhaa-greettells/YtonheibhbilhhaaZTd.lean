/- plugref: what slices.Clone of ends answers; ends behind ends. -/
import Derived.Test.YtonheibhbilhhaaZBd
import Derived.WalkLawsBesides
import Derived.Test.YtonheibhbilhhaaZAc
import Derived.Test.YtonheibhbilhhaaShelf
import Derived.Test.YtonheibhbilhhaaZTb
import Derived.Test.YtonheibhbilhhaaZAf
import Derived.Test.YtonheibhbilhhaaDescZ
namespace Go.Proofs.Ytonheibhbilhhaa.desc
open Go.RowKit Go.PlainAid Go.Proofs.Ytonheibhbilhhaa.lane
set_option linter.unusedVariables false
set_option linter.unusedSimpArgs false
set_option maxRecDepth 100000

theorem run_append_nothing {P : Program} {w : World} (base : Nat) (t ty e : TypeId) (i : TypeInfo) (size : Nat) (ht : P.underlying t = some (.slice e)) (hi : P.info? e = some i)
    (v : Value) (n : Nat) (xs : List Value) (hown : w.ownsRow base e size v n xs) (c : Nat) : (Builtin.append_ #[t, t] ty #[v, .slice none 0 c]).run P w = .ok v w := by
  rcases hown.2 with ⟨rfl, rfl⟩ | ⟨g, cap, cur, rfl, _, _, hnc, _⟩
  · simp [Builtin.append_, run_underlying ht, sizeOf, typeInfo, hi, Builtin.lenOf, Builtin.firstCells]
  · simp [Builtin.append_, run_underlying ht, sizeOf, typeInfo, hi, Builtin.lenOf, Builtin.firstCells, hnc, storeCells]
theorem ecells_one (es : List En) : ∀ u ∈ ecells es, u.oneCell' = true := by
  intro u hu
  obtain ⟨e, _, hu⟩ := List.mem_flatMap.1 hu
  simp only [ecell, List.mem_cons, List.not_mem_nil, or_false] at hu
  rcases hu with rfl | rfl | rfl | rfl | rfl <;> rfl
/-- ends behind ends -/
theorem wp_eds {o : Oper} {a : Act} {w : World} {K : Act → World → Prop} {Q : Exit → Act → World → Prop} (s x : Operand)
    (ho : o.op = .call { callee := .builtin .append, args := #[s, x], argTypes := #[74, 74] }) (B : Nat) (v : Value) (acc : List En) (hs : a.eval s = v) (h : Eds w B v acc)
    (vx : Value) (es : List En) (hx : a.eval x = vx) (hr : Rns w vx es) (hl : acc.length + es.length ≤ 3518437208780) (hB : B ≤ w.heap.size)
    (hK : ∀ v' w', Eds w' B v' (acc ++ es) → w.grownBy w' v.ownBlock → Below B w w' → K (a.put o.dst v') w') : o.wp Try.prog a w K Q := by
  obtain ⟨i0, hi, hz0, hz1, hz2⟩ := info_parts infoE
  obtain ⟨ax, cx, rfl, h1, h2, h3, h4⟩ := hr
  cases ax with
  | none =>
    have h0 : es.length = 0 := by
      rcases Nat.eq_zero_or_pos es.length with q | q
      · exact q
      · obtain ⟨g, off, q1, _⟩ := h4 q; cases q1
    have hes : es = [] := List.eq_nil_of_length_eq_zero h0
    subst hes
    have hrun := run_append_nothing (P := Try.prog) (w := w) B 74 o.type 85 i0 5 Try.underlying74 hi v acc.length (ecells acc) h cx
    simp only [List.length_nil] at hx
    have hk := hK v w (by rw [List.append_nil]; exact h) (World.grownBy.refl _ _) (Below.refl _ _)
    unfold Oper.wp
    simp [execOp, ho, resolve, invoke, builtin, hs, hx, hrun, Result.andThen]
    exact hk
  | some ad =>
    refine wp_append_own w s x 74 ho B 85 i0 _ 5 40 Try.underlying74 hi hz0 hz1 hz2 rfl (by omega) v acc.length (ecells acc) hs h ad es.length cx (ecells es) hx (ecells_length es) ?_ (ecells_one es) (by unfold maxLen; omega) (by omega) hB ?_
    · intro j u hj
      have hlt := (List.getElem?_eq_some_iff.1 hj).1
      rw [ecells_length] at hlt
      obtain ⟨g, off, q1, hg, hc⟩ := h4 (by omega)
      injection q1 with q1
      subst q1
      rw [Addr.add_lit]; exact hc j u hj
    · intro v' w' h1 h2 _
      refine hK v' w' ?_ h2 ((Below.refl _ _).grown h2 hB (own_block h))
      unfold Eds
      rw [List.length_append, ecells_append]
      exact h1
theorem wpList_eds {ops : Array Oper} {rest : List Oper} {o : Oper} {a : Act} {Q : Exit → Act → World → Prop} (w : World) (hgd : o.guard = none) (s x : Operand)
    (ho : o.op = .call { callee := .builtin .append, args := #[s, x], argTypes := #[74, 74] }) (B : Nat) (v : Value) (acc : List En) (hs : a.eval s = v) (h : Eds w B v acc)
    (vx : Value) (es : List En) (hx : a.eval x = vx) (hr : Rns w vx es) (hl : acc.length + es.length ≤ 3518437208780) (hB : B ≤ w.heap.size)
    (hK : ∀ v' w', Eds w' B v' (acc ++ es) → w.grownBy w' v.ownBlock → Below B w w' → wpList Try.prog ops Q rest (a.put o.dst v') w') : wpList Try.prog ops Q (o :: rest) a w :=
  wpList_plain hgd fun _ hK' => wp_eds s x ho B v acc hs h vx es hx hr hl hB fun v' w' h1 h2 h3 => hK' _ _ (hK v' w' h1 h2 h3)
theorem step_eds {ops : Array Oper} {o : Oper} {a : Act} {w : World} {K : Act → World → Prop} {Q : Exit → Act → World → Prop} {E : Prop} (hgd : o.guard = none) (s x : Operand)
    (ho : o.op = .call { callee := .builtin .append, args := #[s, x], argTypes := #[74, 74] }) (B : Nat) (v : Value) (acc : List En) (hs : a.eval s = v) (h : Eds w B v acc)
    (vx : Value) (es : List En) (hx : a.eval x = vx) (hr : Rns w vx es) (hl : acc.length + es.length ≤ 3518437208780) (hB : B ≤ w.heap.size)
    (hK : ∀ v' w', Eds w' B v' (acc ++ es) → w.grownBy w' v.ownBlock → Below B w w' → K (a.put o.dst v') w') : if Region.wanted o (yielded ops a.tmps) = true then Oper.wp Try.prog o a w K Q else E := by
  rw [if_pos (by simp [Region.wanted, hgd])]
  exact wp_eds s x ho B v acc hs h vx es hx hr hl hB hK
theorem Eds.empty (w : World) : Eds (w.alloc (.cells #[] 85)) w.heap.size (.slice (some ⟨w.heap.size, 0, none⟩) 0 0) [] :=
  World.ownsRow_made w #[] 0 (Nat.le_refl _) (Nat.zero_le _) rfl
theorem Eds.rns {w : World} {B : Nat} {v : Value} {es : List En} (h : Eds w B v es) : Rns w v es := Rdg.of h
theorem cloneE_any (v : Value) (es : List En) (w : World) (h : Rns w v es) (hl : es.length ≤ 3518437208780) :
    Calls Try.prog 112 #[v] w fun e w' => ∃ v', e = .returned v' ∧ Eds w' w.heap.size v' es ∧ Below w.heap.size w w' := by
  have HR : Hid (Rns w v es) := h
  obtain ⟨ax, cx, rfl, h1, h2, h3, h4⟩ := h
  have HN : Hid (ax = none → es = []) := fun q => by
    subst q
    rcases Nat.eq_zero_or_pos es.length with q | q
    · exact List.eq_nil_of_length_eq_zero q
    · obtain ⟨g, off, q1, _⟩ := h4 q; cases q1
  obtain ⟨n, hn⟩ : ∃ n, es.length = n := ⟨_, rfl⟩
  rw [hn] at HR hl ⊢
  have HE : Hid (es.length = n) := hn
  clear h1 h2 h3 h4 hn
  cases ax with
  | none =>
    have hes := HN.out rfl
    subst hes
    have hnl := fun (w : World) => Lib.run_eql_slice_nil (P := Try.prog) w 74 85 none n cx 0 0 Try.underlying74
    clear HR HN HE
    go_enter Try.func112, Try.ntmps112
    go_wp2
    go_ret
    exact ⟨_, rfl, Eds.nil _ _, Below.refl _ _⟩
  | some ad =>
    have hnl := fun (w : World) => Lib.run_eql_slice_nil (P := Try.prog) w 74 85 (some ad) n cx 0 0 Try.underlying74
    clear HN
    go_enter Try.func112, Try.ntmps112
    go_wp2_with
      (at_builtin
       refine wpList_eds _ rfl _ _ rfl w.heap.size _ [] rfl (Eds.empty w) _ es rfl (HR.out.below (balloc _ _)) (by have := HE.out; simp; omega) (by simp) ?_
       intro v' w' q1 q2 q3
       have t1 : Hid (Eds w' w.heap.size v' es) := q1
       have t2 : Hid (Below w.heap.size w w') := ((Below.refl _ _).alloc (Nat.le_refl _) _).trans q3
       clear q1 q2 q3)
    go_wp2
    go_ret
    exact ⟨_, rfl, t1.out, t2.out⟩
end Go.Proofs.Ytonheibhbilhhaa.desc

/- desc: texts joined. -/
namespace Go.Proofs.Ytonheibhbilhhaa.desc
open Go.RowKit Go.PlainAid Go.Proofs.Ytonheibhbilhhaa.lane
set_option linter.unusedVariables false

theorem join_none (a : Option Addr) (c : Nat) (w : World) : Calls Try.prog 96 #[.slice a 0 c, .string ⟨#[]⟩] w fun e w' => e = .returned (.string ⟨#[]⟩) ∧ Below w.heap.size w w' := by
  go_enter Try.func96, Try.ntmps96
  go_wp2
  go_ret
  exact ⟨rfl, Below.refl _ _⟩
theorem join_flat (xs : List (List Int)) : Lib.join ((xs.map strOfNums).map (·.data.toList)) (⟨#[]⟩ : ByteArray).data.toList = (strOfNums xs.flatten).data.toList := by
  have e : ∀ ys : List (List UInt8), Lib.join ys [] = ys.flatten := by
    intro ys
    cases ys with
    | nil => rfl
    | cons y r => rw [Lib.join_cons]; simp [Lib.joinTail]
  show Lib.join ((xs.map strOfNums).map (·.data.toList)) [] = _
  rw [e]
  induction xs with
  | nil => rfl
  | cons x r ih =>
    rw [List.map_cons, List.map_cons, List.flatten_cons, ih, List.flatten_cons, str_append, ByteArray.data_append, Array.toList_append]
set_option maxHeartbeats 400000 in
theorem join_any (v : Value) (ps : List (List Int)) (w : World) (h : Rts w v ps) (hl : ps.flatten.length ≤ 140737488355328) (hn : ps.length ≤ 140737488355328) :
    Calls Try.prog 96 #[v, .string ⟨#[]⟩] w fun e w' => e = .returned (.string (strOfNums ps.flatten)) ∧ Below w.heap.size w w' := by
  obtain ⟨a, c, rfl, h1, h2, h3, h4⟩ := h
  have key : ∀ g off, g < w.heap.size → (∀ j x, (tcells ps)[j]? = some x → w.cell? ⟨g, off + j, none⟩ = some x) →
      Calls Try.prog 96 #[.slice (some ⟨g, off, none⟩) ps.length c, .string ⟨#[]⟩] w fun e w' => e = .returned (.string (strOfNums ps.flatten)) ∧ Below w.heap.size w w' := by
    intro g off hg hc
    have := Try.strings_Join g off c (ps.map strOfNums) ⟨#[]⟩ w (fun j x hx => by
      refine hc j (.string x) ?_
      rw [List.getElem?_map] at hx
      simp only [tcells, List.getElem?_map]
      cases hp : ps[j]? with
      | none => rw [hp] at hx; cases hx
      | some p => rw [hp] at hx; simp at hx; simp [hx]) hg (by rw [List.length_map]; exact hn) (by rw [List.length_map]; exact h1) (by rw [join_flat, Array.length_toList]; have := str_size ps.flatten; show (strOfNums ps.flatten).size ≤ _; omega)
    rw [List.length_map, join_flat] at this
    exact this
  by_cases hz : 0 < ps.length
  · obtain ⟨g, off, rfl, hg, hc⟩ := h4 hz
    exact key g off hg hc
  · have : ps = [] := List.eq_nil_of_length_eq_zero (by omega)
    subst this
    exact join_none a c w
end Go.Proofs.Ytonheibhbilhhaa.desc

/- plugref: what faceError answers. -/
namespace Go.Proofs.Ytonheibhbilhhaa.desc
open Go.RowKit Go.PlainAid Go.Proofs.Ytonheibhbilhhaa.lane
set_option linter.unusedVariables false
set_option linter.unusedSimpArgs false
set_option maxRecDepth 100000

theorem Rns.take {w : World} {a : Option Addr} {n c : Nat} {es : List En} (k : Nat) (hk : k ≤ es.length) (h : Rns w (.slice a n c) es) : Rns w (.slice a k c) (es.take k) := by
  obtain ⟨a', c', e, h1, h2, h3, h4⟩ := h
  injection e with e1 e2 e3
  subst e1 e3
  have hl : (es.take k).length = k := by rw [List.length_take]; omega
  refine ⟨a, c, by rw [hl], by omega, h2, by rw [ecells_length], fun hn => ?_⟩
  obtain ⟨g, off, q1, q2, q3⟩ := h4 (by omega)
  refine ⟨g, off, q1, q2, fun j x hx => q3 j x ?_⟩
  have e : es = es.take k ++ es.drop k := (List.take_append_drop k es).symm
  rw [e, ecells_append, List.getElem?_append_left (List.getElem?_eq_some_iff.1 hx).1]
  exact hx
theorem Rts.at {w : World} {a : Option Addr} {n c : Nat} {ps : List (List Int)} (h : Rts w (.slice a n c) ps) : ∀ j p, ps[j]? = some p → ∃ g off, a = some ⟨g, off, none⟩ ∧ w.cell? ⟨g, off + j, none⟩ = some (.string (strOfNums p)) := by
  obtain ⟨a', c', e, _, _, h4⟩ := h.cell
  injection e with e1 e2 e3
  subst e1
  exact h4
theorem Rns.at {w : World} {a : Option Addr} {n c : Nat} {es : List En} (h : Rns w (.slice a n c) es) : ∀ j e, es[j]? = some e → ∃ g off, a = some ⟨g, off, none⟩ ∧ w.cell? ⟨g, off + j * 5, none⟩ = some (.int .i64 e.ad) ∧ w.cell? ⟨g, off + j * 5 + 1, none⟩ = some (.bool e.inw) ∧ w.cell? ⟨g, off + j * 5 + 2, none⟩ = some (.int .i64 e.kd) ∧ w.cell? ⟨g, off + j * 5 + 3, none⟩ = some (.int .i64 e.mx) ∧ w.cell? ⟨g, off + j * 5 + 4, none⟩ = some (.int .i64 e.iv) := by
  obtain ⟨a', c', e, _, _, h4⟩ := h.cell
  injection e with e1 e2 e3
  subst e1
  exact h4
theorem way_in (l : List En) (e : En) : (l.map wayOf).contains (wayOf e) = true ↔ ∃ x ∈ l, x.ad = e.ad ∧ x.inw = e.inw := by
  rw [List.contains_iff_mem, List.mem_map]
  constructor
  · rintro ⟨x, hx, h⟩
    simp only [wayOf, Prod.mk.injEq] at h
    exact ⟨x, hx, h⟩
  · rintro ⟨x, hx, h1, h2⟩
    exact ⟨x, hx, by simp only [wayOf, h1, h2]⟩
theorem exOk_parts (x : List Int) (hx : Byt x) (h2 : 2 ≤ x.length) (h32 : x.length ≤ 32) : exOk x = ((bt (strOfNums x) 0 == ((strOfNums x).size : Int)) && !decide (bt (strOfNums x) 1 ≤ 5)) := by
  rw [getD_bt x hx 0 (by omega), getD_bt x hx 1 (by omega), str_size]
  unfold exOk
  rw [decide_eq_true h2, decide_eq_true h32]
  simp only [Bool.true_and]
  congr 1
  rw [Bool.eq_iff_iff]
  simp
  omega
abbrev evO (e : En) : Obj := .cells #[.int .i64 e.ad, .bool e.inw, .int .i64 e.kd, .int .i64 e.mx, .int .i64 e.iv] 85
theorem evC {u w0 : World} (e : En) (hu : w0.alloc (evO e) = u) : u.heap[w0.heap.size]? = some (evO e) := by rw [← hu]; exact (MapKept.heap_alloc w0 _).1
theorem evB {u : World} {X : Nat} {e : En} (h : u.heap[X]? = some (evO e)) : X < u.heap.size ∧ u.cell? ⟨X, 0, none⟩ = some (.int .i64 e.ad) ∧ u.cell? ⟨X, 1, none⟩ = some (.bool e.inw) ∧ u.cell? ⟨X, 2, none⟩ = some (.int .i64 e.kd) ∧ u.cell? ⟨X, 3, none⟩ = some (.int .i64 e.mx) ∧ u.cell? ⟨X, 4, none⟩ = some (.int .i64 e.iv) := by
  refine ⟨(Array.getElem?_eq_some_iff.1 h).1, ?_, ?_, ?_, ?_, ?_⟩ <;> (rw [cell_of_row u X _ _ _ (0, 0) h]; rfl)
/-- what a face's cells hold, in every later world -/
structure FcC (u : World) (B : Nat) (f : Fc) (ve vd : Value) : Prop where
  c0 : u.cell? ⟨B, 0, none⟩ = some (.int .i64 f.cl)
  c1 : u.cell? ⟨B, 1, none⟩ = some (.int .i64 f.su)
  c2 : u.cell? ⟨B, 2, none⟩ = some (.int .i64 f.pr)
  c3 : u.cell? ⟨B, 3, none⟩ = some (.int .i64 f.nm)
  c4 : u.cell? ⟨B, 4, none⟩ = some ve
  c5 : u.cell? ⟨B, 5, none⟩ = some vd
  ex : Rts u ve f.ex
  en : Rns u vd f.en
set_option maxHeartbeats 8000000 in
theorem faceError_any (q : Fc × Value × Value) (va : Value) (ah : List En) (w : World) (hf : Rf w q) (ha : Rns w va ah) (hl : ah.length ≤ 1000) :
    Calls Try.prog 95 #[fcV q.1 q.2.1 q.2.2, va] w fun e w' => e = .returned (.int .i64 (chkF (ah.map wayOf) q.1)) ∧ Below w.heap.size w w' := by
  obtain ⟨⟨cl, su, pr, nm, ex, en⟩, ve, vd⟩ := q
  obtain ⟨hfx, hfn, hfb, hfz⟩ := hf
  simp only at hfx hfn hfb hfz ⊢
  have HBW : Hid (∀ (n l m : Int) (w : World), Calls Try.prog 9 #[.int .i64 n, .int .i64 l, .int .i64 m] w fun e w' => e = .returned (.bool (decide (l ≤ n) && decide (n ≤ m))) ∧ w = w') := between_any
  obtain ⟨w0, hw0⟩ : ∃ w0, w.alloc (.cells #[.int .i64 cl, .int .i64 su, .int .i64 pr, .int .i64 nm, ve, vd] 76) = w0 := ⟨_, rfl⟩
  have hb0 : Below w.heap.size w w0 := by rw [← hw0]; exact balloc _ _
  have hF0 : w0.heap[w.heap.size]? = some (.cells #[.int .i64 cl, .int .i64 su, .int .i64 pr, .int .i64 nm, ve, vd] 76) := by rw [← hw0]; exact (MapKept.heap_alloc w _).1
  have HX : Hid (∀ u, Below w0.heap.size w0 u → FcC u w.heap.size ⟨cl, su, pr, nm, ex, en⟩ ve vd) := fun u hu => by
    obtain ⟨x0, x1, x2, x3, x4, x5⟩ := box6r (res_below hF0 hu)
    exact ⟨x0, x1, x2, x3, x4, x5, hfx.below (bsq hb0 hu), hfn.below (bsq hb0 hu)⟩
  have HAH : Hid (∀ u, Below w0.heap.size w0 u → Rns u va ah) := fun u hu => ha.below (bsq hb0 hu)
  have HB0 : Hid (Below w.heap.size w w0) := hb0
  obtain ⟨w1, hw1⟩ : ∃ w1, w0.alloc (.cells #[.int .i64 cl, .int .i64 su, .int .i64 pr, .int .i64 nm] 3) = w1 := ⟨_, rfl⟩
  have hb1 : Below w0.heap.size w0 w1 := by rw [← hw1]; exact balloc _ _
  have HO1 : Hid (Calls Try.prog 94 #[.slice (some ⟨w0.heap.size, 0, none⟩) 4 4] w1 fun e w' => e = .returned (.tuple #[.string (bof [cl, su, pr, nm]), .bool (allB 255 [cl, su, pr, nm])]) ∧ Below w1.heap.size w1 w') := by
    rw [← hw1]
    exact bytesOf_any _ [cl, su, pr, nm] _ (Rig.new w0 [cl, su, pr, nm] 3 (by simp [maxLen])) (by simp)
  have HB1 : Hid (Below w0.heap.size w0 w1) := hb1
  have HFB : Hid (∀ x ∈ ex, Byt x ∧ x.length ≤ maxLen) := fun x hx => ⟨hfb x hx, hfz x hx⟩
  obtain ⟨z, hz⟩ : ∃ z, chkF (ah.map wayOf) ⟨cl, su, pr, nm, ex, en⟩ = z := ⟨_, rfl⟩
  have HZ : Hid ((if allB 255 [cl, su, pr, nm] = false then 1 else if 2 < ex.length then 2 else if ex.all exOk = false then 1 else if 4 < en.length then 2 else chkE (ah.map wayOf) en) = z) := by
    show _ = _
    rw [← hz]; unfold chkF; rw [headF_is]
  rw [hz]
  generalize bof [cl, su, pr, nm] = bo at *
  generalize allB 255 [cl, su, pr, nm] = ok at *
  obtain ⟨ax, cx, rfl, hlx, hcx, _⟩ := hfx.cell
  obtain ⟨an, cn, rfl, hln, hcn, _⟩ := hfn.cell
  obtain ⟨aa, ca, rfl, hla, hca, _⟩ := ha.cell
  unfold maxLen at hcx hcn hca
  obtain ⟨f0, f1, f2, f3, f4, f5, _, _⟩ := HX.out w0 (Below.refl _ _)
  simp only at f0 f1 f2 f3 f4 f5
  obtain ⟨nx, hnx⟩ : ∃ n, ex.length = n := ⟨_, rfl⟩
  obtain ⟨nd, hnd⟩ : ∃ n, en.length = n := ⟨_, rfl⟩
  obtain ⟨na, hna⟩ : ∃ n, ah.length = n := ⟨_, rfl⟩
  have HNX : Hid (ex.length = nx) := hnx
  have HND : Hid (en.length = nd) := hnd
  have HNA : Hid (ah.length = na) := hna
  rw [hnx, hnd] at HX HZ
  rw [hna] at HAH hl hla
  rw [hnx] at hlx f4
  rw [hnd] at hln f5
  rw [hnx, hnd] at hw0
  rw [hnx, hnd, hna]
  clear hfx hfn hfb hfz ha hb0 hb1 hF0 hz hnx hnd hna
  go_enter Try.func95, Try.ntmps95
  go_wp2_with fail
  refine HO1.out.mono ?_
  rintro e wa ⟨rfl, hba⟩
  have HBa : Hid (Below w0.heap.size w0 wa) := bsq HB1.out hba
  have HBa' : Hid (Below w.heap.size w wa) := bsq HB0.out HBa.out
  clear hba f0 f1 f2 f3 f4 f5
  obtain ⟨f0, f1, f2, f3, f4, f5, hEx, hEn⟩ := HX.out wa HBa.out
  simp only at f0 f1 f2 f3 f4 f5
  have HEx : Hid (Rts wa (.slice ax nx cx) ex) := hEx
  clear hEx hEn HO1 HB1 hw1 hw0
  cases ok
  · have HR : Hid (1 = z) := by have := HZ.out; rw [if_pos rfl] at this; exact this
    go_wp2
    go_ret
    rw [HR.out]
    exact ⟨rfl, HBa'.out⟩
  rw [if_neg (by simp)] at HZ
  by_cases hx2 : 2 < nx
  · have HR : Hid (2 = z) := by have := HZ.out; rw [if_pos hx2] at this; exact this
    go_wp2
    go_ret
    rw [HR.out]
    exact ⟨rfl, HBa'.out⟩
  rw [if_neg hx2] at HZ
  go_wp2
  go_loop [35] (fun i => ∃ k : Nat, k ≤ nx ∧ i = .int .i64 (k : Int) ∧ Hid ((ex.drop k).all exOk = ex.all exOk)) (fun i => nx - (intOf i).toNat)
  case atStart => exact ⟨0, Nat.zero_le _, rfl, rfl⟩
  case round =>
    obtain ⟨k, hk, rfl, HR⟩ := hrel
    by_cases hlt : k < nx
    · have hk1 : k < ex.length := by have := HNX.out; omega
      obtain ⟨x, hx⟩ : ∃ x, ex[k]? = some x := ⟨ex[k], List.getElem?_eq_getElem hk1⟩
      obtain ⟨g, off, rfl, c1⟩ := HEx.out.at k x hx
      obtain ⟨hxb, hxm⟩ := HFB.out x (List.mem_of_getElem? hx)
      have hR := HR.out
      rw [all_drop ex k x hx] at hR
      have hbt := get_bt (strOfNums x)
      have b0 := bt_le (strOfNums x) 0
      have b1 := bt_nonneg (strOfNums x) 0
      have hsz := str_size x
      have HB2 : Hid (∀ w : World, Calls Try.prog 9 #[.int .i64 ((strOfNums x).size : Int), .int .i64 2, .int .i64 32] w fun e w' => e = .returned (.bool (decide (2 ≤ ((strOfNums x).size : Int)) && decide (((strOfNums x).size : Int) ≤ 32))) ∧ w = w') := fun w => HBW.out _ _ _ w
      unfold maxLen at hxm
      by_cases hin : 2 ≤ x.length ∧ x.length ≤ 32
      · have hep := exOk_parts x hxb hin.1 hin.2
        rw [hep] at hR
        rw [← hsz] at hin hxm
        generalize strOfNums x = t at *
        rw [decide_eq_true (show (2 : Int) ≤ (t.size : Int) by omega), decide_eq_true (show (t.size : Int) ≤ 32 by omega)] at HB2
        obtain ⟨hin1, hin2⟩ := hin
        clear hx hxb hep hsz
        by_cases h4 : bt t 0 = (t.size : Int)
        · have e1 : (bt t 0 == (t.size : Int)) = true := by simpa using h4
          have e1' : (bt t 0 != (t.size : Int)) = false := by simpa using h4
          by_cases h5 : bt t 1 ≤ 5
          · rw [e1, decide_eq_true h5] at hR
            have HH : Hid (1 = z) := by have := HZ.out; rw [← hR, if_pos (by simp)] at this; exact this
            clear hR HR h4 e1
            go_wp2_with fail
            refine (HB2.out _).mono ?_
            rintro e w2 ⟨rfl, rfl⟩
            go_wp2
            go_ret
            rw [HH.out]
            exact ⟨rfl, HBa'.out⟩
          · rw [e1, decide_eq_false h5] at hR
            have HH : Hid ((ex.drop (k + 1)).all exOk = ex.all exOk) := by show _ = _; rw [← hR]; simp
            clear hR HR h4 e1
            go_wp2_with fail
            refine (HB2.out _).mono ?_
            rintro e w2 ⟨rfl, rfl⟩
            go_wp2
            go_round
            case rel => exact ⟨k + 1, by omega, by go_num, HH⟩
            case measure => simp [intOf]; omega
        · have e1 : (bt t 0 == (t.size : Int)) = false := by simpa using h4
          have e1' : (bt t 0 != (t.size : Int)) = true := by simpa using h4
          rw [e1] at hR
          have HH : Hid (1 = z) := by have := HZ.out; rw [← hR, if_pos (by simp)] at this; exact this
          clear hR HR h4 e1
          go_wp2_with fail
          refine (HB2.out _).mono ?_
          rintro e w2 ⟨rfl, rfl⟩
          go_wp2
          go_ret
          rw [HH.out]
          exact ⟨rfl, HBa'.out⟩
      · have hno : exOk x = false := by
          cases h : exOk x
          · rfl
          · exact absurd ((exOk_iff x).1 h).1 hin
        rw [hno, Bool.false_and] at hR
        have HH : Hid (1 = z) := by have := HZ.out; rw [← hR, if_pos rfl] at this; exact this
        have hdd : (decide (2 ≤ ((strOfNums x).size : Int)) && decide (((strOfNums x).size : Int) ≤ 32)) = false := by
          rw [hsz]
          rw [Bool.and_eq_false_iff, decide_eq_false_iff_not, decide_eq_false_iff_not]
          omega
        rw [hdd] at HB2
        rw [← hsz] at hxm
        generalize strOfNums x = t at *
        clear hR HR hx hxb hin hsz hdd
        go_wp2_with fail
        refine (HB2.out _).mono ?_
        rintro e w2 ⟨rfl, rfl⟩
        go_wp2
        go_ret
        rw [HH.out]
        exact ⟨rfl, HBa'.out⟩
    · have hR := HR.out
      rw [List.drop_eq_nil_of_le (by have := HNX.out; omega)] at hR
      have hA : ex.all exOk = true := hR.symm
      rw [hA, if_neg (by simp)] at HZ
      clear HR hR hA HFB HEx
      by_cases hn4 : 4 < nd
      · have HH : Hid (2 = z) := by have := HZ.out; rw [if_pos hn4] at this; exact this
        go_wp2
        go_ret
        rw [HH.out]
        exact ⟨rfl, HBa'.out⟩
      rw [if_neg hn4] at HZ
      go_wp2
      go_loopw [64] (fun i wr => ∃ k : Nat, k ≤ nd ∧ i = .int .i64 (k : Int) ∧ Below w0.heap.size w0 wr ∧ Hid (chkE (ah.map wayOf ++ (en.take k).map wayOf) (en.drop k) = z)) (fun i _ => nd - (intOf i).toNat)
      case atStart => exact ⟨0, Nat.zero_le _, rfl, HBa.out, by show _ = _; simpa using HZ.out⟩
      case round =>
        obtain ⟨k, hk, rfl, hbr, HR⟩ := hrel
        obtain ⟨wo, rfl⟩ : ∃ wo, wo = wr := ⟨_, rfl⟩
        by_cases hlt : k < nd
        · have hk1 : k < en.length := by have := HND.out; omega
          obtain ⟨e, he⟩ : ∃ e, en[k]? = some e := ⟨en[k], List.getElem?_eq_getElem hk1⟩
          have hFr := HX.out wo hbr
          obtain ⟨g, off, rfl, c0, c1, c2, c3, c4⟩ := hFr.en.at k e he
          have hR := HR.out
          rw [List.drop_eq_getElem_cons hk1, (List.getElem?_eq_some_iff.1 he).2] at hR
          have htw := take_way (ah.map wayOf) en k e he
          obtain ⟨w2, hw2⟩ : ∃ w2, wo.alloc (evO e) = w2 := ⟨_, rfl⟩
          have hb2 : Below wo.heap.size wo w2 := by rw [← hw2]; exact balloc _ _
          have hE2 := evC e hw2
          obtain ⟨hz2, e0, e1, e2, e3, e4⟩ := evB hE2
          have HE2 : Hid (w2.heap[wo.heap.size]? = some (evO e)) := hE2
          have HB2 : Hid (Below w0.heap.size w0 w2) := bsq hbr hb2
          have HB2' : Hid (Below w.heap.size w w2) := bsq HB0.out HB2.out
          have hok : endOk e = ((decide (1 ≤ e.ad) && decide (e.ad ≤ 15)) && ((decide (0 ≤ e.kd) && decide (e.kd ≤ 3)) && ((decide (1 ≤ e.mx) && decide (e.mx ≤ 64)) && (decide (0 ≤ e.iv) && decide (e.iv ≤ 255))))) := rfl
          have K1 : Hid (∀ w : World, Calls Try.prog 9 #[.int .i64 e.ad, .int .i64 1, .int .i64 15] w fun r w' => r = .returned (.bool (decide (1 ≤ e.ad) && decide (e.ad ≤ 15))) ∧ w = w') := fun w => HBW.out _ _ _ w
          have K2 : Hid (∀ w : World, Calls Try.prog 9 #[.int .i64 e.kd, .int .i64 0, .int .i64 3] w fun r w' => r = .returned (.bool (decide (0 ≤ e.kd) && decide (e.kd ≤ 3))) ∧ w = w') := fun w => HBW.out _ _ _ w
          have K3 : Hid (∀ w : World, Calls Try.prog 9 #[.int .i64 e.mx, .int .i64 1, .int .i64 64] w fun r w' => r = .returned (.bool (decide (1 ≤ e.mx) && decide (e.mx ≤ 64))) ∧ w = w') := fun w => HBW.out _ _ _ w
          have K4 : Hid (∀ w : World, Calls Try.prog 9 #[.int .i64 e.iv, .int .i64 0, .int .i64 255] w fun r w' => r = .returned (.bool (decide (0 ≤ e.iv) && decide (e.iv ≤ 255))) ∧ w = w') := fun w => HBW.out _ _ _ w
          have hbad : endOk e = false → 1 = z := fun h => by rw [chkE_bad h] at hR; exact hR
          have HTW : Hid _ := htw
          have HRR : Hid (endOk e = true → (if (ah.map wayOf ++ (en.take k).map wayOf).contains (wayOf e) = true then 13 else chkE (ah.map wayOf ++ (en.take k).map wayOf ++ [wayOf e]) (en.drop (k + 1))) = z) := fun h => by
            rw [chkE, if_neg (by simp [h])] at hR; exact hR
          have HBAD : Hid _ := hbad
          have HEK : Hid (en[k]? = some e) := he
          rw [hok] at HRR HBAD
          generalize (decide (1 ≤ e.ad) && decide (e.ad ≤ 15)) = b1 at *
          generalize (decide (0 ≤ e.kd) && decide (e.kd ≤ 3)) = b2 at *
          generalize (decide (1 ≤ e.mx) && decide (e.mx ≤ 64)) = b3 at *
          generalize (decide (0 ≤ e.iv) && decide (e.iv ≤ 255)) = b4 at *
          have hf5 := (HX.out w2 HB2.out).c5
          clear hb2 hE2 hFr hR htw HR hok hbad he hbr f0 f1 f2 f3 f4 f5
          cases b1
          · have HH : Hid (1 = z) := HBAD.out (by simp)
            obtain ⟨ad, inw, kd, mx, iv⟩ := e
            simp only at *
            go_wp2_with fail
            refine (K1.out _).mono ?_
            rintro r w3 ⟨rfl, rfl⟩
            go_wp2
            go_ret
            rw [HH.out]
            exact ⟨rfl, HB2'.out⟩
          cases b2
          · have HH : Hid (1 = z) := HBAD.out (by simp)
            obtain ⟨ad, inw, kd, mx, iv⟩ := e
            simp only at *
            go_wp2_with fail
            refine (K1.out _).mono ?_
            rintro r w3 ⟨rfl, rfl⟩
            go_wp2_with fail
            refine (K2.out _).mono ?_
            rintro r w3 ⟨rfl, rfl⟩
            go_wp2
            go_ret
            rw [HH.out]
            exact ⟨rfl, HB2'.out⟩
          cases b3
          · have HH : Hid (1 = z) := HBAD.out (by simp)
            obtain ⟨ad, inw, kd, mx, iv⟩ := e
            simp only at *
            go_wp2_with fail
            refine (K1.out _).mono ?_
            rintro r w3 ⟨rfl, rfl⟩
            go_wp2_with fail
            refine (K2.out _).mono ?_
            rintro r w3 ⟨rfl, rfl⟩
            go_wp2_with fail
            refine (K3.out _).mono ?_
            rintro r w3 ⟨rfl, rfl⟩
            go_wp2
            go_ret
            rw [HH.out]
            exact ⟨rfl, HB2'.out⟩
          cases b4
          · have HH : Hid (1 = z) := HBAD.out (by simp)
            obtain ⟨ad, inw, kd, mx, iv⟩ := e
            simp only at *
            go_wp2_with fail
            refine (K1.out _).mono ?_
            rintro r w3 ⟨rfl, rfl⟩
            go_wp2_with fail
            refine (K2.out _).mono ?_
            rintro r w3 ⟨rfl, rfl⟩
            go_wp2_with fail
            refine (K3.out _).mono ?_
            rintro r w3 ⟨rfl, rfl⟩
            go_wp2_with fail
            refine (K4.out _).mono ?_
            rintro r w3 ⟨rfl, rfl⟩
            go_wp2
            go_ret
            rw [HH.out]
            exact ⟨rfl, HB2'.out⟩
          have HR2 : Hid _ := HRR.out (by simp)
          have HWI : Hid _ := way_in (ah ++ en.take k) e
          rw [List.map_append] at HWI
          obtain ⟨N, hN⟩ : ∃ N, (ah ++ en.take k).length = N := ⟨_, rfl⟩
          have hNv : N = na + k := by rw [← hN, List.length_append, List.length_take, HNA.out]; omega
          have hsl : ∀ W : World, (Instr.slice 74 (.slice (some ⟨g, off, none⟩) nd cn) none (some (.int .i64 (k : Int))) none).run Try.prog W = .ok (.slice (some ⟨g, off, none⟩) k cn) W := fun W => by
            have := run_slice_h (P := Try.prog) (w := W) 74 (some ⟨g, off, none⟩) nd cn Try.underlying74 .i64 (k : Int) (by omega) (by omega)
            simp [this, go_sem, sliced]
          have HTK : Hid (∀ u, Below w0.heap.size w0 u → Rns u (.slice (some ⟨g, off, none⟩) k cn) (en.take k)) := fun u hu => ((HX.out u hu).en).take k (by omega)
          have HCL : Hid (∀ u, Below w0.heap.size w0 u → Calls Try.prog 112 #[.slice aa na ca] u fun e w' => ∃ v', e = .returned v' ∧ Eds w' u.heap.size v' ah ∧ Below u.heap.size u w') := fun u hu => cloneE_any _ ah u (HAH.out u hu) (by have := HNA.out; omega)
          have q1 : w2.drew.cell? ⟨w.heap.size, 5, none⟩ = some (.slice (some ⟨g, off, none⟩) nd cn) := hf5
          have q2 : Hid (Below w0.heap.size w0 w2.drew) := HB2.out.drew
          have q3 : Hid (w2.drew.heap[wo.heap.size]? = some (evO e)) := HE2.out
          have HNN : Hid ((ah ++ en.take k).length = N) := hN
          obtain ⟨ad, inw, kd, mx, iv⟩ := e
          simp only at *
          clear HBAD HRR hN HAH HX
          go_wp2_with fail
          refine (K1.out _).mono ?_
          rintro r w3 ⟨rfl, rfl⟩
          go_wp2_with fail
          refine (K2.out _).mono ?_
          rintro r w3 ⟨rfl, rfl⟩
          go_wp2_with fail
          refine (K3.out _).mono ?_
          rintro r w3 ⟨rfl, rfl⟩
          go_wp2_with fail
          refine (K4.out _).mono ?_
          rintro r w3 ⟨rfl, rfl⟩
          clear K1 K2 K3 K4 e0 e1 e2 e3 e4 c0 c1 c2 c3 c4 hw2
          go_wp2_with fail
          go_region_law (first
            | (refine step_call (by rfl) 112 #[.slice aa na ca] (by simp [execOp, go_sem]) ?_
               refine (HCL.out _ q2.out).mono ?_
               rintro r v1 ⟨vc, rfl, hE1, hb1⟩
               refine ⟨_, rfl, ?_⟩
               have t1 : v1.cell? ⟨w.heap.size, 5, none⟩ = some (.slice (some ⟨g, off, none⟩) nd cn) := kc hb1 q1
               have t2 : Hid (Eds v1 w2.heap.size vc ah ∧ Below w0.heap.size w0 v1 ∧ v1.heap[wo.heap.size]? = some (evO ⟨ad, inw, kd, mx, iv⟩) ∧ w2.heap.size ≤ v1.heap.size) := ⟨hE1, bsq q2.out hb1, res_below q3.out hb1, hb1.size⟩
               clear hE1 hb1)
            | (refine step_eds (by rfl) _ _ (by rfl) w2.heap.size vc ah (by rfl) t2.out.1 (.slice (some ⟨g, off, none⟩) k cn) (en.take k) (by rfl) (HTK.out _ t2.out.2.1) (by rw [List.length_take, HNA.out]; omega) t2.out.2.2.2 ?_
               intro v5 w5 h5 hg5 hb5
               have t6 : Hid (Below w0.heap.size w0 w5 ∧ w5.heap[wo.heap.size]? = some (evO ⟨ad, inw, kd, mx, iv⟩)) := ⟨t2.out.2.1.trans (hb5.mono HB2.out.size), (hb5.block _ hz2).trans t2.out.2.2.1⟩
               have t7 := Eds.rns h5
               obtain ⟨a5, c5, rfl, hn5, hc5⟩ := own_form h5
               rw [HNN.out] at t7 hn5 ⊢
               have t8 : Hid (Rns w5 (.slice a5 N c5) (ah ++ en.take k)) := t7
               unfold maxLen at hc5
               clear h5 hg5 hb5 t7 t1 t2))
          all_goals go_wp2
          all_goals go_simp
          all_goals
            (go_loopw [99] (fun i wr => ∃ j : Nat, j ≤ N ∧ i = .int .i64 (j : Int) ∧ Below w5.heap.size w5 wr ∧ Hid (∀ x ∈ (ah ++ en.take k).take j, ¬ (x.ad = ad ∧ x.inw = inw))) (fun i _ => N - (intOf i).toNat)
             case atStart => exact ⟨0, Nat.zero_le _, rfl, Below.refl _ _, fun x hx => by simp at hx⟩
             case round =>
               obtain ⟨j, hj, rfl, hbq, HM⟩ := hrel
               by_cases hlt2 : j < N
               · have hj1 : j < (ah ++ en.take k).length := by have := HNN.out; omega
                 obtain ⟨x, hx⟩ : ∃ x, (ah ++ en.take k)[j]? = some x := ⟨_, List.getElem?_eq_getElem hj1⟩
                 obtain ⟨g5, off5, rfl, d0, d1, d2, d3, d4⟩ := (Rns.below t8.out hbq).at j x hx
                 obtain ⟨w6, hw6⟩ : ∃ w6, wr.alloc (evO x) = w6 := ⟨_, rfl⟩
                 have hb6 : Below wr.heap.size wr w6 := by rw [← hw6]; exact balloc _ _
                 obtain ⟨hzx, x0, x1, x2, x3, x4⟩ := evB (evC x hw6)
                 obtain ⟨hzy, y0, y1, y2, y3, y4⟩ := evB (res_below (res_below t6.out.2 hbq) hb6)
                 have HB6 : Hid (Below w5.heap.size w5 w6) := bsq hbq hb6
                 have HB6' : Hid (Below w.heap.size w w6) := bsq HB0.out (bsq t6.out.1 HB6.out)
                 have HNX2 : Hid (¬ (x.ad = ad ∧ x.inw = inw) → ∀ y ∈ (ah ++ en.take k).take (j + 1), ¬ (y.ad = ad ∧ y.inw = inw)) := fun h y hy => by
                   rw [List.take_succ_eq_append_getElem hj1, (List.getElem?_eq_some_iff.1 hx).2] at hy
                   rcases List.mem_append.1 hy with hy | hy
                   · exact HM.out y hy
                   · simp at hy; subst hy; exact h
                 have HYE : Hid (x.ad = ad ∧ x.inw = inw → 13 = z) := fun h => by
                   have h1 := HWI.out.2 ⟨x, List.mem_of_getElem? hx, h⟩
                   have h2 := HR2.out
                   rw [if_pos h1] at h2
                   exact h2
                 obtain ⟨xad, xinw, xkd, xmx, xiv⟩ := x
                 simp only at *
                 clear hb6 hbq HM hx hj1
                 by_cases h1 : xad = ad
                 · have e1 : (xad == ad) = true := by simpa using h1
                   by_cases h2 : xinw = inw
                   · have e2 : (xinw == inw) = true := by simpa using h2
                     have HH : Hid (13 = z) := HYE.out ⟨h1, h2⟩
                     clear HYE HNX2 h1 h2
                     go_wp2
                     go_ret
                     rw [HH.out]
                     exact ⟨rfl, HB6'.out⟩
                   · have e2 : (xinw == inw) = false := by simpa using h2
                     have HH : Hid _ := HNX2.out (fun q => h2 q.2)
                     clear HYE HNX2 h1 h2
                     go_wp2
                     go_roundw
                     case rel => exact ⟨j + 1, by omega, by go_num, HB6.out, HH.out⟩
                     case measure => simp [intOf]; omega
                 · have e1 : (xad == ad) = false := by simpa using h1
                   have HH : Hid _ := HNX2.out (fun q => h1 q.1)
                   clear HYE HNX2 h1
                   go_wp2
                   go_roundw
                   case rel => exact ⟨j + 1, by omega, by go_num, HB6.out, HH.out⟩
                   case measure => simp [intOf]; omega
               · have HH : Hid (chkE (ah.map wayOf ++ (en.take (k + 1)).map wayOf) (en.drop (k + 1)) = z) := by
                   have h1 : ¬ ((ah.map wayOf ++ (en.take k).map wayOf).contains (wayOf ⟨ad, inw, kd, mx, iv⟩) = true) := fun q => by
                     obtain ⟨x, hx, h2⟩ := HWI.out.1 q
                     have h3 := HM.out x
                     rw [List.take_of_length_le (by have := HNN.out; omega)] at h3
                     exact h3 hx h2
                   have h2 := HR2.out
                   rw [if_neg h1, HTW.out] at h2
                   exact h2
                 have HBq : Hid (Below w0.heap.size w0 wr) := bsq t6.out.1 hbq
                 clear HM hbq
                 go_wp2
                 go_roundw
                 case rel => exact ⟨k + 1, by omega, by go_num, HBq.out, HH⟩
                 case measure => simp [intOf]; omega)
        · have hR := HR.out
          rw [List.drop_eq_nil_of_le (by have := HND.out; omega)] at hR
          have HH : Hid (0 = z) := hR
          have HBr : Hid (Below w.heap.size w wo) := bsq HB0.out hbr
          clear HR hR hbr
          go_wp2
          go_ret
          rw [HH.out]
          exact ⟨rfl, HBr.out⟩
end Go.Proofs.Ytonheibhbilhhaa.desc

/- plugref: what ConfigText answers. -/
namespace Go.Proofs.Ytonheibhbilhhaa.desc
open Go.RowKit Go.PlainAid Go.Proofs.Ytonheibhbilhhaa.lane
set_option linter.unusedVariables false
set_option linter.unusedSimpArgs false
set_option maxRecDepth 100000

theorem box_grow {wr w' : World} {B R s n : Nat} {e T : TypeId} {v : Value} {xs : List Value} {cs : Array Value} (own : wr.ownsRow B e s v n xs) (hR : wr.heap[R]? = some (.cells cs T)) (he : e ≠ T) (hg : wr.grownBy w' v.ownBlock) :
    w'.heap[R]? = some (.cells cs T) := (hg.block R (Array.getElem?_eq_some_iff.1 hR).1 (fun q => box_ne own hR he q.symm)).trans hR
theorem Rfs.at {w : World} {a : Option Addr} {n c : Nat} {L : FL} (h : Rfs w (.slice a n c) L) : ∀ j q, L[j]? = some q → ∃ g off, a = some ⟨g, off, none⟩ ∧ w.cell? ⟨g, off + j * 6, none⟩ = some (.int .i64 q.1.cl) ∧ w.cell? ⟨g, off + j * 6 + 1, none⟩ = some (.int .i64 q.1.su) ∧ w.cell? ⟨g, off + j * 6 + 2, none⟩ = some (.int .i64 q.1.pr) ∧ w.cell? ⟨g, off + j * 6 + 3, none⟩ = some (.int .i64 q.1.nm) ∧ w.cell? ⟨g, off + j * 6 + 4, none⟩ = some q.2.1 ∧ w.cell? ⟨g, off + j * 6 + 5, none⟩ = some q.2.2 := by
  obtain ⟨a', c', e, _, _, h4⟩ := h.cell
  injection e with e1 e2 e3
  subst e1
  exact h4
theorem bof_ok {us : List Int} (h : allB 255 us = true) : bof us = strOfNums us := by unfold bof; rw [if_pos h]
theorem faceH_all (k : Nat) (f : Fc) (hk : k ≤ 255) (h : FOk f) : allB 255 (faceH (k : Int) f) = true := by
  obtain ⟨⟨⟨a1, a2⟩, ⟨b1, b2⟩, ⟨c1, c2⟩, d1, d2⟩, _, _, h4, _⟩ := h
  simp [allB, inB, faceH]
  omega
/-- an end's bytes -/
def endR (e : En) : List Int := [7, 5, if e.inw = true then e.ad + 128 else e.ad, e.kd, e.mx, 0, e.iv]
theorem endR_is {e : En} (h : endOk e = true) : endR e = endL e ∧ allB 255 (endR e) = true := by
  obtain ⟨⟨a1, a2⟩, ⟨b1, b2⟩, ⟨c1, c2⟩, d1, d2⟩ := (endOk_iff e).1 h
  obtain ⟨ad, inw, kd, mx, iv⟩ := e
  simp only at *
  constructor
  · cases inw <;> simp [endR, endL, wrd] <;> omega
  · cases inw <;> simp [endR, allB, inB] <;> omega
theorem chkFs_step {tk : List (Int × Bool)} {L : FL} {k : Nat} {q : Fc × Value × Value} (h : L[k]? = some q) : chkFs tk ((L.drop k).map Prod.fst) = if chkF tk q.1 = 0 then chkFs (tk ++ q.1.en.map wayOf) ((L.drop (k + 1)).map Prod.fst) else chkF tk q.1 := by
  obtain ⟨hk, he⟩ := List.getElem?_eq_some_iff.1 h
  rw [List.drop_eq_getElem_cons hk, he, List.map_cons, chkFs]
theorem faceL_len {f : Fc} (h : FOk f) (i : Int) : (faceL i f).length ≤ 101 := by
  have := facesL_le [f] i (fun g hg => by simp at hg; subst hg; exact h)
  rw [facesL, facesL, List.append_nil] at this
  simpa using this
theorem conf_text (va na atr po : Int) (fs : List Fc) : (⟨#[9, 2]⟩ : ByteArray) ++ strOfNums (wrd (9 + ((facesL 0 fs).length : Int))) ++ strOfNums [(fs.length : Int)] ++ strOfNums [va, na, atr, po] ++ strOfNums (facesL 0 fs) = strOfNums (confL ⟨va, na, atr, po, fs⟩) := by
  have e : (⟨#[9, 2]⟩ : ByteArray) = strOfNums [9, 2] := rfl
  rw [e, ← str_append, ← str_append, ← str_append, ← str_append]
  congr 1
set_option maxHeartbeats 16000000 in
theorem configText_any (c : Cf) (v : Value) (L : FL) (w : World) (hc : Rc w v c L) :
    Calls Try.prog 79 #[cfV c v] w fun e w' => e = .returned (.tuple #[.string (wcT c), .int .i64 (chkC c)]) ∧ Below w.heap.size w w' := by
  obtain ⟨va, na, atr, po, fs⟩ := c
  obtain ⟨hfs, heq⟩ := hc
  simp only at heq ⊢
  subst heq
  have HWT : Hid (wcT ⟨va, na, atr, po, L.map Prod.fst⟩ = if chkC ⟨va, na, atr, po, L.map Prod.fst⟩ = 0 then strOfNums (confL ⟨va, na, atr, po, L.map Prod.fst⟩) else ⟨#[]⟩) := rfl
  have HCC : Hid (chkC ⟨va, na, atr, po, L.map Prod.fst⟩ = if (!(va == 0) && allB 255 [va, na, atr, po]) = false then 1 else if 4 < L.length then 2 else chkFs [] (L.map Prod.fst)) := by
    show _ = _
    unfold chkC; rw [headC_is, List.length_map]
  have HTX : Hid _ := conf_text va na atr po (L.map Prod.fst)
  have HCO : Hid (chkC ⟨va, na, atr, po, L.map Prod.fst⟩ = 0 → (facesL 0 (L.map Prod.fst)).length ≤ 404 ∧ COk ⟨va, na, atr, po, L.map Prod.fst⟩) := fun h => by
    have h1 := chkC_ok h
    have h2 := confL_le h1
    rw [confL_length] at h2
    simp only at h2
    exact ⟨by omega, h1⟩
  obtain ⟨WT, hWT⟩ : ∃ t, wcT ⟨va, na, atr, po, L.map Prod.fst⟩ = t := ⟨_, rfl⟩
  obtain ⟨z, hz⟩ : ∃ t, chkC ⟨va, na, atr, po, L.map Prod.fst⟩ = t := ⟨_, rfl⟩
  rw [hWT, hz] at HWT
  rw [hz] at HCC HCO
  rw [hWT, hz]
  clear hWT hz
  obtain ⟨w0, hw0⟩ : ∃ w0, w.alloc (cfO va na atr po v) = w0 := ⟨_, rfl⟩
  have hb0 : Below w.heap.size w w0 := by rw [← hw0]; exact balloc _ _
  have hC0 : w0.heap[w.heap.size]? = some (cfO va na atr po v) := by rw [← hw0]; exact (MapKept.heap_alloc w _).1
  have HX : Hid (∀ u, Below w0.heap.size w0 u → (u.cell? ⟨w.heap.size, 0, none⟩ = some (.int .i64 va) ∧ u.cell? ⟨w.heap.size, 1, none⟩ = some (.int .i64 na) ∧ u.cell? ⟨w.heap.size, 2, none⟩ = some (.int .i64 atr) ∧ u.cell? ⟨w.heap.size, 3, none⟩ = some (.int .i64 po) ∧ u.cell? ⟨w.heap.size, 4, none⟩ = some v) ∧ Rfs u v L) := fun u hu => ⟨(box5f (res_below hC0 hu)).1.2, hfs.below (bsq hb0 hu)⟩
  have HB0 : Hid (Below w.heap.size w w0) := hb0
  have HO1 : Hid (∀ u : World, Calls Try.prog 94 #[.slice (some ⟨u.heap.size, 0, none⟩) 4 4] (u.alloc (.cells #[.int .i64 va, .int .i64 na, .int .i64 atr, .int .i64 po] 3)) fun e w' => e = .returned (.tuple #[.string (bof [va, na, atr, po]), .bool (allB 255 [va, na, atr, po])]) ∧ Below u.heap.size u w') := fun u => (bytesOf_any _ [va, na, atr, po] _ (Rig.new u [va, na, atr, po] 3 (by simp [maxLen])) (by simp)).mono fun e w' h => ⟨h.1, bsq (balloc u _) h.2⟩
  have HON : Hid (∀ (n : Nat) (u : World), Calls Try.prog 94 #[.slice (some ⟨u.heap.size, 0, none⟩) 1 1] (u.alloc (.cells #[.int .i64 (n : Int)] 3)) fun e w' => e = .returned (.tuple #[.string (bof [(n : Int)]), .bool (allB 255 [(n : Int)])]) ∧ Below u.heap.size u w') := fun n u => (bytesOf_any _ [(n : Int)] _ (Rig.new u [(n : Int)] 3 (by simp [maxLen])) (by simp)).mono fun e w' h => ⟨h.1, bsq (balloc u _) h.2⟩
  have HTB : Hid (∀ (n : Int) (w : World), 0 ≤ n → n ≤ 65535 → Calls Try.prog 51 #[.int .i64 n] w fun e w' => e = .returned (.string (strOfNums (wrd n))) ∧ Below w.heap.size w w') := fun n w h0 h1 => twoBytes_any n h0 h1 w
  obtain ⟨⟨c0, c1, c2, c3, c4⟩, _⟩ := HX.out w0 (Below.refl _ _)
  obtain ⟨a, cap, rfl, hlc, hcm, _⟩ := hfs.cell
  unfold maxLen at hcm
  obtain ⟨n, hn⟩ : ∃ n, L.length = n := ⟨_, rfl⟩
  have HN : Hid (L.length = n) := hn
  rw [hn] at hlc HX HCC c4 hw0
  rw [List.length_map, hn] at HTX
  rw [hn]
  have HBO : Hid (allB 255 [va, na, atr, po] = true → bof [va, na, atr, po] = strOfNums [va, na, atr, po]) := fun h => bof_ok h
  generalize bof [va, na, atr, po] = BO at *
  generalize allB 255 [va, na, atr, po] = okh at *
  clear hfs hb0 hC0 hn
  go_enter Try.func79, Try.ntmps79
  go_wp2_with fail
  refine (HO1.out _).mono ?_
  rintro e W ⟨rfl, hbW⟩
  have HBW : Hid (Below w0.heap.size w0 W) := hbW
  have HBW' : Hid (Below w.heap.size w W) := bsq HB0.out hbW
  clear hbW c0 c1 c2 c3 c4 HO1
  obtain ⟨⟨c0, c1, c2, c3, c4⟩, _⟩ := HX.out W HBW.out
  cases okh
  · rw [Bool.and_false, if_pos rfl] at HCC
    have hz1 := HCC.out
    subst hz1
    have HF : Hid (WT = ⟨#[]⟩) := by have := HWT.out; rw [if_neg (by decide)] at this; exact this
    go_wp2
    go_ret2
    rw [HF.out]
    exact ⟨rfl, HBW'.out⟩
  by_cases hva : va = 0
  · have e0 : (va == 0) = true := by simpa using hva
    rw [e0, if_pos (by rfl)] at HCC
    have hz1 := HCC.out
    subst hz1
    have HF : Hid (WT = ⟨#[]⟩) := by have := HWT.out; rw [if_neg (by decide)] at this; exact this
    clear hva
    go_wp2
    go_ret2
    rw [HF.out]
    exact ⟨rfl, HBW'.out⟩
  have e0 : (va == 0) = false := by simpa using hva
  rw [e0, if_neg (by simp)] at HCC
  clear hva
  by_cases hn4 : 4 < n
  · rw [if_pos hn4] at HCC
    have hz1 := HCC.out
    subst hz1
    have HF : Hid (WT = ⟨#[]⟩) := by have := HWT.out; rw [if_neg (by decide)] at this; exact this
    go_wp2
    go_ret2
    rw [HF.out]
    exact ⟨rfl, HBW'.out⟩
  rw [if_neg hn4] at HCC
  have hBO := HBO.out rfl
  subst hBO
  have sBO : (strOfNums [va, na, atr, po]).size = 4 := str_size _
  generalize strOfNums [va, na, atr, po] = BO at *
  obtain ⟨Fz, hFz⟩ : ∃ Fz, facesL 0 (L.map Prod.fst) = Fz := ⟨_, rfl⟩
  rw [hFz] at HTX HCO
  have HFz : Hid (facesL 0 (L.map Prod.fst) = Fz) := hFz
  clear hFz HBO
  go_wp2
  go_loopw [6, 7, 47] (fun av rv i wr => ∃ (k : Nat) (ah : List En) (A : List Int), k ≤ n ∧ i = .int .i64 (k : Int) ∧ rv = .string (strOfNums A) ∧ A.length ≤ 101 * k ∧ ah.length ≤ 4 * k ∧ Eds wr W.heap.size av ah ∧ Below W.heap.size W wr ∧ Hid (A ++ facesL (k : Int) ((L.drop k).map Prod.fst) = Fz ∧ chkFs (ah.map wayOf) ((L.drop k).map Prod.fst) = z)) (fun _ _ i _ => n - (intOf i).toNat)
  case atStart => exact ⟨0, [], [], Nat.zero_le _, rfl, rfl, by simp, by simp, Eds.nil _ _, Below.refl _ _, by rw [List.nil_append]; exact HFz.out, HCC.out.symm⟩
  case round =>
    obtain ⟨k, ah, A, hk, rfl, rfl, hAl, hahl, hEd, hbr, HR⟩ := hrel
    obtain ⟨wo, rfl⟩ : ∃ wo, wo = wr := ⟨_, rfl⟩
    have HBr : Hid (Below w0.heap.size w0 wo) := bsq HBW.out hbr
    have hAs := str_size A
    by_cases hlt : k < n
    · have hk1 : k < L.length := by have := HN.out; omega
      obtain ⟨q, hq⟩ : ∃ q, L[k]? = some q := ⟨L[k], List.getElem?_eq_getElem hk1⟩
      obtain ⟨⟨_, _, _, _, _⟩, hRL⟩ := HX.out wo HBr.out
      obtain ⟨g, off, rfl, d0, d1, d2, d3, d4, d5⟩ := hRL.at k q hq
      have hRq := hRL.all q (List.mem_of_getElem? hq)
      have hst := chkFs_step (tk := ah.map wayOf) hq
      have hR := HR.out
      rw [hst, facesL_at L k q hq] at hR
      have HSZ : Hid (chkF (ah.map wayOf) q.1 = 0 → FOk q.1) := fun h => chkF_ok h
      obtain ⟨f, ve, vd⟩ := q
      simp only at *
      obtain ⟨w1, hw1⟩ : ∃ w1, wo.alloc (.cells #[.int .i64 f.cl, .int .i64 f.su, .int .i64 f.pr, .int .i64 f.nm, ve, vd] 76) = w1 := ⟨_, rfl⟩
      have hb1 : Below wo.heap.size wo w1 := by rw [← hw1]; exact balloc _ _
      have hF1 : w1.heap[wo.heap.size]? = some (.cells #[.int .i64 f.cl, .int .i64 f.su, .int .i64 f.pr, .int .i64 f.nm, ve, vd] 76) := by rw [← hw1]; exact (MapKept.heap_alloc wo _).1
      obtain ⟨x0, x1, x2, x3, x4, x5⟩ := box6r hF1
      have HF1 : Hid (w1.heap[wo.heap.size]? = some (.cells #[.int .i64 f.cl, .int .i64 f.su, .int .i64 f.pr, .int .i64 f.nm, ve, vd] 76)) := hF1
      have hE1 : Eds w1 W.heap.size u6 ah := own_below hEd hb1
      have HE1 : Hid (Eds w1 W.heap.size u6 ah) := hE1
      have HFE : Hid (Calls Try.prog 95 #[fcV f ve vd, u6] w1 fun e w' => e = .returned (.int .i64 (chkF (ah.map wayOf) f)) ∧ Below w1.heap.size w1 w') := faceError_any (f, ve, vd) u6 ah w1 (hRq.below hb1) hE1.rns (by omega)
      have HB1 : Hid (Below W.heap.size W w1) := bsq hbr hb1
      have HRq : Hid (∀ u, Below W.heap.size W u → Rf u (f, ve, vd)) := fun u hu => ((HX.out u (bsq HBW.out hu)).2).all _ (List.mem_of_getElem? hq)
      obtain ⟨aa, ca, rfl, _, hca⟩ := own_form hEd
      obtain ⟨ve1, ve2, ve3, rfl⟩ : ∃ a n c, ve = .slice a n c := by obtain ⟨a, c, h, _⟩ := hRq.ex; exact ⟨_, _, _, h⟩
      obtain ⟨vd1, vd3, hvd, hvdc, hvdm, _⟩ := hRq.en.cell
      simp only at hvd
      subst hvd
      obtain ⟨na', hna⟩ : ∃ m, ah.length = m := ⟨_, rfl⟩
      obtain ⟨nE, hnE⟩ : ∃ m, f.en.length = m := ⟨_, rfl⟩
      have HNA : Hid (ah.length = na') := hna
      have HNE : Hid (f.en.length = nE) := hnE
      rw [hna] at HE1 HFE
      rw [hnE] at HFE HF1 hw1 x5 d5 HRq
      rw [hna]
      rw [hna] at hahl
      have hck : ∀ zz, chkF (ah.map wayOf) f = zz → zz = 0 ∨ (zz ≠ 0 ∧ z = zz ∧ WT = ⟨#[]⟩) := fun zz hzz => by
        rcases Classical.em (zz = 0) with h | h
        · exact .inl h
        · right
          rw [hzz, if_neg h] at hR
          refine ⟨h, hR.2.symm, ?_⟩
          have := HWT.out
          rw [if_neg (by rw [← hR.2]; exact h)] at this
          exact this
      obtain ⟨zz, hzz⟩ : ∃ zz, chkF (ah.map wayOf) f = zz := ⟨_, rfl⟩
      have HCK := hck zz hzz
      rw [hzz] at HFE HSZ hR
      clear hck hzz hb1 hF1 hE1 hEd hbr hRq hRL hst hk1 HR hna hnE
      rcases HCK with rfl | ⟨hzn, hzz2, hwt⟩
      · have HOK : Hid (FOk f) := HSZ.out rfl
        rw [if_pos rfl] at hR
        have HR : Hid _ := hR
        clear hR HSZ
        go_wp2_with fail
        refine HFE.out.mono ?_
        rintro e w2 ⟨rfl, hb2⟩
        have HE2 : Hid (Eds w2 W.heap.size (.slice aa na' ca) ah) := own_below HE1.out hb2
        have HF2 : Hid (w2.heap[wo.heap.size]? = some (.cells #[.int .i64 f.cl, .int .i64 f.su, .int .i64 f.pr, .int .i64 f.nm, .slice ve1 ve2 ve3, .slice vd1 nE vd3] 76)) := res_below HF1.out hb2
        have HB2 : Hid (Below W.heap.size W w2) := bsq HB1.out hb2
        clear hb2 HFE HE1 HF1 HB1 x0 x1 x2 x3 x4 x5
        obtain ⟨x0, x1, x2, x3, x4, x5⟩ := box6r HF2.out
        have hnE4 : nE ≤ 4 := by have := HOK.out.enl; have := HNE.out; omega
        go_wp2_with
          (at_builtin
           refine wpList_eds _ rfl _ _ rfl W.heap.size _ ah rfl HE2.out _ f.en rfl (HRq.out _ HB2.out).en (by have := HNA.out; have := HNE.out; omega) HB2.out.size ?_
           intro v3 w3 q1 q2 q3
           have t1 : Hid (Eds w3 W.heap.size v3 (ah ++ f.en)) := q1
           have t2 : Hid (Below W.heap.size W w3) := HB2.out.trans q3
           have t3 : Hid (w3.heap[wo.heap.size]? = some (.cells #[.int .i64 f.cl, .int .i64 f.su, .int .i64 f.pr, .int .i64 f.nm, .slice ve1 ve2 ve3, .slice vd1 nE vd3] 76)) := box_grow HE2.out HF2.out (by decide) q2
           obtain ⟨y0, y1, y2, y3, y4, y5⟩ := box6r t3.out
           clear q1 q2 q3 x0 x1 x2 x3 x4 x5)
        have HOF : Hid (∀ u : World, Calls Try.prog 94 #[.slice (some ⟨u.heap.size, 0, none⟩) 9 9] (u.alloc (.cells #[.int .i64 9, .int .i64 4, .int .i64 (k : Int), .int .i64 0, .int .i64 (nE : Int), .int .i64 f.cl, .int .i64 f.su, .int .i64 f.pr, .int .i64 f.nm] 3)) fun e w' => e = .returned (.tuple #[.string (strOfNums (faceH (k : Int) f)), .bool true]) ∧ Below u.heap.size u w') := fun u => by
          have h1 := faceH_all k f (by omega) HOK.out
          have h2 : faceH (k : Int) f = [9, 4, (k : Int), 0, (nE : Int), f.cl, f.su, f.pr, f.nm] := by unfold faceH; rw [HNE.out]
          have h3 := bytesOf_any _ [9, 4, (k : Int), 0, (nE : Int), f.cl, f.su, f.pr, f.nm] _ (Rig.new u [9, 4, (k : Int), 0, (nE : Int), f.cl, f.su, f.pr, f.nm] 3 (by simp [maxLen])) (by simp)
          have h1' : allB 255 [9, 4, (k : Int), 0, (nE : Int), f.cl, f.su, f.pr, f.nm] = true := by rw [← h2]; exact h1
          have h4 : strOfNums [9, 4, (k : Int), 0, (nE : Int), f.cl, f.su, f.pr, f.nm] = strOfNums (faceH (k : Int) f) := by rw [h2]
          rw [h1', bof_ok h1', h4] at h3
          exact h3.mono fun e w' h => ⟨h.1, bsq (balloc u _) h.2⟩
        have hfl := faceL_len HOK.out (k : Int)
        have hfx : (faceL (k : Int) f).length = 9 + (f.ex.flatten.length + (f.en.flatMap endL).length) := by rw [faceL, List.length_append, List.length_append]; rfl
        have HJ : Hid (∀ u, Below W.heap.size W u → Calls Try.prog 96 #[.slice ve1 ve2 ve3, .string ⟨#[]⟩] u fun e w' => e = .returned (.string (strOfNums f.ex.flatten)) ∧ Below u.heap.size u w') := fun u hu => join_any _ f.ex u (HRq.out u hu).ex (by omega) (by have := HOK.out.exl; omega)
        have s1 : (strOfNums (faceH (k : Int) f)).size = 9 := str_size _
        have s2 : (strOfNums f.ex.flatten).size ≤ 101 := by rw [str_size]; omega
        have HST : Hid (strOfNums A ++ (strOfNums (faceH (k : Int) f) ++ strOfNums f.ex.flatten) = strOfNums (A ++ (faceH (k : Int) f ++ f.ex.flatten))) := by show _ = _; rw [str_append, str_append]
        have HFL : Hid (A ++ (faceH (k : Int) f ++ f.ex.flatten) ++ f.en.flatMap endL = A ++ faceL (k : Int) f) := by show _ = _; rw [faceL]; simp
        have HLE : Hid ((faceL (k : Int) f).length ≤ 101) := hfl
        obtain ⟨FH, hFH⟩ : ∃ t, strOfNums (faceH (k : Int) f) = t := ⟨_, rfl⟩
        obtain ⟨JX, hJX⟩ : ∃ t, strOfNums f.ex.flatten = t := ⟨_, rfl⟩
        rw [hFH] at HOF s1
        rw [hJX] at HJ s2
        rw [hFH, hJX] at HST
        clear hFH hJX hfl hfx HE2 HF2 HB2
        go_wp2_with fail
        refine (HOF.out _).mono ?_
        rintro e w4 ⟨rfl, hb4⟩
        have HF4 : Hid (w4.heap[wo.heap.size]? = some (.cells #[.int .i64 f.cl, .int .i64 f.su, .int .i64 f.pr, .int .i64 f.nm, .slice ve1 ve2 ve3, .slice vd1 nE vd3] 76)) := res_below t3.out hb4
        have HB4 : Hid (Below w3.heap.size w3 w4) := hb4
        clear hb4 y0 y1 y2 y3 y4 y5
        obtain ⟨y0, y1, y2, y3, y4, y5⟩ := box6r HF4.out
        go_wp2_with fail
        refine (HJ.out w4 (bsq t2.out HB4.out)).mono ?_
        rintro e w5 ⟨rfl, hb5⟩
        have HF5 : Hid (w5.heap[wo.heap.size]? = some (.cells #[.int .i64 f.cl, .int .i64 f.su, .int .i64 f.pr, .int .i64 f.nm, .slice ve1 ve2 ve3, .slice vd1 nE vd3] 76)) := res_below HF4.out hb5
        have HB5 : Hid (Below w3.heap.size w3 w5) := bsq HB4.out hb5
        clear hb5 y0 y1 y2 y3 y4 y5 HF4 HB4
        obtain ⟨y0, y1, y2, y3, y4, y5⟩ := box6r HF5.out
        have HEN : Hid (∀ u, Below w5.heap.size w5 u → Rns u (.slice vd1 nE vd3) f.en) := fun u hu => (HRq.out u (bsq (bsq t2.out HB5.out) hu)).en
        go_wp2
        go_loopw [7, 89] (fun rv i wr => ∃ (j : Nat) (A2 : List Int), j ≤ nE ∧ i = .int .i64 (j : Int) ∧ rv = .string (strOfNums A2) ∧ Below w5.heap.size w5 wr ∧ Hid (A2 ++ (f.en.drop j).flatMap endL = A ++ faceL (k : Int) f)) (fun _ i _ => nE - (intOf i).toNat)
        case atStart => exact ⟨0, A ++ (faceH (k : Int) f ++ f.ex.flatten), Nat.zero_le _, rfl, by rw [HST.out], Below.refl _ _, HFL⟩
        case round =>
          obtain ⟨j, A2, hj, rfl, rfl, hbr, HR2⟩ := hrel
          have hA2s := str_size A2
          have hA2l : A2.length ≤ A.length + 101 := by
            have h1 := congrArg List.length HR2.out
            rw [List.length_append, List.length_append] at h1
            have := HLE.out
            omega
          by_cases hlt2 : j < nE
          · have hj1 : j < f.en.length := by have := HNE.out; omega
            obtain ⟨x, hx⟩ : ∃ x, f.en[j]? = some x := ⟨_, List.getElem?_eq_getElem hj1⟩
            obtain ⟨g5, off5, rfl, d0, d1, d2, d3, d4⟩ := (HEN.out wr hbr).at j x hx
            have hxo := HOK.out.en x (List.mem_of_getElem? hx)
            obtain ⟨hr1, hr2⟩ := endR_is hxo
            obtain ⟨⟨a1, a2⟩, _⟩ := (endOk_iff x).1 hxo
            have HOE : Hid (∀ u : World, Calls Try.prog 94 #[.slice (some ⟨u.heap.size, 0, none⟩) 7 7] (u.alloc (.cells #[.int .i64 7, .int .i64 5, .int .i64 (if x.inw = true then x.ad + 128 else x.ad), .int .i64 x.kd, .int .i64 x.mx, .int .i64 0, .int .i64 x.iv] 3)) fun e w' => e = .returned (.tuple #[.string (strOfNums (endL x)), .bool true]) ∧ Below u.heap.size u w') := fun u => by
              have h1' : allB 255 [7, 5, if x.inw = true then x.ad + 128 else x.ad, x.kd, x.mx, 0, x.iv] = true := hr2
              have h4 : strOfNums [7, 5, if x.inw = true then x.ad + 128 else x.ad, x.kd, x.mx, 0, x.iv] = strOfNums (endL x) := by rw [← hr1]; rfl
              have h3 := bytesOf_any _ [7, 5, if x.inw = true then x.ad + 128 else x.ad, x.kd, x.mx, 0, x.iv] _ (Rig.new u [7, 5, if x.inw = true then x.ad + 128 else x.ad, x.kd, x.mx, 0, x.iv] 3 (by simp [maxLen])) (by simp)
              rw [h1', bof_ok h1', h4] at h3
              exact h3.mono fun e w' h => ⟨h.1, bsq (balloc u _) h.2⟩
            have HH : Hid ((A2 ++ endL x) ++ (f.en.drop (j + 1)).flatMap endL = A ++ faceL (k : Int) f) := by
              have h1 := HR2.out
              rw [List.drop_eq_getElem_cons hj1, (List.getElem?_eq_some_iff.1 hx).2, List.flatMap_cons, ← List.append_assoc] at h1
              exact h1
            obtain ⟨w6, hw6⟩ : ∃ w6, wr.alloc (evO x) = w6 := ⟨_, rfl⟩
            have hb6 : Below wr.heap.size wr w6 := by rw [← hw6]; exact balloc _ _
            obtain ⟨hzx, x0, x1, x2, x3, x4⟩ := evB (evC x hw6)
            have HB6 : Hid (Below w5.heap.size w5 w6) := bsq hbr hb6
            have s3 : (strOfNums (endL x)).size = 7 := str_size _
            have HSA : Hid (strOfNums A2 ++ strOfNums (endL x) = strOfNums (A2 ++ endL x)) := (str_append _ _).symm
            obtain ⟨TX, hTX⟩ : ∃ t, strOfNums (endL x) = t := ⟨_, rfl⟩
            rw [hTX] at HOE s3 HSA
            have HEX : Hid (∃ X, X = endL x ∧ True) := ⟨_, rfl, trivial⟩
            obtain ⟨X, hX⟩ : ∃ X, endL x = X := ⟨_, rfl⟩
            rw [hX] at HH HSA
            clear hTX hX HEX hb6 hbr hx hj1 hxo hr1 hr2 HR2
            obtain ⟨xad, xinw, xkd, xmx, xiv⟩ := x
            simp only at *
            cases xinw
            · simp only [if_neg (show ¬ (false = true) by decide)] at HOE
              go_wp2_with fail
              refine (HOE.out _).mono ?_
              rintro e w7 ⟨rfl, hb7⟩
              have HB7 : Hid (Below w5.heap.size w5 w7) := bsq HB6.out hb7
              clear hb7
              go_wp2
              go_roundw
              case rel => exact ⟨j + 1, A2 ++ X, by omega, by go_num, by rw [HSA.out], HB7.out, HH⟩
              case measure => simp [intOf]; omega
            · simp only [if_pos (show true = true by decide)] at HOE
              go_wp2_with fail
              refine (HOE.out _).mono ?_
              rintro e w7 ⟨rfl, hb7⟩
              have HB7 : Hid (Below w5.heap.size w5 w7) := bsq HB6.out hb7
              clear hb7
              go_wp2
              go_roundw
              case rel => exact ⟨j + 1, A2 ++ X, by omega, by go_num, by rw [HSA.out], HB7.out, HH⟩
              case measure => simp [intOf]; omega
          · have hfin : A2 = A ++ faceL (k : Int) f := by
              have h1 := HR2.out
              rw [List.drop_eq_nil_of_le (by have := HNE.out; omega), List.flatMap_nil, List.append_nil] at h1
              exact h1
            have HA2 : Hid (A2.length ≤ 101 * (k + 1)) := by show _ ≤ _; omega
            have HBq : Hid (Below w3.heap.size w3 wr) := bsq HB5.out hbr
            have HRn : Hid (A2 ++ facesL ((k + 1 : Nat) : Int) ((L.drop (k + 1)).map Prod.fst) = Fz ∧ chkFs ((ah ++ f.en).map wayOf) ((L.drop (k + 1)).map Prod.fst) = z) := by
              obtain ⟨h1, h2⟩ := HR.out
              refine ⟨?_, ?_⟩
              · rw [hfin, List.append_assoc]; exact h1
              · rw [List.map_append]; exact h2
            clear hfin HR2 hbr
            go_wp2
            go_roundw
            case rel => exact ⟨k + 1, ah ++ f.en, A2, by omega, by go_num, rfl, HA2.out, by rw [List.length_append, HNA.out, HNE.out]; omega, own_below t1.out HBq.out, bsq t2.out HBq.out, HRn⟩
            case measure => simp [intOf]; omega
      · subst hzz2
        have hzb : (z != 0) = true := by simpa using hzn
        have HF : Hid (WT = ⟨#[]⟩) := hwt
        clear hwt hzn hR HSZ
        go_wp2_with fail
        refine HFE.out.mono ?_
        rintro e w2 ⟨rfl, hb2⟩
        have HB2 : Hid (Below w.heap.size w w2) := bsq HBW'.out (bsq HB1.out hb2)
        clear hb2
        go_wp2
        go_ret2
        rw [HF.out]
        exact ⟨rfl, HB2.out⟩
    · have hAF : A = Fz ∧ 0 = z := by
        have hR := HR.out
        rw [List.drop_eq_nil_of_le (by have := HN.out; omega), List.map_nil, facesL, chkFs, List.append_nil] at hR
        exact hR
      obtain ⟨hA1, rfl⟩ := hAF
      have HF : Hid (WT = strOfNums (confL ⟨va, na, atr, po, L.map Prod.fst⟩)) := by have := HWT.out; rw [if_pos rfl] at this; exact this
      have hFl := (HCO.out rfl).1
      have HNB : Hid (∀ u : World, Calls Try.prog 94 #[.slice (some ⟨u.heap.size, 0, none⟩) 1 1] (u.alloc (.cells #[.int .i64 (n : Int)] 3)) fun e w' => e = .returned (.tuple #[.string (strOfNums [(n : Int)]), .bool true]) ∧ Below u.heap.size u w') := fun u => by
        have h1 : allB 255 [(n : Int)] = true := by simp [allB, inB]; omega
        have := HON.out n u
        rw [bof_ok h1, h1] at this
        exact this
      have hAi : (Fz.length : Int) = ((strOfNums A).size : Int) := by rw [hAs, hA1]
      have HTX2 : Hid _ := HTX.out
      rw [hAi] at HTX2
      rw [← hA1] at HTX2
      have HTB2 : Hid (∀ u : World, Calls Try.prog 51 #[.int .i64 (9 + ((strOfNums A).size : Int))] u fun e w' => e = .returned (.string (strOfNums (wrd (9 + ((strOfNums A).size : Int))))) ∧ Below u.heap.size u w') := fun u => HTB.out _ u (by omega) (by omega)
      have s1 : (strOfNums [(n : Int)]).size = 1 := str_size _
      have s2 : (strOfNums (wrd (9 + ((strOfNums A).size : Int)))).size = 2 := str_size _
      have s3 : (strOfNums A).size ≤ 404 := by omega
      clear hAi hAs hAl hahl hFl hA1
      generalize strOfNums (wrd (9 + ((strOfNums A).size : Int))) = T2 at *
      generalize strOfNums [(n : Int)] = T1 at *
      generalize strOfNums A = TA at *
      obtain ⟨⟨c0', c1', c2', c3', c4'⟩, _⟩ := HX.out wo HBr.out
      have HBo : Hid (Below w.heap.size w wo) := bsq HBW'.out hbr
      clear hbr HR HX HCO HTB HON HTX hEd
      go_wp2_with fail
      refine (HNB.out _).mono ?_
      rintro e w2 ⟨rfl, hb2⟩
      have HB2 : Hid (Below w.heap.size w w2) := bsq HBo.out hb2
      clear hb2
      go_wp2_with fail
      refine (HTB2.out _).mono ?_
      rintro e w3 ⟨rfl, hb3⟩
      have HB3 : Hid (Below w.heap.size w w3) := bsq HB2.out hb3
      clear hb3
      go_wp2
      go_ret2
      rw [HF.out, ← HTX2.out]
      exact ⟨rfl, HB3.out⟩
end Go.Proofs.Ytonheibhbilhhaa.desc

/- DescOwn: clones of texts; a configuration that is copied; a configuration that is written over. -/
namespace Go.Proofs.Ytonheibhbilhhaa.desc
open Go.RowKit Go.PlainAid Go.Proofs.Ytonheibhbilhhaa.lane
set_option linter.unusedVariables false
set_option linter.unusedSimpArgs false
set_option maxRecDepth 100000

theorem tcells_one (ps : List (List Int)) : ∀ u ∈ tcells ps, u.oneCell' = true := by
  intro u hu
  obtain ⟨p, _, rfl⟩ := List.mem_map.1 hu
  rfl
theorem tcells_append (a b : List (List Int)) : tcells (a ++ b) = tcells a ++ tcells b := by simp [tcells]
/-- texts behind texts -/
theorem wpList_txt {ops : Array Oper} {rest : List Oper} {o : Oper} {a : Act} {Q : Exit → Act → World → Prop} (w : World) (hgd : o.guard = none) (s x : Operand)
    (ho : o.op = .call { callee := .builtin .append, args := #[s, x], argTypes := #[42, 42] }) (B : Nat) (v : Value) (acc : List (List Int)) (hs : a.eval s = v) (h : Txs w B v acc)
    (vx : Value) (es : List (List Int)) (hx : a.eval x = vx) (hr : Rts w vx es) (hl : acc.length + es.length ≤ 8796093021952) (hB : B ≤ w.heap.size)
    (hK : ∀ v' w', Txs w' B v' (acc ++ es) → Below B w w' → wpList Try.prog ops Q rest (a.put o.dst v') w') : wpList Try.prog ops Q (o :: rest) a w := by
  refine wpList_plain hgd fun K hK' => ?_
  obtain ⟨i0, hi, hz0, hz1, hz2⟩ := info_parts infoS
  obtain ⟨ax, cx, rfl, h1, h2, h3, h4⟩ := hr
  cases ax with
  | none =>
    have h0 : es.length = 0 := by
      rcases Nat.eq_zero_or_pos es.length with q | q
      · exact q
      · obtain ⟨g, off, q1, _⟩ := h4 q; cases q1
    have hes : es = [] := List.eq_nil_of_length_eq_zero h0
    subst hes
    have hrun := run_append_nothing (P := Try.prog) (w := w) B 42 o.type 9 i0 1 Try.underlying42 hi v acc.length (tcells acc) h cx
    simp only [List.length_nil] at hx
    have hk := hK' _ _ (hK v w (by rw [List.append_nil]; exact h) (Below.refl _ _))
    unfold Oper.wp
    simp [execOp, ho, resolve, invoke, builtin, hs, hx, hrun, Result.andThen]
    exact hk
  | some ad =>
    refine wp_append_own w s x 42 ho B 9 i0 _ 1 16 Try.underlying42 hi hz0 hz1 hz2 rfl (by omega) v acc.length (tcells acc) hs h ad es.length cx (tcells es) hx (by rw [tcells_length]; omega) ?_ (tcells_one es) (by unfold maxLen; omega) (by omega) hB ?_
    · intro j u hj
      have hlt := (List.getElem?_eq_some_iff.1 hj).1
      rw [tcells_length] at hlt
      obtain ⟨g, off, q1, hg, hc⟩ := h4 (by omega)
      injection q1 with q1
      subst q1
      rw [Addr.add_lit]; exact hc j u hj
    · intro v' w' h1 h2 _
      refine hK' _ _ (hK v' w' ?_ ((Below.refl _ _).grown h2 hB (own_block h)))
      unfold Txs
      rw [List.length_append, tcells_append]
      exact h1
/-- a configuration that is a copy: its rows are its own -/
structure Bf (w0 wr : World) (X : Nat) (va na atr po : Int) (vf : Value) (L : FL) : Prop where
  box : wr.heap[X]? = some (cfO va na atr po vf)
  hX : w0.heap.size ≤ X
  row : wr.ownsRow w0.heap.size 76 6 vf L.length (fcells L)
  tx : ∀ q ∈ L, Txs wr w0.heap.size q.2.1 q.1.ex
  en : ∀ q ∈ L, Eds wr w0.heap.size q.2.2 q.1.en
  bb : ∀ q ∈ L, BB q.1.ex ∧ ∀ x ∈ q.1.ex, x.length ≤ maxLen
  bel : Below w0.heap.size w0 wr
theorem Bf.below {w0 wr u : World} {X : Nat} {va na atr po : Int} {vf : Value} {L : FL} (h : Bf w0 wr X va na atr po vf L) (hb : Below wr.heap.size wr u) : Bf w0 u X va na atr po vf L :=
  ⟨res_below h.box hb, h.hX, own_below h.row hb, fun q hq => own_below (h.tx q hq) hb, fun q hq => own_below (h.en q hq) hb, h.bb, h.bel.trans (hb.mono h.bel.size)⟩
theorem Bf.rc {w0 wr : World} {X : Nat} {va na atr po : Int} {vf : Value} {L : FL} (h : Bf w0 wr X va na atr po vf L) : Rc wr vf ⟨va, na, atr, po, L.map Prod.fst⟩ L :=
  ⟨⟨Rdg.of h.row, fun q hq => ⟨(h.tx q hq).rts, Rdg.of (h.en q hq), (h.bb q hq).1, (h.bb q hq).2⟩⟩, rfl⟩
theorem Bf.add {w0 wr w' : World} {X : Nat} {va na atr po : Int} {vf vf' : Value} {L : FL} {q : Fc × Value × Value} (h : Bf w0 wr X va na atr po vf L)
    (htx : Txs wr w0.heap.size q.2.1 q.1.ex) (hen : Eds wr w0.heap.size q.2.2 q.1.en) (hbb : BB q.1.ex ∧ ∀ x ∈ q.1.ex, x.length ≤ maxLen)
    (own : w'.ownsRow w0.heap.size 76 6 vf' (L.length + 1) (fcells L ++ fcell q)) (hg : wr.grownBy w' vf.ownBlock) : Bf w0 (w'.setCell ⟨X, 4, none⟩ vf') X va na atr po vf' (L ++ [q]) := by
  have hXlt := (Array.getElem?_eq_some_iff.1 h.box).1
  have hne := box_ne h.row h.box (by decide)
  have hbox : w'.heap[X]? = some (cfO va na atr po vf) := (hg.block X hXlt (fun q => hne q.symm)).trans h.box
  have hne' := box_ne own hbox (by decide)
  have txk : ∀ {v : Value} {ps : List (List Int)}, Txs wr w0.heap.size v ps → Txs (w'.setCell ⟨X, 4, none⟩ vf') w0.heap.size v ps := fun ht => by
    have h1 : Txs w' w0.heap.size _ _ := World.ownsRow.kept ht hg (kind_ne ht h.row (by decide))
    exact ownsRow_setCell_other h1 (box_ne h1 hbox (by decide)) vf'
  have enk : ∀ {v : Value} {ps : List En}, Eds wr w0.heap.size v ps → Eds (w'.setCell ⟨X, 4, none⟩ vf') w0.heap.size v ps := fun ht => by
    have h1 : Eds w' w0.heap.size _ _ := World.ownsRow.kept ht hg (kind_ne ht h.row (by decide))
    exact ownsRow_setCell_other h1 (box_ne h1 hbox (by decide)) vf'
  have bel' : Below w0.heap.size w0 w' := h.bel.grown hg h.bel.size (fun k hk => own_block h.row k hk)
  refine ⟨heap_set5 hbox, h.hX, ?_, fun p hp => ?_, fun p hp => ?_, fun p hp => ?_, bel'.setCell h.hX _⟩
  · rw [fcells_append, List.length_append]
    have := ownsRow_setCell_other (a := ⟨X, 4, none⟩) own hne' vf'
    simpa [fcells] using this
  · rcases List.mem_append.1 hp with hp | hp
    · exact txk (h.tx p hp)
    · simp at hp; subst hp; exact txk htx
  · rcases List.mem_append.1 hp with hp | hp
    · exact enk (h.en p hp)
    · simp at hp; subst hp; exact enk hen
  · rcases List.mem_append.1 hp with hp | hp
    · exact h.bb p hp
    · simp at hp; subst hp; exact hbb
/-- whatever is put in one cell, a row of one's own is one's own -/
theorem own_any {w : World} {B : Nat} {e : TypeId} {s : Nat} {v : Value} {n : Nat} {xs : List Value} (h : w.ownsRow B e s v n xs) (b p : Nat) (u : Value) : ∃ xs', (w.setCell ⟨b, p, none⟩ u).ownsRow B e s v n xs' := by
  by_cases hb : v.ownBlock = some b
  · rcases h.2 with ⟨rfl, h0⟩ | ⟨g, cap, cur, rfl, _⟩
    · cases hb
    · have hgb : g = b := by simpa [Value.ownBlock] using hb
      subst hgb
      exact ⟨_, (World.ownsRow.stored h p u).1⟩
  · exact ⟨xs, ownsRow_setCell_other h hb u⟩
/-- a configuration that is written over, from face i on as it was -/
structure Ds (w0 wr : World) (X : Nat) (va na atr po : Int) (vf : Value) (n : Nat) (D : Nat → Value × Value) (N : Nat → Nat × Nat) (i : Nat) : Prop where
  box : wr.heap[X]? = some (cfO va na atr po vf)
  hX : w0.heap.size ≤ X
  row : ∃ xs, wr.ownsRow w0.heap.size 76 6 vf n xs ∧ ∀ j, i ≤ j → j < n → xs[j * 6 + 4]? = some (D j).1 ∧ xs[j * 6 + 5]? = some (D j).2
  tx : ∀ j, i ≤ j → j < n → ∃ xs, wr.ownsRow w0.heap.size 9 1 (D j).1 (N j).1 xs
  en : ∀ j, i ≤ j → j < n → ∃ xs, wr.ownsRow w0.heap.size 85 5 (D j).2 (N j).2 xs
  bel : Below w0.heap.size w0 wr
theorem Ds.up {w0 wr : World} {X : Nat} {va na atr po : Int} {vf : Value} {n : Nat} {D : Nat → Value × Value} {N : Nat → Nat × Nat} {i k : Nat} (h : Ds w0 wr X va na atr po vf n D N i) (hk : i ≤ k) : Ds w0 wr X va na atr po vf n D N k := by
  obtain ⟨xs, h1, h2⟩ := h.row
  exact ⟨h.box, h.hX, ⟨xs, h1, fun j hj hn => h2 j (by omega) hn⟩, fun j hj hn => h.tx j (by omega) hn, fun j hj hn => h.en j (by omega) hn, h.bel⟩
theorem Ds.below {w0 wr u : World} {X : Nat} {va na atr po : Int} {vf : Value} {n : Nat} {D : Nat → Value × Value} {N : Nat → Nat × Nat} {i : Nat} (h : Ds w0 wr X va na atr po vf n D N i) (hb : Below wr.heap.size wr u) : Ds w0 u X va na atr po vf n D N i := by
  obtain ⟨xs, h1, h2⟩ := h.row
  refine ⟨res_below h.box hb, h.hX, ⟨xs, own_below h1 hb, h2⟩, fun j hj hn => ?_, fun j hj hn => ?_, h.bel.trans (hb.mono h.bel.size)⟩
  · obtain ⟨ys, h3⟩ := h.tx j hj hn; exact ⟨ys, own_below h3 hb⟩
  · obtain ⟨ys, h3⟩ := h.en j hj hn; exact ⟨ys, own_below h3 hb⟩
/-- in a row of another kind -/
theorem Ds.setL {w0 wr : World} {X : Nat} {va na atr po : Int} {vf : Value} {n : Nat} {D : Nat → Value × Value} {N : Nat → Nat × Nat} {i : Nat} (h : Ds w0 wr X va na atr po vf n D N i) {e : TypeId} {s m : Nat} {v : Value} {ys : List Value} {b : Nat}
    (own : wr.ownsRow w0.heap.size e s v m ys) (hv : v.ownBlock = some b) (h1 : e ≠ 76) (h2 : e ≠ 26) (p : Nat) (u : Value) : Ds w0 (wr.setCell ⟨b, p, none⟩ u) X va na atr po vf n D N i := by
  have hXb : X ≠ b := fun q => box_ne own h.box h2 (by rw [hv, q])
  obtain ⟨xs, k1, k2⟩ := h.row
  refine ⟨res_set h.box hXb, h.hX, ⟨xs, ownsRow_setCell_other k1 (fun q => ?_) u, k2⟩, fun j hj hn => ?_, fun j hj hn => ?_, h.bel.setCell (own_block own b hv) _⟩
  · rcases kind_ne own k1 h1 with r | r
    · rw [hv] at r; cases r
    · exact r (by rw [hv]; exact q.symm)
  · obtain ⟨zs, k3⟩ := h.tx j hj hn; exact own_any k3 b p u
  · obtain ⟨zs, k3⟩ := h.en j hj hn; exact own_any k3 b p u
/-- in the row of faces, ahead of face i -/
theorem Ds.setF {w0 wr : World} {X : Nat} {va na atr po : Int} {g n cap : Nat} {D : Nat → Value × Value} {N : Nat → Nat × Nat} {i : Nat} (h : Ds w0 wr X va na atr po (.slice (some ⟨g, 0, none⟩) n cap) n D N i) (p : Nat) (hp : p < i * 6) (u : Value) :
    Ds w0 (wr.setCell ⟨g, p, none⟩ u) X va na atr po (.slice (some ⟨g, 0, none⟩) n cap) n D N i := by
  obtain ⟨xs, k1, k2⟩ := h.row
  have hXg : X ≠ g := fun q => box_ne k1 h.box (by decide) (by rw [q]; rfl)
  refine ⟨res_set h.box hXg, h.hX, ⟨xs.set p u, (World.ownsRow.stored k1 p u).1, fun j hj hn => ?_⟩, fun j hj hn => ?_, fun j hj hn => ?_, h.bel.setCell (own_block k1 g rfl) _⟩
  · obtain ⟨k3, k4⟩ := k2 j hj hn
    have hij := Nat.mul_le_mul_right 6 hj
    rw [List.getElem?_set_ne (by omega), List.getElem?_set_ne (by omega)]
    exact ⟨k3, k4⟩
  · obtain ⟨zs, k3⟩ := h.tx j hj hn; exact own_any k3 g p u
  · obtain ⟨zs, k3⟩ := h.en j hj hn; exact own_any k3 g p u
theorem Inv.ds {w0 wr : World} {X : Nat} {va na atr po : Int} {vf : Value} {L : FL} (h : Inv w0 wr X va na atr po vf L) {Y : Nat} (hY : wr.heap[Y]? = some (cfO va na atr po vf)) (hYl : w0.heap.size ≤ Y) : ∃ D N, Ds w0 wr Y va na atr po vf L.length D N 0 := by
  refine ⟨fun j => (L.getD j (⟨0, 0, 0, 0, [], []⟩, .bool false, .bool false)).2, fun j => ((L.getD j (⟨0, 0, 0, 0, [], []⟩, .bool false, .bool false)).1.ex.length, (L.getD j (⟨0, 0, 0, 0, [], []⟩, .bool false, .bool false)).1.en.length), hY, hYl, ⟨fcells L, h.row, fun j _ hn => ?_⟩, fun j _ hn => ?_, fun j _ hn => ?_, h.bel⟩
  · have e : L[j]? = some (L.getD j (⟨0, 0, 0, 0, [], []⟩, .bool false, .bool false)) := by simp [List.getD, List.getElem?_eq_getElem hn]
    exact ⟨fcells_at L j _ e 4 _ rfl, fcells_at L j _ e 5 _ rfl⟩
  · have e : L.getD j (⟨0, 0, 0, 0, [], []⟩, .bool false, .bool false) ∈ L := by rw [List.getD, List.getElem?_eq_getElem hn]; exact List.getElem_mem hn
    exact ⟨_, h.tx _ e⟩
  · have e : L.getD j (⟨0, 0, 0, 0, [], []⟩, .bool false, .bool false) ∈ L := by rw [List.getD, List.getElem?_eq_getElem hn]; exact List.getElem_mem hn
    exact ⟨_, h.en _ e⟩
theorem own_some {w : World} {B : Nat} {e : TypeId} {s n c : Nat} {a : Option Addr} {xs : List Value} (h : w.ownsRow B e s (.slice a n c) n xs) (hn : 0 < n) : ∃ g, a = some ⟨g, 0, none⟩ := by
  rcases h.2 with ⟨h1, h2⟩ | ⟨g, cap, cur, h1, _⟩
  · omega
  · injection h1 with h1 _ _
    exact ⟨g, h1⟩
/-- a cell of a row of one's own -/
theorem own_cell {w : World} {B : Nat} {e : TypeId} {s n c g : Nat} {xs : List Value} (h : w.ownsRow B e s (.slice (some ⟨g, 0, none⟩) n c) n xs) (j : Nat) (hj : j < n * s) : (∃ v, w.cell? ⟨g, j, none⟩ = some v) ∧ w.frozen? ⟨g, j, none⟩ = false := by
  refine ⟨⟨xs[j]'(by rw [h.1]; exact hj), ?_⟩, World.ownsRow.frozenAt h j⟩
  rw [World.ownsRow.cellAt h j hj, List.getElem?_eq_getElem]
section
variable {w0 wr : World} {X : Nat} {va na atr po : Int} {gf : Option Addr} {n cf : Nat} {D : Nat → Value × Value} {N : Nat → Nat × Nat} {i : Nat}
theorem Ds.face (h : Ds w0 wr X va na atr po (.slice gf n cf) n D N i) (hi : i < n) : ∃ g, gf = some ⟨g, 0, none⟩ ∧ wr.cell? ⟨g, i * 6 + 4, none⟩ = some (D i).1 ∧ wr.cell? ⟨g, i * 6 + 5, none⟩ = some (D i).2 ∧ ∀ r, r < 6 → (∃ v, wr.cell? ⟨g, i * 6 + r, none⟩ = some v) ∧ wr.frozen? ⟨g, i * 6 + r, none⟩ = false := by
  obtain ⟨xs, k1, k2⟩ := h.row
  obtain ⟨g, rfl⟩ := own_some k1 (by omega)
  obtain ⟨k3, k4⟩ := k2 i (Nat.le_refl _) hi
  have hm := Nat.mul_le_mul_right 6 (show i + 1 ≤ n from hi)
  refine ⟨g, rfl, ?_, ?_, fun r hr => own_cell k1 _ (by omega)⟩
  · rw [World.ownsRow.cellAt k1 _ (by omega)]; exact k3
  · rw [World.ownsRow.cellAt k1 _ (by omega)]; exact k4
theorem Ds.ends (h : Ds w0 wr X va na atr po (.slice gf n cf) n D N i) (hi : i < n) : ∃ a c, (D i).2 = .slice a (N i).2 c ∧ (N i).2 ≤ c ∧ c ≤ maxLen := by
  obtain ⟨ys, k3⟩ := h.en i (Nat.le_refl _) hi
  exact own_form k3
theorem Ds.texts (h : Ds w0 wr X va na atr po (.slice gf n cf) n D N i) (hi : i < n) : ∃ a c, (D i).1 = .slice a (N i).1 c ∧ (N i).1 ≤ c ∧ c ≤ maxLen := by
  obtain ⟨ys, k3⟩ := h.tx i (Nat.le_refl _) hi
  exact own_form k3
theorem Ds.endAt (h : Ds w0 wr X va na atr po (.slice gf n cf) n D N i) (hi : i < n) {a : Option Addr} {c k : Nat} (hD : (D i).2 = .slice a (N i).2 c) (hk : k < (N i).2) : ∃ g, a = some ⟨g, 0, none⟩ ∧ (∀ r, r < 5 → (∃ v, wr.cell? ⟨g, k * 5 + r, none⟩ = some v) ∧ wr.frozen? ⟨g, k * 5 + r, none⟩ = false) := by
  obtain ⟨ys, k3⟩ := h.en i (Nat.le_refl _) hi
  rw [hD] at k3
  obtain ⟨g, rfl⟩ := own_some k3 (by omega)
  have hm := Nat.mul_le_mul_right 5 (show k + 1 ≤ (N i).2 from hk)
  exact ⟨g, rfl, fun r hr => own_cell k3 _ (by omega)⟩
theorem Ds.textAt (h : Ds w0 wr X va na atr po (.slice gf n cf) n D N i) (hi : i < n) {a : Option Addr} {c k : Nat} (hD : (D i).1 = .slice a (N i).1 c) (hk : k < (N i).1) : ∃ g, a = some ⟨g, 0, none⟩ ∧ (∃ v, wr.cell? ⟨g, k, none⟩ = some v) ∧ wr.frozen? ⟨g, k, none⟩ = false := by
  obtain ⟨ys, k3⟩ := h.tx i (Nat.le_refl _) hi
  rw [hD] at k3
  obtain ⟨g, rfl⟩ := own_some k3 (by omega)
  exact ⟨g, rfl, own_cell k3 _ (by omega)⟩
theorem Ds.wipeE (h : Ds w0 wr X va na atr po (.slice gf n cf) n D N i) (hi : i < n) {g m c : Nat} (hD : (D i).2 = .slice (some ⟨g, 0, none⟩) m c) (p : Nat) (u : Value) : Ds w0 (wr.setCell ⟨g, p, none⟩ u) X va na atr po (.slice gf n cf) n D N i := by
  obtain ⟨ys, k3⟩ := h.en i (Nat.le_refl _) hi
  exact h.setL k3 (by rw [hD]; rfl) (by decide) (by decide) p u
theorem Ds.wipeT (h : Ds w0 wr X va na atr po (.slice gf n cf) n D N i) (hi : i < n) {g m c : Nat} (hD : (D i).1 = .slice (some ⟨g, 0, none⟩) m c) (p : Nat) (u : Value) : Ds w0 (wr.setCell ⟨g, p, none⟩ u) X va na atr po (.slice gf n cf) n D N i := by
  obtain ⟨ys, k3⟩ := h.tx i (Nat.le_refl _) hi
  exact h.setL k3 (by rw [hD]; rfl) (by decide) (by decide) p u
end
end Go.Proofs.Ytonheibhbilhhaa.desc
