/- plugref: what slices.Clone of ends answers; ends behind ends. -/
import Derived.Test.YtonheibhbilhhaaGreatZBd
import Derived.WalkLawsBesides
namespace Go.Proofs.YtonheibhbilhhaaGreat.desc
open Go.RowKit Go.PlainAid Go.Proofs.YtonheibhbilhhaaGreat.lane
set_option linter.unusedVariables false
set_option linter.unusedSimpArgs false
set_option maxRecDepth 100000
theorem run_append_nothing {P : Program} {w : World} (base : Nat) (t ty e : TypeId) (i : TypeInfo) (size : Nat) (ht : P.underlying t = some (.slice e)) (hi : P.info? e = some i)
  (v : Value) (n : Nat) (xs : List Value) (hown : w.ownsRow base e size v n xs) (c : Nat) : (Builtin.append_ #[t, t] ty #[v, .slice none 0 c]).run P w = .ok v w := by
 rcases hown.2 with ⟨rfl, rfl⟩ | ⟨g, cap, cur, rfl, _, _, hnc, _⟩
 ·simp [Builtin.append_, run_underlying ht, sizeOf, typeInfo, hi, Builtin.lenOf, Builtin.firstCells]
 ·simp [Builtin.append_, run_underlying ht, sizeOf, typeInfo, hi, Builtin.lenOf, Builtin.firstCells, hnc, storeCells]
theorem ecells_one (es : List En) : ∀ u ∈ ecells es, u.oneCell' = true := by
 intro u hu
 obtain ⟨e, _, hu⟩ := List.mem_flatMap.1 hu
 simp only [ecell, List.mem_cons, List.not_mem_nil, or_false] at hu
 rcases hu with rfl | rfl | rfl | rfl | rfl <;> rfl
theorem wp_eds {o : Oper} {a : Act} {w : World} {K : Act → World → Prop} {Q : Exit → Act → World → Prop} (s x : Operand)
  (ho : o.op = .call { callee := .builtin .append, args := #[s, x], argTypes := #[72, 72] }) (B : Nat) (v : Value) (acc : List En) (hs : a.eval s = v) (h : Eds w B v acc)
  (vx : Value) (es : List En) (hx : a.eval x = vx) (hr : Rns w vx es) (hl : acc.length + es.length ≤ 3518437208780) (hB : B ≤ w.heap.size)
  (hK : ∀ v' w', Eds w' B v' (acc ++ es) → w.grownBy w' v.ownBlock → Below B w w' → K (a.put o.dst v') w') : o.wp Tryz.prog a w K Q := by
 obtain ⟨i0, hi, hz0, hz1, hz2⟩ := info_parts infoE
 obtain ⟨ax, cx, rfl, h1, h2, h3, h4⟩ := hr
 cases ax with
 | none =>
  have h0 : es.length = 0 := by
   rcases Nat.eq_zero_or_pos es.length with q | q
   ·exact q
   ·obtain ⟨g, off, q1, _⟩ := h4 q; cases q1
  have hes : es = [] := List.eq_nil_of_length_eq_zero h0
  subst hes
  have hrun := run_append_nothing (P := Tryz.prog) (w := w) B 72 o.type 89 i0 5 Tryz.underlying72 hi v acc.length (ecells acc) h cx
  simp only [List.length_nil] at hx
  have hk := hK v w (by rw [List.append_nil]; exact h) (World.grownBy.refl _ _) (Below.refl _ _)
  unfold Oper.wp
  simp [execOp, ho, resolve, invoke, builtin, hs, hx, hrun, Result.andThen]
  exact hk
 | some ad =>
  refine wp_append_own w s x 72 ho B 89 i0 _ 5 40 Tryz.underlying72 hi hz0 hz1 hz2 rfl (by omega) v acc.length (ecells acc) hs h ad es.length cx (ecells es) hx (ecells_length es) ?_ (ecells_one es) (by unfold maxLen; omega) (by omega) hB ?_
  ·intro j u hj
   have hlt := (List.getElem?_eq_some_iff.1 hj).1
   rw [ecells_length] at hlt
   obtain ⟨g, off, q1, hg, hc⟩ := h4 (by omega)
   injection q1 with q1
   subst q1
   rw [Addr.add_lit]; exact hc j u hj
  ·intro v' w' h1 h2 _
   refine hK v' w' ?_ h2 ((Below.refl _ _).grown h2 hB (own_block h))
   unfold Eds
   rw [List.length_append, ecells_append]
   exact h1
theorem wpList_eds {ops : Array Oper} {rest : List Oper} {o : Oper} {a : Act} {Q : Exit → Act → World → Prop} (w : World) (hgd : o.guard = none) (s x : Operand)
  (ho : o.op = .call { callee := .builtin .append, args := #[s, x], argTypes := #[72, 72] }) (B : Nat) (v : Value) (acc : List En) (hs : a.eval s = v) (h : Eds w B v acc)
  (vx : Value) (es : List En) (hx : a.eval x = vx) (hr : Rns w vx es) (hl : acc.length + es.length ≤ 3518437208780) (hB : B ≤ w.heap.size)
  (hK : ∀ v' w', Eds w' B v' (acc ++ es) → w.grownBy w' v.ownBlock → Below B w w' → wpList Tryz.prog ops Q rest (a.put o.dst v') w') : wpList Tryz.prog ops Q (o :: rest) a w :=
 wpList_plain hgd fun _ hK' => wp_eds s x ho B v acc hs h vx es hx hr hl hB fun v' w' h1 h2 h3 => hK' _ _ (hK v' w' h1 h2 h3)
theorem step_eds {ops : Array Oper} {o : Oper} {a : Act} {w : World} {K : Act → World → Prop} {Q : Exit → Act → World → Prop} {E : Prop} (hgd : o.guard = none) (s x : Operand)
  (ho : o.op = .call { callee := .builtin .append, args := #[s, x], argTypes := #[72, 72] }) (B : Nat) (v : Value) (acc : List En) (hs : a.eval s = v) (h : Eds w B v acc)
  (vx : Value) (es : List En) (hx : a.eval x = vx) (hr : Rns w vx es) (hl : acc.length + es.length ≤ 3518437208780) (hB : B ≤ w.heap.size)
  (hK : ∀ v' w', Eds w' B v' (acc ++ es) → w.grownBy w' v.ownBlock → Below B w w' → K (a.put o.dst v') w') : if Region.wanted o (yielded ops a.tmps) = true then Oper.wp Tryz.prog o a w K Q else E := by
 rw [if_pos (by simp [Region.wanted, hgd])]
 exact wp_eds s x ho B v acc hs h vx es hx hr hl hB hK
theorem Eds.empty (w : World) : Eds (w.alloc (.cells #[] 89)) w.heap.size (.slice (some ⟨w.heap.size, 0, none⟩) 0 0) [] :=
 World.ownsRow_made w #[] 0 (Nat.le_refl _) (Nat.zero_le _) rfl
theorem Eds.rns {w : World} {B : Nat} {v : Value} {es : List En} (h : Eds w B v es) : Rns w v es := Rdg.of h
theorem cloneE_any (v : Value) (es : List En) (w : World) (h : Rns w v es) (hl : es.length ≤ 3518437208780) :
  Calls Tryz.prog 102 #[v] w fun e w' => ∃ v', e = .returned v' ∧ Eds w' w.heap.size v' es ∧ Below w.heap.size w w' := by
 have HR : Hid (Rns w v es) := h
 obtain ⟨ax, cx, rfl, h1, h2, h3, h4⟩ := h
 have HN : Hid (ax = none → es = []) := fun q => by
  subst q
  rcases Nat.eq_zero_or_pos es.length with q | q
  ·exact List.eq_nil_of_length_eq_zero q
  ·obtain ⟨g, off, q1, _⟩ := h4 q; cases q1
 obtain ⟨n, hn⟩ : ∃ n, es.length = n := ⟨_, rfl⟩
 rw [hn] at HR hl ⊢
 have HE : Hid (es.length = n) := hn
 clear h1 h2 h3 h4 hn
 cases ax with
 | none =>
  have hes := HN.out rfl
  subst hes
  have hnl := fun (w : World) => Lib.run_eql_slice_nil (P := Tryz.prog) w 72 89 none n cx 0 0 Tryz.underlying72
  clear HR HN HE
  go_enter Tryz.func102, Tryz.ntmps102
  go_wp2
  go_ret
  exact ⟨_, rfl, Eds.nil _ _, Below.refl _ _⟩
 | some ad =>
  have hnl := fun (w : World) => Lib.run_eql_slice_nil (P := Tryz.prog) w 72 89 (some ad) n cx 0 0 Tryz.underlying72
  clear HN
  go_enter Tryz.func102, Tryz.ntmps102
  go_wp2_with
   (at_builtin
    refine wpList_eds _ rfl _ _ rfl w.heap.size _ [] rfl (Eds.empty w) _ es rfl (HR.out.below (balloc _ _)) (by have := HE.out; simp; omega) (by simp) ?_
    intro v' w' q1 q2 q3
    have t1 : Hid (Eds w' w.heap.size v' es) := q1
    have t2 : Hid (Below w.heap.size w w') := ((Below.refl _ _).alloc (Nat.le_refl _) _).trans q3
    clear q1 q2 q3)
  go_wp2
  go_ret
  exact ⟨_, rfl, t1.out, t2.out⟩
end Go.Proofs.YtonheibhbilhhaaGreat.desc
namespace Go.Proofs.YtonheibhbilhhaaGreat.desc
open Go.RowKit Go.PlainAid Go.Proofs.YtonheibhbilhhaaGreat.lane
set_option linter.unusedVariables false
set_option linter.unusedSimpArgs false
set_option maxRecDepth 100000
theorem Rns.take {w : World} {a : Option Addr} {n c : Nat} {es : List En} (k : Nat) (hk : k ≤ es.length) (h : Rns w (.slice a n c) es) : Rns w (.slice a k c) (es.take k) := by
 obtain ⟨a', c', e, h1, h2, h3, h4⟩ := h
 injection e with e1 e2 e3
 subst e1 e3
 have hl : (es.take k).length = k := by rw [List.length_take]; omega
 refine ⟨a, c, by rw [hl], by omega, h2, by rw [ecells_length], fun hn => ?_⟩
 obtain ⟨g, off, q1, q2, q3⟩ := h4 (by omega)
 refine ⟨g, off, q1, q2, fun j x hx => q3 j x ?_⟩
 have e : es = es.take k ++ es.drop k := (List.take_append_drop k es).symm
 rw [e, ecells_append, List.getElem?_append_left (List.getElem?_eq_some_iff.1 hx).1]
 exact hx
theorem Rts.at {w : World} {a : Option Addr} {n c : Nat} {ps : List (List Int)} (h : Rts w (.slice a n c) ps) : ∀ j p, ps[j]? = some p → ∃ g off, a = some ⟨g, off, none⟩ ∧ w.cell? ⟨g, off + j, none⟩ = some (.string (strOfNums p)) := by
 obtain ⟨a', c', e, _, _, h4⟩ := h.cell
 injection e with e1 e2 e3
 subst e1
 exact h4
theorem Rns.at {w : World} {a : Option Addr} {n c : Nat} {es : List En} (h : Rns w (.slice a n c) es) : ∀ j e, es[j]? = some e → ∃ g off, a = some ⟨g, off, none⟩ ∧ w.cell? ⟨g, off + j * 5, none⟩ = some (.int .i64 e.ad) ∧ w.cell? ⟨g, off + j * 5 + 1, none⟩ = some (.bool e.inw) ∧ w.cell? ⟨g, off + j * 5 + 2, none⟩ = some (.int .i64 e.kd) ∧ w.cell? ⟨g, off + j * 5 + 3, none⟩ = some (.int .i64 e.mx) ∧ w.cell? ⟨g, off + j * 5 + 4, none⟩ = some (.int .i64 e.iv) := by
 obtain ⟨a', c', e, _, _, h4⟩ := h.cell
 injection e with e1 e2 e3
 subst e1
 exact h4
theorem way_in (l : List En) (e : En) : (l.map wayOf).contains (wayOf e) = true ↔ ∃ x ∈ l, x.ad = e.ad ∧ x.inw = e.inw := by
 rw [List.contains_iff_mem, List.mem_map]
 constructor
 ·rintro ⟨x, hx, h⟩
  simp only [wayOf, Prod.mk.injEq] at h
  exact ⟨x, hx, h⟩
 ·rintro ⟨x, hx, h1, h2⟩
  exact ⟨x, hx, by simp only [wayOf, h1, h2]⟩
theorem exOk_parts (x : List Int) (hx : Byt x) (h2 : 2 ≤ x.length) (h32 : x.length ≤ 32) : exOk x = ((bt (strOfNums x) 0 == ((strOfNums x).size : Int)) && !decide (bt (strOfNums x) 1 ≤ 5)) := by
 rw [getD_bt x hx 0 (by omega), getD_bt x hx 1 (by omega), str_size]
 unfold exOk
 rw [decide_eq_true h2, decide_eq_true h32]
 simp only [Bool.true_and]
 congr 1
 rw [Bool.eq_iff_iff]
 simp
 omega
abbrev evO (e : En) : Obj := .cells #[.int .i64 e.ad, .bool e.inw, .int .i64 e.kd, .int .i64 e.mx, .int .i64 e.iv] 89
theorem evC {u w0 : World} (e : En) (hu : w0.alloc (evO e) = u) : u.heap[w0.heap.size]? = some (evO e) := by rw [← hu]; exact (MapKept.heap_alloc w0 _).1
theorem evB {u : World} {X : Nat} {e : En} (h : u.heap[X]? = some (evO e)) : X < u.heap.size ∧ u.cell? ⟨X, 0, none⟩ = some (.int .i64 e.ad) ∧ u.cell? ⟨X, 1, none⟩ = some (.bool e.inw) ∧ u.cell? ⟨X, 2, none⟩ = some (.int .i64 e.kd) ∧ u.cell? ⟨X, 3, none⟩ = some (.int .i64 e.mx) ∧ u.cell? ⟨X, 4, none⟩ = some (.int .i64 e.iv) := by
 refine ⟨(Array.getElem?_eq_some_iff.1 h).1, ?_, ?_, ?_, ?_, ?_⟩ <;> (rw [cell_of_row u X _ _ _ (0, 0) h]; rfl)
structure FcC (u : World) (B : Nat) (f : Fc) (ve vd : Value) : Prop where
 c0 : u.cell? ⟨B, 0, none⟩ = some (.int .i64 f.cl)
 c1 : u.cell? ⟨B, 1, none⟩ = some (.int .i64 f.su)
 c2 : u.cell? ⟨B, 2, none⟩ = some (.int .i64 f.pr)
 c3 : u.cell? ⟨B, 3, none⟩ = some (.int .i64 f.nm)
 c4 : u.cell? ⟨B, 4, none⟩ = some ve
 c5 : u.cell? ⟨B, 5, none⟩ = some vd
 ex : Rts u ve f.ex
 en : Rns u vd f.en
set_option maxHeartbeats 8000000 in
theorem faceError_any (q : Fc × Value × Value) (va : Value) (ah : List En) (w : World) (hf : Rf w q) (ha : Rns w va ah) (hl : ah.length ≤ 1000) :
  Calls Tryz.prog 70 #[fcV q.1 q.2.1 q.2.2, va] w fun e w' => e = .returned (.int .i64 (chkF (ah.map wayOf) q.1)) ∧ Below w.heap.size w w' := by
 obtain ⟨⟨cl, su, pr, nm, ex, en⟩, ve, vd⟩ := q
 obtain ⟨hfx, hfn, hfb, hfz⟩ := hf
 simp only at hfx hfn hfb hfz ⊢
 have HBW : Hid (∀ (n l m : Int) (w : World), Calls Tryz.prog 13 #[.int .i64 n, .int .i64 l, .int .i64 m] w fun e w' => e = .returned (.bool (decide (l ≤ n) && decide (n ≤ m))) ∧ w = w') := between_any
 obtain ⟨w0, hw0⟩ : ∃ w0, w.alloc (.cells #[.int .i64 cl, .int .i64 su, .int .i64 pr, .int .i64 nm, ve, vd] 74) = w0 := ⟨_, rfl⟩
 have hb0 : Below w.heap.size w w0 := by rw [← hw0]; exact balloc _ _
 have hF0 : w0.heap[w.heap.size]? = some (.cells #[.int .i64 cl, .int .i64 su, .int .i64 pr, .int .i64 nm, ve, vd] 74) := by rw [← hw0]; exact (MapKept.heap_alloc w _).1
 have HX : Hid (∀ u, Below w0.heap.size w0 u → FcC u w.heap.size ⟨cl, su, pr, nm, ex, en⟩ ve vd) := fun u hu => by
  obtain ⟨x0, x1, x2, x3, x4, x5⟩ := box6r (res_below hF0 hu)
  exact ⟨x0, x1, x2, x3, x4, x5, hfx.below (bsq hb0 hu), hfn.below (bsq hb0 hu)⟩
 have HAH : Hid (∀ u, Below w0.heap.size w0 u → Rns u va ah) := fun u hu => ha.below (bsq hb0 hu)
 have HB0 : Hid (Below w.heap.size w w0) := hb0
 obtain ⟨w1, hw1⟩ : ∃ w1, w0.alloc (.cells #[.int .i64 cl, .int .i64 su, .int .i64 pr, .int .i64 nm] 3) = w1 := ⟨_, rfl⟩
 have hb1 : Below w0.heap.size w0 w1 := by rw [← hw1]; exact balloc _ _
 have HO1 : Hid (Calls Tryz.prog 41 #[.slice (some ⟨w0.heap.size, 0, none⟩) 4 4] w1 fun e w' => e = .returned (.tuple #[.string (bof [cl, su, pr, nm]), .bool (allB 255 [cl, su, pr, nm])]) ∧ Below w1.heap.size w1 w') := by
  rw [← hw1]
  exact bytesOf_any _ [cl, su, pr, nm] _ (Rig.new w0 [cl, su, pr, nm] 3 (by simp [maxLen])) (by simp)
 have HB1 : Hid (Below w0.heap.size w0 w1) := hb1
 have HFB : Hid (∀ x ∈ ex, Byt x ∧ x.length ≤ maxLen) := fun x hx => ⟨hfb x hx, hfz x hx⟩
 obtain ⟨z, hz⟩ : ∃ z, chkF (ah.map wayOf) ⟨cl, su, pr, nm, ex, en⟩ = z := ⟨_, rfl⟩
 have HZ : Hid ((if allB 255 [cl, su, pr, nm] = false then 1 else if 2 < ex.length then 2 else if ex.all exOk = false then 1 else if 4 < en.length then 2 else chkE (ah.map wayOf) en) = z) := by
  show _ = _
  rw [← hz]; unfold chkF; rw [headF_is]
 rw [hz]
 generalize bof [cl, su, pr, nm] = bo at *
 generalize allB 255 [cl, su, pr, nm] = ok at *
 obtain ⟨ax, cx, rfl, hlx, hcx, _⟩ := hfx.cell
 obtain ⟨an, cn, rfl, hln, hcn, _⟩ := hfn.cell
 obtain ⟨aa, ca, rfl, hla, hca, _⟩ := ha.cell
 unfold maxLen at hcx hcn hca
 obtain ⟨f0, f1, f2, f3, f4, f5, _, _⟩ := HX.out w0 (Below.refl _ _)
 simp only at f0 f1 f2 f3 f4 f5
 obtain ⟨nx, hnx⟩ : ∃ n, ex.length = n := ⟨_, rfl⟩
 obtain ⟨nd, hnd⟩ : ∃ n, en.length = n := ⟨_, rfl⟩
 obtain ⟨na, hna⟩ : ∃ n, ah.length = n := ⟨_, rfl⟩
 have HNX : Hid (ex.length = nx) := hnx
 have HND : Hid (en.length = nd) := hnd
 have HNA : Hid (ah.length = na) := hna
 rw [hnx, hnd] at HX HZ
 rw [hna] at HAH hl hla
 rw [hnx] at hlx f4
 rw [hnd] at hln f5
 rw [hnx, hnd] at hw0
 rw [hnx, hnd, hna]
 clear hfx hfn hfb hfz ha hb0 hb1 hF0 hz hnx hnd hna
 go_enter Tryz.func70, Tryz.ntmps70
 go_wp2_with fail
 refine HO1.out.mono ?_
 rintro e wa ⟨rfl, hba⟩
 have HBa : Hid (Below w0.heap.size w0 wa) := bsq HB1.out hba
 have HBa' : Hid (Below w.heap.size w wa) := bsq HB0.out HBa.out
 clear hba f0 f1 f2 f3 f4 f5
 obtain ⟨f0, f1, f2, f3, f4, f5, hEx, hEn⟩ := HX.out wa HBa.out
 simp only at f0 f1 f2 f3 f4 f5
 have HEx : Hid (Rts wa (.slice ax nx cx) ex) := hEx
 clear hEx hEn HO1 HB1 hw1 hw0
 cases ok
 ·have HR : Hid (1 = z) := by have := HZ.out; rw [if_pos rfl] at this; exact this
  go_wp2
  go_ret
  rw [HR.out]
  exact ⟨rfl, HBa'.out⟩
 rw [if_neg (by simp)] at HZ
 by_cases hx2 : 2 < nx
 ·have HR : Hid (2 = z) := by have := HZ.out; rw [if_pos hx2] at this; exact this
  go_wp2
  go_ret
  rw [HR.out]
  exact ⟨rfl, HBa'.out⟩
 rw [if_neg hx2] at HZ
 go_wp2
 go_loop [35] (fun i => ∃ k : Nat, k ≤ nx ∧ i = .int .i64 (k : Int) ∧ Hid ((ex.drop k).all exOk = ex.all exOk)) (fun i => nx - (intOf i).toNat)
 case atStart => exact ⟨0, Nat.zero_le _, rfl, rfl⟩
 case round =>
  obtain ⟨k, hk, rfl, HR⟩ := hrel
  by_cases hlt : k < nx
  ·have hk1 : k < ex.length := by have := HNX.out; omega
   obtain ⟨x, hx⟩ : ∃ x, ex[k]? = some x := ⟨ex[k], List.getElem?_eq_getElem hk1⟩
   obtain ⟨g, off, rfl, c1⟩ := HEx.out.at k x hx
   obtain ⟨hxb, hxm⟩ := HFB.out x (List.mem_of_getElem? hx)
   have hR := HR.out
   rw [all_drop ex k x hx] at hR
   have hbt := get_bt (strOfNums x)
   have b0 := bt_le (strOfNums x) 0
   have b1 := bt_nonneg (strOfNums x) 0
   have hsz := str_size x
   have HB2 : Hid (∀ w : World, Calls Tryz.prog 13 #[.int .i64 ((strOfNums x).size : Int), .int .i64 2, .int .i64 32] w fun e w' => e = .returned (.bool (decide (2 ≤ ((strOfNums x).size : Int)) && decide (((strOfNums x).size : Int) ≤ 32))) ∧ w = w') := fun w => HBW.out _ _ _ w
   unfold maxLen at hxm
   by_cases hin : 2 ≤ x.length ∧ x.length ≤ 32
   ·have hep := exOk_parts x hxb hin.1 hin.2
    rw [hep] at hR
    rw [← hsz] at hin hxm
    generalize strOfNums x = t at *
    rw [decide_eq_true (show (2 : Int) ≤ (t.size : Int) by omega), decide_eq_true (show (t.size : Int) ≤ 32 by omega)] at HB2
    obtain ⟨hin1, hin2⟩ := hin
    clear hx hxb hep hsz
    by_cases h4 : bt t 0 = (t.size : Int)
    ·have e1 : (bt t 0 == (t.size : Int)) = true := by simpa using h4
     have e1' : (bt t 0 != (t.size : Int)) = false := by simpa using h4
     by_cases h5 : bt t 1 ≤ 5
     ·rw [e1, decide_eq_true h5] at hR
      have HH : Hid (1 = z) := by have := HZ.out; rw [← hR, if_pos (by simp)] at this; exact this
      clear hR HR h4 e1
      go_wp2_with fail
      refine (HB2.out _).mono ?_
      rintro e w2 ⟨rfl, rfl⟩
      go_wp2
      go_ret
      rw [HH.out]
      exact ⟨rfl, HBa'.out⟩
     ·rw [e1, decide_eq_false h5] at hR
      have HH : Hid ((ex.drop (k + 1)).all exOk = ex.all exOk) := by show _ = _; rw [← hR]; simp
      clear hR HR h4 e1
      go_wp2_with fail
      refine (HB2.out _).mono ?_
      rintro e w2 ⟨rfl, rfl⟩
      go_wp2
      go_round
      case rel => exact ⟨k + 1, by omega, by go_num, HH⟩
      case measure => simp [intOf]; omega
    ·have e1 : (bt t 0 == (t.size : Int)) = false := by simpa using h4
     have e1' : (bt t 0 != (t.size : Int)) = true := by simpa using h4
     rw [e1] at hR
     have HH : Hid (1 = z) := by have := HZ.out; rw [← hR, if_pos (by simp)] at this; exact this
     clear hR HR h4 e1
     go_wp2_with fail
     refine (HB2.out _).mono ?_
     rintro e w2 ⟨rfl, rfl⟩
     go_wp2
     go_ret
     rw [HH.out]
     exact ⟨rfl, HBa'.out⟩
   ·have hno : exOk x = false := by
     cases h : exOk x
     ·rfl
     ·exact absurd ((exOk_iff x).1 h).1 hin
    rw [hno, Bool.false_and] at hR
    have HH : Hid (1 = z) := by have := HZ.out; rw [← hR, if_pos rfl] at this; exact this
    have hdd : (decide (2 ≤ ((strOfNums x).size : Int)) && decide (((strOfNums x).size : Int) ≤ 32)) = false := by
     rw [hsz]
     rw [Bool.and_eq_false_iff, decide_eq_false_iff_not, decide_eq_false_iff_not]
     omega
    rw [hdd] at HB2
    rw [← hsz] at hxm
    generalize strOfNums x = t at *
    clear hR HR hx hxb hin hsz hdd
    go_wp2_with fail
    refine (HB2.out _).mono ?_
    rintro e w2 ⟨rfl, rfl⟩
    go_wp2
    go_ret
    rw [HH.out]
    exact ⟨rfl, HBa'.out⟩
  ·have hR := HR.out
   rw [List.drop_eq_nil_of_le (by have := HNX.out; omega)] at hR
   have hA : ex.all exOk = true := hR.symm
   rw [hA, if_neg (by simp)] at HZ
   clear HR hR hA HFB HEx
   by_cases hn4 : 4 < nd
   ·have HH : Hid (2 = z) := by have := HZ.out; rw [if_pos hn4] at this; exact this
    go_wp2
    go_ret
    rw [HH.out]
    exact ⟨rfl, HBa'.out⟩
   rw [if_neg hn4] at HZ
   go_wp2
   go_loopw [64] (fun i wr => ∃ k : Nat, k ≤ nd ∧ i = .int .i64 (k : Int) ∧ Below w0.heap.size w0 wr ∧ Hid (chkE (ah.map wayOf ++ (en.take k).map wayOf) (en.drop k) = z)) (fun i _ => nd - (intOf i).toNat)
   case atStart => exact ⟨0, Nat.zero_le _, rfl, HBa.out, by show _ = _; simpa using HZ.out⟩
   case round =>
    obtain ⟨k, hk, rfl, hbr, HR⟩ := hrel
    obtain ⟨wo, rfl⟩ : ∃ wo, wo = wr := ⟨_, rfl⟩
    by_cases hlt : k < nd
    ·have hk1 : k < en.length := by have := HND.out; omega
     obtain ⟨e, he⟩ : ∃ e, en[k]? = some e := ⟨en[k], List.getElem?_eq_getElem hk1⟩
     have hFr := HX.out wo hbr
     obtain ⟨g, off, rfl, c0, c1, c2, c3, c4⟩ := hFr.en.at k e he
     have hR := HR.out
     rw [List.drop_eq_getElem_cons hk1, (List.getElem?_eq_some_iff.1 he).2] at hR
     have htw := take_way (ah.map wayOf) en k e he
     obtain ⟨w2, hw2⟩ : ∃ w2, wo.alloc (evO e) = w2 := ⟨_, rfl⟩
     have hb2 : Below wo.heap.size wo w2 := by rw [← hw2]; exact balloc _ _
     have hE2 := evC e hw2
     obtain ⟨hz2, e0, e1, e2, e3, e4⟩ := evB hE2
     have HE2 : Hid (w2.heap[wo.heap.size]? = some (evO e)) := hE2
     have HB2 : Hid (Below w0.heap.size w0 w2) := bsq hbr hb2
     have HB2' : Hid (Below w.heap.size w w2) := bsq HB0.out HB2.out
     have hok : endOk e = ((decide (1 ≤ e.ad) && decide (e.ad ≤ 15)) && ((decide (0 ≤ e.kd) && decide (e.kd ≤ 3)) && ((decide (1 ≤ e.mx) && decide (e.mx ≤ 64)) && (decide (0 ≤ e.iv) && decide (e.iv ≤ 255))))) := rfl
     have K1 : Hid (∀ w : World, Calls Tryz.prog 13 #[.int .i64 e.ad, .int .i64 1, .int .i64 15] w fun r w' => r = .returned (.bool (decide (1 ≤ e.ad) && decide (e.ad ≤ 15))) ∧ w = w') := fun w => HBW.out _ _ _ w
     have K2 : Hid (∀ w : World, Calls Tryz.prog 13 #[.int .i64 e.kd, .int .i64 0, .int .i64 3] w fun r w' => r = .returned (.bool (decide (0 ≤ e.kd) && decide (e.kd ≤ 3))) ∧ w = w') := fun w => HBW.out _ _ _ w
     have K3 : Hid (∀ w : World, Calls Tryz.prog 13 #[.int .i64 e.mx, .int .i64 1, .int .i64 64] w fun r w' => r = .returned (.bool (decide (1 ≤ e.mx) && decide (e.mx ≤ 64))) ∧ w = w') := fun w => HBW.out _ _ _ w
     have K4 : Hid (∀ w : World, Calls Tryz.prog 13 #[.int .i64 e.iv, .int .i64 0, .int .i64 255] w fun r w' => r = .returned (.bool (decide (0 ≤ e.iv) && decide (e.iv ≤ 255))) ∧ w = w') := fun w => HBW.out _ _ _ w
     have hbad : endOk e = false → 1 = z := fun h => by rw [chkE_bad h] at hR; exact hR
     have HTW : Hid _ := htw
     have HRR : Hid (endOk e = true → (if (ah.map wayOf ++ (en.take k).map wayOf).contains (wayOf e) = true then 13 else chkE (ah.map wayOf ++ (en.take k).map wayOf ++ [wayOf e]) (en.drop (k + 1))) = z) := fun h => by
      rw [chkE, if_neg (by simp [h])] at hR; exact hR
     have HBAD : Hid _ := hbad
     have HEK : Hid (en[k]? = some e) := he
     rw [hok] at HRR HBAD
     generalize (decide (1 ≤ e.ad) && decide (e.ad ≤ 15)) = b1 at *
     generalize (decide (0 ≤ e.kd) && decide (e.kd ≤ 3)) = b2 at *
     generalize (decide (1 ≤ e.mx) && decide (e.mx ≤ 64)) = b3 at *
     generalize (decide (0 ≤ e.iv) && decide (e.iv ≤ 255)) = b4 at *
     have hf5 := (HX.out w2 HB2.out).c5
     clear hb2 hE2 hFr hR htw HR hok hbad he hbr f0 f1 f2 f3 f4 f5
     cases b1
     ·have HH : Hid (1 = z) := HBAD.out (by simp)
      obtain ⟨ad, inw, kd, mx, iv⟩ := e
      simp only at *
      go_wp2_with fail
      refine (K1.out _).mono ?_
      rintro r w3 ⟨rfl, rfl⟩
      go_wp2
      go_ret
      rw [HH.out]
      exact ⟨rfl, HB2'.out⟩
     cases b2
     ·have HH : Hid (1 = z) := HBAD.out (by simp)
      obtain ⟨ad, inw, kd, mx, iv⟩ := e
      simp only at *
      go_wp2_with fail
      refine (K1.out _).mono ?_
      rintro r w3 ⟨rfl, rfl⟩
      go_wp2_with fail
      refine (K2.out _).mono ?_
      rintro r w3 ⟨rfl, rfl⟩
      go_wp2
      go_ret
      rw [HH.out]
      exact ⟨rfl, HB2'.out⟩
     cases b3
     ·have HH : Hid (1 = z) := HBAD.out (by simp)
      obtain ⟨ad, inw, kd, mx, iv⟩ := e
      simp only at *
      go_wp2_with fail
      refine (K1.out _).mono ?_
      rintro r w3 ⟨rfl, rfl⟩
      go_wp2_with fail
      refine (K2.out _).mono ?_
      rintro r w3 ⟨rfl, rfl⟩
      go_wp2_with fail
      refine (K3.out _).mono ?_
      rintro r w3 ⟨rfl, rfl⟩
      go_wp2
      go_ret
      rw [HH.out]
      exact ⟨rfl, HB2'.out⟩
     cases b4
     ·have HH : Hid (1 = z) := HBAD.out (by simp)
      obtain ⟨ad, inw, kd, mx, iv⟩ := e
      simp only at *
      go_wp2_with fail
      refine (K1.out _).mono ?_
      rintro r w3 ⟨rfl, rfl⟩
      go_wp2_with fail
      refine (K2.out _).mono ?_
      rintro r w3 ⟨rfl, rfl⟩
      go_wp2_with fail
      refine (K3.out _).mono ?_
      rintro r w3 ⟨rfl, rfl⟩
      go_wp2_with fail
      refine (K4.out _).mono ?_
      rintro r w3 ⟨rfl, rfl⟩
      go_wp2
      go_ret
      rw [HH.out]
      exact ⟨rfl, HB2'.out⟩
     have HR2 : Hid _ := HRR.out (by simp)
     have HWI : Hid _ := way_in (ah ++ en.take k) e
     rw [List.map_append] at HWI
     obtain ⟨N, hN⟩ : ∃ N, (ah ++ en.take k).length = N := ⟨_, rfl⟩
     have hNv : N = na + k := by rw [← hN, List.length_append, List.length_take, HNA.out]; omega
     have hsl : ∀ W : World, (Instr.slice 72 (.slice (some ⟨g, off, none⟩) nd cn) none (some (.int .i64 (k : Int))) none).run Tryz.prog W = .ok (.slice (some ⟨g, off, none⟩) k cn) W := fun W => by
      have := run_slice_h (P := Tryz.prog) (w := W) 72 (some ⟨g, off, none⟩) nd cn Tryz.underlying72 .i64 (k : Int) (by omega) (by omega)
      simp [this, go_sem, sliced]
     have HTK : Hid (∀ u, Below w0.heap.size w0 u → Rns u (.slice (some ⟨g, off, none⟩) k cn) (en.take k)) := fun u hu => ((HX.out u hu).en).take k (by omega)
     have HCL : Hid (∀ u, Below w0.heap.size w0 u → Calls Tryz.prog 102 #[.slice aa na ca] u fun e w' => ∃ v', e = .returned v' ∧ Eds w' u.heap.size v' ah ∧ Below u.heap.size u w') := fun u hu => cloneE_any _ ah u (HAH.out u hu) (by have := HNA.out; omega)
     have q1 : w2.drew.cell? ⟨w.heap.size, 5, none⟩ = some (.slice (some ⟨g, off, none⟩) nd cn) := hf5
     have q2 : Hid (Below w0.heap.size w0 w2.drew) := HB2.out.drew
     have q3 : Hid (w2.drew.heap[wo.heap.size]? = some (evO e)) := HE2.out
     have HNN : Hid ((ah ++ en.take k).length = N) := hN
     obtain ⟨ad, inw, kd, mx, iv⟩ := e
     simp only at *
     clear HBAD HRR hN HAH HX
     go_wp2_with fail
     refine (K1.out _).mono ?_
     rintro r w3 ⟨rfl, rfl⟩
     go_wp2_with fail
     refine (K2.out _).mono ?_
     rintro r w3 ⟨rfl, rfl⟩
     go_wp2_with fail
     refine (K3.out _).mono ?_
     rintro r w3 ⟨rfl, rfl⟩
     go_wp2_with fail
     refine (K4.out _).mono ?_
     rintro r w3 ⟨rfl, rfl⟩
     clear K1 K2 K3 K4 e0 e1 e2 e3 e4 c0 c1 c2 c3 c4 hw2
     go_wp2_with fail
     go_region_law (first
      | (refine step_call (by rfl) 102 #[.slice aa na ca] (by simp [execOp, go_sem]) ?_
         refine (HCL.out _ q2.out).mono ?_
         rintro r v1 ⟨vc, rfl, hE1, hb1⟩
         refine ⟨_, rfl, ?_⟩
         have t1 : v1.cell? ⟨w.heap.size, 5, none⟩ = some (.slice (some ⟨g, off, none⟩) nd cn) := kc hb1 q1
         have t2 : Hid (Eds v1 w2.heap.size vc ah ∧ Below w0.heap.size w0 v1 ∧ v1.heap[wo.heap.size]? = some (evO ⟨ad, inw, kd, mx, iv⟩) ∧ w2.heap.size ≤ v1.heap.size) := ⟨hE1, bsq q2.out hb1, res_below q3.out hb1, hb1.size⟩
         clear hE1 hb1)
      | (refine step_eds (by rfl) _ _ (by rfl) w2.heap.size vc ah (by rfl) t2.out.1 (.slice (some ⟨g, off, none⟩) k cn) (en.take k) (by rfl) (HTK.out _ t2.out.2.1) (by rw [List.length_take, HNA.out]; omega) t2.out.2.2.2 ?_
         intro v5 w5 h5 hg5 hb5
         have t6 : Hid (Below w0.heap.size w0 w5 ∧ w5.heap[wo.heap.size]? = some (evO ⟨ad, inw, kd, mx, iv⟩)) := ⟨t2.out.2.1.trans (hb5.mono HB2.out.size), (hb5.block _ hz2).trans t2.out.2.2.1⟩
         have t7 := Eds.rns h5
         obtain ⟨a5, c5, rfl, hn5, hc5⟩ := own_form h5
         rw [HNN.out] at t7 hn5 ⊢
         have t8 : Hid (Rns w5 (.slice a5 N c5) (ah ++ en.take k)) := t7
         unfold maxLen at hc5
         clear h5 hg5 hb5 t7 t1 t2))
     all_goals go_wp2
     all_goals go_simp
     all_goals
      (go_loopw [99] (fun i wr => ∃ j : Nat, j ≤ N ∧ i = .int .i64 (j : Int) ∧ Below w5.heap.size w5 wr ∧ Hid (∀ x ∈ (ah ++ en.take k).take j, ¬ (x.ad = ad ∧ x.inw = inw))) (fun i _ => N - (intOf i).toNat)
       case atStart => exact ⟨0, Nat.zero_le _, rfl, Below.refl _ _, fun x hx => by simp at hx⟩
       case round =>
        obtain ⟨j, hj, rfl, hbq, HM⟩ := hrel
        by_cases hlt2 : j < N
        ·have hj1 : j < (ah ++ en.take k).length := by have := HNN.out; omega
         obtain ⟨x, hx⟩ : ∃ x, (ah ++ en.take k)[j]? = some x := ⟨_, List.getElem?_eq_getElem hj1⟩
         obtain ⟨g5, off5, rfl, d0, d1, d2, d3, d4⟩ := (Rns.below t8.out hbq).at j x hx
         obtain ⟨w6, hw6⟩ : ∃ w6, wr.alloc (evO x) = w6 := ⟨_, rfl⟩
         have hb6 : Below wr.heap.size wr w6 := by rw [← hw6]; exact balloc _ _
         obtain ⟨hzx, x0, x1, x2, x3, x4⟩ := evB (evC x hw6)
         obtain ⟨hzy, y0, y1, y2, y3, y4⟩ := evB (res_below (res_below t6.out.2 hbq) hb6)
         have HB6 : Hid (Below w5.heap.size w5 w6) := bsq hbq hb6
         have HB6' : Hid (Below w.heap.size w w6) := bsq HB0.out (bsq t6.out.1 HB6.out)
         have HNX2 : Hid (¬ (x.ad = ad ∧ x.inw = inw) → ∀ y ∈ (ah ++ en.take k).take (j + 1), ¬ (y.ad = ad ∧ y.inw = inw)) := fun h y hy => by
          rw [List.take_succ_eq_append_getElem hj1, (List.getElem?_eq_some_iff.1 hx).2] at hy
          rcases List.mem_append.1 hy with hy | hy
          ·exact HM.out y hy
          ·simp at hy; subst hy; exact h
         have HYE : Hid (x.ad = ad ∧ x.inw = inw → 13 = z) := fun h => by
          have h1 := HWI.out.2 ⟨x, List.mem_of_getElem? hx, h⟩
          have h2 := HR2.out
          rw [if_pos h1] at h2
          exact h2
         obtain ⟨xad, xinw, xkd, xmx, xiv⟩ := x
         simp only at *
         clear hb6 hbq HM hx hj1
         by_cases h1 : xad = ad
         ·have e1 : (xad == ad) = true := by simpa using h1
          by_cases h2 : xinw = inw
          ·have e2 : (xinw == inw) = true := by simpa using h2
           have HH : Hid (13 = z) := HYE.out ⟨h1, h2⟩
           clear HYE HNX2 h1 h2
           go_wp2
           go_ret
           rw [HH.out]
           exact ⟨rfl, HB6'.out⟩
          ·have e2 : (xinw == inw) = false := by simpa using h2
           have HH : Hid _ := HNX2.out (fun q => h2 q.2)
           clear HYE HNX2 h1 h2
           go_wp2
           go_roundw
           case rel => exact ⟨j + 1, by omega, by go_num, HB6.out, HH.out⟩
           case measure => simp [intOf]; omega
         ·have e1 : (xad == ad) = false := by simpa using h1
          have HH : Hid _ := HNX2.out (fun q => h1 q.1)
          clear HYE HNX2 h1
          go_wp2
          go_roundw
          case rel => exact ⟨j + 1, by omega, by go_num, HB6.out, HH.out⟩
          case measure => simp [intOf]; omega
        ·have HH : Hid (chkE (ah.map wayOf ++ (en.take (k + 1)).map wayOf) (en.drop (k + 1)) = z) := by
          have h1 : ¬ ((ah.map wayOf ++ (en.take k).map wayOf).contains (wayOf ⟨ad, inw, kd, mx, iv⟩) = true) := fun q => by
           obtain ⟨x, hx, h2⟩ := HWI.out.1 q
           have h3 := HM.out x
           rw [List.take_of_length_le (by have := HNN.out; omega)] at h3
           exact h3 hx h2
          have h2 := HR2.out
          rw [if_neg h1, HTW.out] at h2
          exact h2
         have HBq : Hid (Below w0.heap.size w0 wr) := bsq t6.out.1 hbq
         clear HM hbq
         go_wp2
         go_roundw
         case rel => exact ⟨k + 1, by omega, by go_num, HBq.out, HH⟩
         case measure => simp [intOf]; omega)
    ·have hR := HR.out
     rw [List.drop_eq_nil_of_le (by have := HND.out; omega)] at hR
     have HH : Hid (0 = z) := hR
     have HBr : Hid (Below w.heap.size w wo) := bsq HB0.out hbr
     clear HR hR hbr
     go_wp2
     go_ret
     rw [HH.out]
     exact ⟨rfl, HBr.out⟩
end Go.Proofs.YtonheibhbilhhaaGreat.desc
