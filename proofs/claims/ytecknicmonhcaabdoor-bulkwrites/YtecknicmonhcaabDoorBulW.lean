/- a plain region of many like parts, part by part: the frame is a letter of which some slots are known. -/
import Derived.Test.YtecknicmonhcaabDoorBulV
namespace Go.Proofs.YtecknicmonhcaabDoor.bulk
open Go Go.RowKit Go.PlainAid Go.Proofs.YtecknicmonhcaabDoor.lane Go.Proofs.YtecknicmonhcaabDoor.pipe Go.Proofs.YtecknicmonhcaabDoor.strike
set_option linter.unusedVariables false
set_option linter.unusedSimpArgs false
set_option maxRecDepth 100000

/-- a' is a, but for n slots from lo on -/
structure Lay (a a' : Act) (lo n : Nat) : Prop where
  size : a'.tmps.size = a.tmps.size
  defers : a'.defers = a.defers
  out : ∀ k, (k < lo ∨ lo + n ≤ k) → a'.tmps[k]? = a.tmps[k]?
theorem Lay.refl (a : Act) (lo : Nat) : Lay a a lo 0 := ⟨rfl, rfl, fun _ _ => rfl⟩
theorem Lay.put {a b : Act} {lo n : Nat} (h : Lay a b lo n) (v : Value) : Lay a (b.put (some (lo + n)) v) lo (n + 1) := by
  refine ⟨by simp [Act.put, h.size], h.defers, fun k hk => ?_⟩
  rw [← h.out k (by omega)]
  simp only [Act.put]
  rw [Array.getElem?_setIfInBounds]
  rw [if_neg (by omega)]
theorem Lay.more {a b c : Act} {lo n m : Nat} (h : Lay a b lo n) (g : Lay b c (lo + n) m) : Lay a c lo (n + m) :=
  ⟨g.size.trans h.size, g.defers.trans h.defers, fun k hk => (g.out k (by omega)).trans (h.out k (by omega))⟩
theorem Lay.lit {a a' : Act} {lo n N : Nat} {l : List Value} (h : Lay a a' lo n) (ha : a.tmps = l.toArray) (hN : l.length = N) (hn : lo + n ≤ N) :
    a'.tmps = (l.take lo ++ ((List.range n).map (fun k => a'.tmps.getD (lo + k) undef) ++ l.drop (lo + n))).toArray := by
  have hs : a'.tmps.size = N := by rw [h.size, ha]; simpa using hN
  apply Array.ext'
  apply List.ext_getElem?
  intro k
  have e0 : a'.tmps.toList[k]? = a'.tmps[k]? := by simp
  rw [e0]
  show _ = (_ : List Value)[k]?
  by_cases h1 : k < lo
  · rw [h.out k (.inl h1), ha, List.getElem?_append_left (by rw [List.length_take]; omega), List.getElem?_take, if_pos h1]
    simp
  · rw [List.getElem?_append_right (by rw [List.length_take]; omega), List.length_take, Nat.min_eq_left (by omega)]
    by_cases h2 : k < lo + n
    · rw [List.getElem?_append_left (by rw [List.length_map, List.length_range]; omega), List.getElem?_map, List.getElem?_range (by omega)]
      show _ = some (a'.tmps.getD (lo + (k - lo)) undef)
      rw [show lo + (k - lo) = k by omega]
      have hk : k < a'.tmps.size := by omega
      simp [hk]
    · rw [List.getElem?_append_right (by rw [List.length_map, List.length_range]; omega), List.length_map, List.length_range, List.getElem?_drop, show lo + n + (k - lo - n) = k by omega, h.out k (.inr (by omega)), ha]
      simp
theorem Lay.fin {a a' : Act} {lo n N : Nat} {l : List Value} (h : Lay a a' lo n) (ha : a = ⟨l.toArray, []⟩) (hN : l.length = N) (hn : lo + n ≤ N) (k : Nat) (hk : k < lo) (v : Value) :
    a'.put (some k) v = ⟨((l.set k v).take lo ++ ((List.range n).map (fun j => a'.tmps.getD (lo + j) undef) ++ l.drop (lo + n))).toArray, []⟩ := by
  have e := h.lit (l := l) (by rw [ha]) hN hn
  have d := h.defers
  rw [ha] at d
  obtain ⟨t, df⟩ := a'
  simp only at e d
  subst d
  simp only [Act.put]
  congr 1
  conv => lhs; rw [e]
  rw [List.setIfInBounds_toArray, List.set_append_left _ _ (by rw [List.length_take]; omega), List.take_set]
theorem wpl_abs {P : Program} {ops : Array Oper} {l : List Oper} {a : Act} {w : World} {Q : Exit → Act → World → Prop} (h : ∀ a0, a0 = a → wpList P ops Q l a0 w) : wpList P ops Q l a w := h a rfl
theorem ev_of {a : Act} {k : Nat} {v : Value} (h : a.tmps[k]? = some v) : a.eval (.tmp k) = v := by simp [Act.eval, h]
theorem ev_con (a : Act) (c : Value) : a.eval (.const c) = c := rfl
theorem put_at {a : Act} {k : Nat} (v : Value) (h : k < a.tmps.size) : (a.put (some k) v).tmps[k]? = some v := by simp [Act.put, h]
theorem put_off {a : Act} {k j : Nat} {v x : Value} (hx : a.tmps[k]? = some x) (h : j ≠ k) : (a.put (some j) v).tmps[k]? = some x := by
  rw [← hx]; simp only [Act.put]; rw [Array.getElem?_setIfInBounds, if_neg h]
theorem put_sz {a : Act} {j : Nat} {v : Value} {n : Nat} (h : n < a.tmps.size) : n < (a.put (some j) v).tmps.size := by simpa [Act.put] using h
theorem wt_none {o : Oper} {y : Nat → Option Bool} (h : o.guard = none) : Region.wanted o y = true := by simp [Region.wanted, h]
theorem wt_of {o : Oper} {ops : Array Oper} {a : Act} {j : Nat} {want : Bool} {dj : Nat} (hgd : o.guard = some (j, want)) (hj : ((ops[j]?).bind (·.dst)) = some dj) (b : Bool) (ht : a.tmps[dj]? = some (.bool b)) : Region.wanted o (yielded ops a.tmps) = (b == want) := by
  simp [Region.wanted, hgd, yielded, hj, ht]
section
variable {ops : Array Oper} {rest : List Oper} {o : Oper} {a : Act} {w : World} {Q : Exit → Act → World → Prop}
theorem s_val {d : Nat} {v : Value} (hg : Region.wanted o (yielded ops a.tmps) = true) (hd : o.dst = some d) (hv : (execOp a.eval o).run Tryd.prog w = .ok (.value v) w) (h : wpList Tryd.prog ops Q rest (a.put (some d) v) w) : wpList Tryd.prog ops Q (o :: rest) a w := by
  refine wpList_step fun K hK' => ?_
  rw [if_pos hg]
  unfold Oper.wp
  rw [hv]
  rw [← hd] at h
  exact hK' _ _ h
theorem s_not {d : Nat} (hg : Region.wanted o (yielded ops a.tmps) = false) (hd : o.dst = some d) (h : wpList Tryd.prog ops Q rest (a.put (some d) undef) w) : wpList Tryd.prog ops Q (o :: rest) a w := by
  refine wpList_step fun K hK' => ?_
  rw [if_neg (by rw [hg]; simp)]
  rw [← hd] at h
  exact hK' _ _ h
theorem x_fld {T : TypeId} {k s B off : Nat} {r : Nat} (ho : o.op = .fieldAddr T (.tmp s) k) (hs : a.tmps[s]? = some (.pointer (some ⟨B, off, none⟩))) (hf : ∀ w, (Instr.fieldAt T (.pointer (some ⟨B, off, none⟩)) k).run Tryd.prog w = .ok (.pointer (some ⟨B, r, none⟩)) w) : (execOp a.eval o).run Tryd.prog w = .ok (.value (.pointer (some ⟨B, r, none⟩))) w := by
  unfold execOp
  simp only [ho, ev_of hs, Sem.run_bind, hf, Result.andThen_ok, Sem.run_pure]
theorem x_get {s B j : Nat} {T : TypeId} {l : List Value} {x : Int} (ho : o.op = .load 3 (.tmp s)) (hs : a.tmps[s]? = some (.pointer (some ⟨B, j, none⟩))) (hB : w.heap[B]? = some (bx T l)) (hv : l[j]? = some (.int .i64 x)) : (execOp a.eval o).run Tryd.prog w = .ok (.value (.int .i64 x)) w := by
  have q := lod_int.ld w ⟨B, j, none⟩ _ (bx_cell hB hv)
  unfold execOp
  simp only [ho, ev_of hs, Sem.run_bind, q, Result.andThen_ok, Sem.run_pure]
theorem x_eqc {s : Nat} {x c : Int} (ho : o.op = .binOp .eql 3 (.tmp s) (.const (.int .i64 c)) 3) (hs : a.tmps[s]? = some (.int .i64 x)) : (execOp a.eval o).run Tryd.prog w = .ok (.value (.bool (x == c))) w := by
  have hc : a.eval (.const (.int .i64 c)) = .int .i64 c := rfl
  have hs := ev_of hs
  unfold execOp
  simp only [ho, hs, hc]
  simp [go_sem]
theorem x_bin {f : BinOp} {s t : Nat} {x y : Int} {b : Bool} (ho : o.op = .binOp f 3 (.tmp s) (.tmp t) 3) (hs : a.tmps[s]? = some (.int .i64 x)) (ht : a.tmps[t]? = some (.int .i64 y)) (hb : (f = .eql ∧ b = (x == y)) ∨ (f = .gtr ∧ b = decide (y < x)) ∨ (f = .lss ∧ b = decide (x < y))) : (execOp a.eval o).run Tryd.prog w = .ok (.value (.bool b)) w := by
  have hs := ev_of hs
  have ht := ev_of ht
  unfold execOp
  rcases hb with ⟨rfl, rfl⟩ | ⟨rfl, rfl⟩ | ⟨rfl, rfl⟩ <;> (simp only [ho, hs, ht]; simp [go_sem])
theorem x_mov {s : Nat} {v : Value} (ho : o.op = .move (.tmp s)) (hs : a.tmps[s]? = some v) : (execOp a.eval o).run Tryd.prog w = .ok (.value v) w := by
  unfold execOp
  simp only [ho, ev_of hs, Sem.run_pure]
theorem x_asg {s : Nat} {v : Value} (ho : o.op = .assign (.tmp s)) (hs : a.tmps[s]? = some v) : (execOp a.eval o).run Tryd.prog w = .ok (.value v) w := by
  unfold execOp
  simp only [ho, ev_of hs, Sem.run_pure]
theorem x_pik {s t : Nat} {b : Bool} {v c : Value} (ho : o.op = .pick (.tmp s) (.tmp t) (.const c)) (hs : a.tmps[s]? = some (.bool b)) (ht : b = true → a.tmps[t]? = some v) : (execOp a.eval o).run Tryd.prog w = .ok (.value (if b = true then v else c)) w := by
  have hs := ev_of hs
  have hc : a.eval (.const c) = c := rfl
  unfold execOp
  cases b
  · simp only [ho, hs, hc]
    simp [go_sem]
  · have ht := ev_of (ht rfl)
    simp only [ho, hs, ht]
    simp [go_sem]
end
theorem wt_und {o : Oper} {ops : Array Oper} {a : Act} {j : Nat} {want : Bool} {dj : Nat} (hgd : o.guard = some (j, want)) (hj : ((ops[j]?).bind (·.dst)) = some dj) (ht : a.tmps[dj]? = some undef) : Region.wanted o (yielded ops a.tmps) = false := by
  simp [Region.wanted, hgd, yielded, hj, ht, undef]
section
variable {ops : Array Oper} {rest : List Oper} {o : Oper} {a : Act} {w : World} {Q : Exit → Act → World → Prop}
theorem p_val {d : Nat} {v : Value} (hg : Region.wanted o (yielded ops a.tmps) = true) (hd : o.dst = some d) (hv : (execOp a.eval o).run Tryd.prog w = .ok (.value v) w) (hz : d < a.tmps.size)
    (h : ∀ a', (∀ k, k ≠ d → a'.tmps[k]? = a.tmps[k]?) → a'.tmps[d]? = some v → a'.tmps.size = a.tmps.size → a'.defers = a.defers → wpList Tryd.prog ops Q rest a' w) : wpList Tryd.prog ops Q (o :: rest) a w :=
  s_val hg hd hv (h _ (fun k hk => by simp only [Act.put]; rw [Array.getElem?_setIfInBounds, if_neg (fun e => hk e.symm)]) (put_at v hz) (by simp [Act.put]) rfl)
theorem p_not {d : Nat} (hg : Region.wanted o (yielded ops a.tmps) = false) (hd : o.dst = some d) (hz : d < a.tmps.size)
    (h : ∀ a', (∀ k, k ≠ d → a'.tmps[k]? = a.tmps[k]?) → a'.tmps[d]? = some undef → a'.tmps.size = a.tmps.size → a'.defers = a.defers → wpList Tryd.prog ops Q rest a' w) : wpList Tryd.prog ops Q (o :: rest) a w :=
  s_not hg hd (h _ (fun k hk => by simp only [Act.put]; rw [Array.getElem?_setIfInBounds, if_neg (fun e => hk e.symm)]) (put_at undef hz) (by simp [Act.put]) rfl)
theorem p_get {t : TypeId} {s B j : Nat} {T : TypeId} {l : List Value} {v : Value} (ho : o.op = .load t (.tmp s)) (hs : a.tmps[s]? = some (.pointer (some ⟨B, j, none⟩))) (hB : w.heap[B]? = some (bx T l)) (hv : l[j]? = some v) (ht : Lod t := by first | exact lod_int | exact lod_bool | exact lod_str | exact lod_txs) : (execOp a.eval o).run Tryd.prog w = .ok (.value v) w := by
  have q := ht.ld w ⟨B, j, none⟩ _ (bx_cell hB hv)
  unfold execOp
  simp only [ho, ev_of hs, Sem.run_bind, q, Result.andThen_ok, Sem.run_pure]
end
theorem fld_0 (B : Nat) (w : World) : (Instr.fieldAt 48 (.pointer (some ⟨B, 0, none⟩)) 0).run Tryd.prog w = .ok (.pointer (some ⟨B, 0, none⟩)) w := by kernel_rfl
theorem fld_1 (B : Nat) (w : World) : (Instr.fieldAt 48 (.pointer (some ⟨B, 0, none⟩)) 1).run Tryd.prog w = .ok (.pointer (some ⟨B, 1, none⟩)) w := by kernel_rfl
section
variable {ops : Array Oper} {rest : List Oper} {a : Act} {w : World} {Q : Exit → Act → World → Prop} {o0 o1 o2 o3 o4 o5 o6 o7 : Oper}
theorem ent8 (i : Nat) {q s1 s2 B1 B2 : Nat} {T1 T2 : TypeId} {l1 l2 : List Value} {x1 x2 c1 c2 : Int}
    (d0 : o0.dst = some i) (p0 : o0.op = .fieldAddr 48 (.tmp s1) 0) (g0 : o0.guard = none)
    (d1 : o1.dst = some (i + 1)) (p1 : o1.op = .load 3 (.tmp i)) (g1 : o1.guard = none)
    (d2 : o2.dst = some (i + 2)) (p2 : o2.op = .binOp .eql 3 (.tmp (i + 1)) (.const (.int .i64 c1)) 3) (g2 : o2.guard = none)
    (d3 : o3.dst = some (i + 3)) (p3 : o3.op = .move (.tmp (i + 2))) (g3 : o3.guard = none)
    (d4 : o4.dst = some (i + 4)) (p4 : o4.op = .fieldAddr 48 (.tmp s2) 0) (g4 : o4.guard = some (q, true))
    (d5 : o5.dst = some (i + 5)) (p5 : o5.op = .load 3 (.tmp (i + 4))) (g5 : o5.guard = some (q, true))
    (d6 : o6.dst = some (i + 6)) (p6 : o6.op = .binOp .eql 3 (.tmp (i + 5)) (.const (.int .i64 c2)) 3) (g6 : o6.guard = some (q, true))
    (d7 : o7.dst = some (i + 7)) (p7 : o7.op = .pick (.tmp (i + 3)) (.tmp (i + 6)) (.const (.bool false))) (g7 : o7.guard = none)
    (hq : ((ops[q]?).bind (·.dst)) = some (i + 3))
    (h1 : a.tmps[s1]? = some (.pointer (some ⟨B1, 0, none⟩))) (h2 : a.tmps[s2]? = some (.pointer (some ⟨B2, 0, none⟩))) (k1 : s1 < i) (k2 : s2 < i) (hi : i + 7 < a.tmps.size)
    (H1 : w.heap[B1]? = some (bx T1 l1)) (e1 : l1[0]? = some (.int .i64 x1)) (H2 : w.heap[B2]? = some (bx T2 l2)) (e2 : l2[0]? = some (.int .i64 x2))
    (h : ∀ a', Lay a a' i 8 → a'.tmps[i + 7]? = some (.bool (x1 == c1 && x2 == c2)) → wpList Tryd.prog ops Q rest a' w) :
    wpList Tryd.prog ops Q (o0 :: o1 :: o2 :: o3 :: o4 :: o5 :: o6 :: o7 :: rest) a w := by
  have L0 := Lay.refl a i
  refine s_val (wt_none g0) d0 (x_fld p0 h1 (fld_0 B1)) ?_
  have L1 := L0.put (.pointer (some ⟨B1, 0, none⟩))
  have f0 := put_at (a := a) (k := i) (.pointer (some ⟨B1, 0, none⟩)) (by omega)
  generalize ha1 : a.put (some i) (.pointer (some ⟨B1, 0, none⟩)) = a1 at *
  try simp only [Nat.add_zero, ha1] at L1
  refine s_val (wt_none g1) d1 (x_get p1 f0 H1 e1) ?_
  have L2 := L1.put (.int .i64 x1)
  have f1 := put_at (a := a1) (k := i + 1) (.int .i64 x1) (by rw [L1.size]; omega)
  generalize ha2 : a1.put (some (i + 1)) (.int .i64 x1) = a2 at *
  refine s_val (wt_none g2) d2 (x_eqc p2 f1) ?_
  have L3 := L2.put (.bool (x1 == c1))
  have f2 := put_at (a := a2) (k := i + 2) (.bool (x1 == c1)) (by rw [L2.size]; omega)
  generalize ha3 : a2.put (some (i + 2)) (.bool (x1 == c1)) = a3 at *
  refine s_val (wt_none g3) d3 (x_mov p3 f2) ?_
  have L4 := L3.put (.bool (x1 == c1))
  have f3 := put_at (a := a3) (k := i + 3) (.bool (x1 == c1)) (by rw [L3.size]; omega)
  generalize ha4 : a3.put (some (i + 3)) (.bool (x1 == c1)) = a4 at *
  have h2' : a4.tmps[s2]? = some (.pointer (some ⟨B2, 0, none⟩)) := (L4.out s2 (.inl k2)).trans h2
  cases hb : (x1 == c1)
  · rw [hb] at f3
    refine s_not (by rw [wt_of g4 hq _ f3]; rfl) d4 ?_
    have L5 := L4.put undef
    have f4 := put_off (j := i + 4) (v := undef) f3 (by omega)
    generalize ha5 : a4.put (some (i + 4)) undef = a5 at *
    refine s_not (by rw [wt_of g5 hq _ f4]; rfl) d5 ?_
    have L6 := L5.put undef
    have f5 := put_off (j := i + 5) (v := undef) f4 (by omega)
    generalize ha6 : a5.put (some (i + 5)) undef = a6 at *
    refine s_not (by rw [wt_of g6 hq _ f5]; rfl) d6 ?_
    have L7 := L6.put undef
    have f6 := put_off (j := i + 6) (v := undef) f5 (by omega)
    generalize ha7 : a6.put (some (i + 6)) undef = a7 at *
    refine s_val (wt_none g7) d7 (x_pik (v := undef) p7 f6 (fun n => by cases n)) ?_
    have f7 := put_at (a := a7) (k := i + 7) (.bool false) (by rw [L7.size]; omega)
    exact h _ (L7.put (.bool false)) (by rw [hb]; exact f7)
  · rw [hb] at f3
    refine s_val (by rw [wt_of g4 hq _ f3]; rfl) d4 (x_fld p4 h2' (fld_0 B2)) ?_
    have L5 := L4.put (.pointer (some ⟨B2, 0, none⟩))
    have f4 := put_off (j := i + 4) (v := .pointer (some ⟨B2, 0, none⟩)) f3 (by omega)
    have f4' := put_at (a := a4) (k := i + 4) (.pointer (some ⟨B2, 0, none⟩)) (by rw [L4.size]; omega)
    generalize ha5 : a4.put (some (i + 4)) (.pointer (some ⟨B2, 0, none⟩)) = a5 at *
    refine s_val (by rw [wt_of g5 hq _ f4]; rfl) d5 (x_get p5 f4' H2 e2) ?_
    have L6 := L5.put (.int .i64 x2)
    have f5 := put_off (j := i + 5) (v := .int .i64 x2) f4 (by omega)
    have f5' := put_at (a := a5) (k := i + 5) (.int .i64 x2) (by rw [L5.size]; omega)
    generalize ha6 : a5.put (some (i + 5)) (.int .i64 x2) = a6 at *
    refine s_val (by rw [wt_of g6 hq _ f5]; rfl) d6 (x_eqc p6 f5') ?_
    have L7 := L6.put (.bool (x2 == c2))
    have f6 := put_off (j := i + 6) (v := .bool (x2 == c2)) f5 (by omega)
    have f6' := put_at (a := a6) (k := i + 6) (.bool (x2 == c2)) (by rw [L6.size]; omega)
    generalize ha7 : a6.put (some (i + 6)) (.bool (x2 == c2)) = a7 at *
    refine s_val (wt_none g7) d7 (x_pik p7 f6 (fun _ => f6')) ?_
    have f7 := put_at (a := a7) (k := i + 7) (.bool (x2 == c2)) (by rw [L7.size]; omega)
    exact h _ (L7.put (.bool (x2 == c2))) (by rw [hb]; exact f7)
theorem ent7 (i : Nat) {q s1 s2 B1 B2 : Nat} {f : BinOp} {T1 T2 : TypeId} {l1 l2 : List Value} {x1 x2 : Int} {y b : Bool}
    (d0 : o0.dst = some (i + 1)) (p0 : o0.op = .move (.tmp i)) (g0 : o0.guard = none)
    (d1 : o1.dst = some (i + 2)) (p1 : o1.op = .fieldAddr 48 (.tmp s1) 1) (g1 : o1.guard = some (q, true))
    (d2 : o2.dst = some (i + 3)) (p2 : o2.op = .load 3 (.tmp (i + 2))) (g2 : o2.guard = some (q, true))
    (d3 : o3.dst = some (i + 4)) (p3 : o3.op = .fieldAddr 48 (.tmp s2) 1) (g3 : o3.guard = some (q, true))
    (d4 : o4.dst = some (i + 5)) (p4 : o4.op = .load 3 (.tmp (i + 4))) (g4 : o4.guard = some (q, true))
    (d5 : o5.dst = some (i + 6)) (p5 : o5.op = .binOp f 3 (.tmp (i + 3)) (.tmp (i + 5)) 3) (g5 : o5.guard = some (q, true))
    (d6 : o6.dst = some (i + 7)) (p6 : o6.op = .pick (.tmp (i + 1)) (.tmp (i + 6)) (.const (.bool false))) (g6 : o6.guard = none)
    (hq : ((ops[q]?).bind (·.dst)) = some (i + 1))
    (h1 : a.tmps[s1]? = some (.pointer (some ⟨B1, 0, none⟩))) (h2 : a.tmps[s2]? = some (.pointer (some ⟨B2, 0, none⟩))) (k1 : s1 < i) (k2 : s2 < i) (hi : i + 7 < a.tmps.size) (hy : a.tmps[i]? = some (.bool y))
    (H1 : w.heap[B1]? = some (bx T1 l1)) (e1 : l1[1]? = some (.int .i64 x1)) (H2 : w.heap[B2]? = some (bx T2 l2)) (e2 : l2[1]? = some (.int .i64 x2))
    (hb : (f = .eql ∧ b = (x1 == x2)) ∨ (f = .gtr ∧ b = decide (x2 < x1)) ∨ (f = .lss ∧ b = decide (x1 < x2)))
    (h : ∀ a', Lay a a' (i + 1) 7 → a'.tmps[i + 7]? = some (.bool (y && b)) → wpList Tryd.prog ops Q rest a' w) :
    wpList Tryd.prog ops Q (o0 :: o1 :: o2 :: o3 :: o4 :: o5 :: o6 :: rest) a w := by
  have L0 := Lay.refl a (i + 1)
  refine s_val (wt_none g0) d0 (x_mov p0 hy) ?_
  have L1 := L0.put (.bool y)
  have f0 := put_at (a := a) (k := i + 1) (.bool y) (by omega)
  generalize ha1 : a.put (some (i + 1)) (.bool y) = a1 at *
  try simp only [Nat.add_zero, ha1] at L1
  have h1' : a1.tmps[s1]? = some (.pointer (some ⟨B1, 0, none⟩)) := (L1.out s1 (.inl (by omega))).trans h1
  cases y
  · refine s_not (by rw [wt_of g1 hq _ f0]; rfl) d1 ?_
    have L2 := L1.put undef
    have f1 := put_off (j := i + 2) (v := undef) f0 (by omega)
    generalize ha2 : a1.put (some (i + 2)) undef = a2 at *
    simp only [Nat.add_assoc, Nat.reduceAdd, ha2] at L2
    refine s_not (by rw [wt_of g2 hq _ f1]; rfl) d2 ?_
    have L3 := L2.put undef
    have f2 := put_off (j := i + 3) (v := undef) f1 (by omega)
    generalize ha3 : a2.put (some (i + 3)) undef = a3 at *
    simp only [Nat.add_assoc, Nat.reduceAdd, ha3] at L3
    refine s_not (by rw [wt_of g3 hq _ f2]; rfl) d3 ?_
    have L4 := L3.put undef
    have f3 := put_off (j := i + 4) (v := undef) f2 (by omega)
    generalize ha4 : a3.put (some (i + 4)) undef = a4 at *
    simp only [Nat.add_assoc, Nat.reduceAdd, ha4] at L4
    refine s_not (by rw [wt_of g4 hq _ f3]; rfl) d4 ?_
    have L5 := L4.put undef
    have f4 := put_off (j := i + 5) (v := undef) f3 (by omega)
    generalize ha5 : a4.put (some (i + 5)) undef = a5 at *
    simp only [Nat.add_assoc, Nat.reduceAdd, ha5] at L5
    refine s_not (by rw [wt_of g5 hq _ f4]; rfl) d5 ?_
    have L6 := L5.put undef
    have f5 := put_off (j := i + 6) (v := undef) f4 (by omega)
    generalize ha6 : a5.put (some (i + 6)) undef = a6 at *
    simp only [Nat.add_assoc, Nat.reduceAdd, ha6] at L6
    refine s_val (wt_none g6) d6 (x_pik (v := undef) p6 f5 (fun n => by cases n)) ?_
    have L7 := L6.put (.bool false)
    have f6 := put_at (a := a6) (k := i + 7) (.bool false) (by rw [L6.size]; omega)
    simp only [Nat.add_assoc, Nat.reduceAdd] at L7
    exact h _ L7 f6
  · refine s_val (by rw [wt_of g1 hq _ f0]; rfl) d1 (x_fld p1 h1' (fld_1 B1)) ?_
    have L2 := L1.put (.pointer (some ⟨B1, 1, none⟩))
    have f1 := put_off (j := i + 2) (v := .pointer (some ⟨B1, 1, none⟩)) f0 (by omega)
    have t1 := put_at (a := a1) (k := i + 2) (.pointer (some ⟨B1, 1, none⟩)) (by rw [L1.size]; omega)
    generalize ha2 : a1.put (some (i + 2)) (.pointer (some ⟨B1, 1, none⟩)) = a2 at *
    simp only [Nat.add_assoc, Nat.reduceAdd, ha2] at L2
    refine s_val (by rw [wt_of g2 hq _ f1]; rfl) d2 (x_get p2 t1 H1 e1) ?_
    have L3 := L2.put (.int .i64 x1)
    have f2 := put_off (j := i + 3) (v := .int .i64 x1) f1 (by omega)
    have t2 := put_at (a := a2) (k := i + 3) (.int .i64 x1) (by rw [L2.size]; omega)
    generalize ha3 : a2.put (some (i + 3)) (.int .i64 x1) = a3 at *
    simp only [Nat.add_assoc, Nat.reduceAdd, ha3] at L3
    have h2' : a3.tmps[s2]? = some (.pointer (some ⟨B2, 0, none⟩)) := (L3.out s2 (.inl (by omega))).trans h2
    refine s_val (by rw [wt_of g3 hq _ f2]; rfl) d3 (x_fld p3 h2' (fld_1 B2)) ?_
    have L4 := L3.put (.pointer (some ⟨B2, 1, none⟩))
    have f3 := put_off (j := i + 4) (v := .pointer (some ⟨B2, 1, none⟩)) f2 (by omega)
    have t3 := put_off (j := i + 4) (v := .pointer (some ⟨B2, 1, none⟩)) t2 (by omega)
    have r3 := put_at (a := a3) (k := i + 4) (.pointer (some ⟨B2, 1, none⟩)) (by rw [L3.size]; omega)
    generalize ha4 : a3.put (some (i + 4)) (.pointer (some ⟨B2, 1, none⟩)) = a4 at *
    simp only [Nat.add_assoc, Nat.reduceAdd, ha4] at L4
    refine s_val (by rw [wt_of g4 hq _ f3]; rfl) d4 (x_get p4 r3 H2 e2) ?_
    have L5 := L4.put (.int .i64 x2)
    have f4 := put_off (j := i + 5) (v := .int .i64 x2) f3 (by omega)
    have t4 := put_off (j := i + 5) (v := .int .i64 x2) t3 (by omega)
    have r4 := put_at (a := a4) (k := i + 5) (.int .i64 x2) (by rw [L4.size]; omega)
    generalize ha5 : a4.put (some (i + 5)) (.int .i64 x2) = a5 at *
    simp only [Nat.add_assoc, Nat.reduceAdd, ha5] at L5
    refine s_val (by rw [wt_of g5 hq _ f4]; rfl) d5 (x_bin p5 t4 r4 hb) ?_
    have L6 := L5.put (.bool b)
    have f5 := put_off (j := i + 6) (v := .bool b) f4 (by omega)
    have t5 := put_at (a := a5) (k := i + 6) (.bool b) (by rw [L5.size]; omega)
    generalize ha6 : a5.put (some (i + 6)) (.bool b) = a6 at *
    simp only [Nat.add_assoc, Nat.reduceAdd, ha6] at L6
    refine s_val (wt_none g6) d6 (x_pik p6 f5 (fun _ => t5)) ?_
    have L7 := L6.put (.bool b)
    have f6 := put_at (a := a6) (k := i + 7) (.bool b) (by rw [L6.size]; omega)
    simp only [Nat.add_assoc, Nat.reduceAdd] at L7
    exact h _ L7 f6
end
theorem ret_t {fn : Func} {i : Tmp} {tmps : Array Value} {w : World} {v : Value} (h : fn.results = #[.tmp i]) (h1 : tmps[i]? = some v) : (results fn tmps).run Tryd.prog w = .ok v w := by
  have h1' : tmps[i]?.getD undef = v := by rw [h1]; rfl
  simp [results, h, h1']
end Go.Proofs.YtecknicmonhcaabDoor.bulk
