/- topo: boxes, nodes and rows of nodes in memory. -/
import Derived.Test.YtemlafdmeaobfabRouA
import Derived.Test.YtemlafdmeaobfabTopM
import Derived.BigRegion
import Derived.Deep.Cut
import Derived.Deep.CutRange
import Derived.Deep.MidRow
import Derived.MapKept
import Derived.OrdersHeld
import Derived.Laws.MakeOwn
namespace Go.Proofs.Ytemlafdmeaobfab.topo
open Go Go.RowKit Go.Proofs.Ytemlafdmeaobfab.route
set_option linter.unusedVariables false
set_option linter.unusedSimpArgs false
set_option maxRecDepth 100000

theorem keep {w u : World} {X : Nat} {o : Obj} (h : w.heap[X]? = some o) (hb : Below w.heap.size w u) : u.heap[X]? = some o := (hb.block X (Array.getElem?_eq_some_iff.1 h).1).trans h
def agv (l : List Value) : Value := .agg l.toArray
def bv (T : TypeId) (l : List Value) : Obj := .cells l.toArray T (0, 0)
def ivs (l : List Int) : List Value := l.map (Value.int .i64)
theorem ivs_length (l : List Int) : (ivs l).length = l.length := List.length_map ..
theorem ivs_at {l : List Int} {j : Nat} {x : Int} (h : l[j]? = some x) : (ivs l)[j]? = some (.int .i64 x) := by simp [ivs, h]
theorem ivs_set (l : List Int) (j : Nat) (x : Int) : (ivs l).set j (.int .i64 x) = ivs (l.set j x) := by simp [ivs, List.map_set]
theorem bv_cell {w : World} {B j : Nat} {T : TypeId} {l : List Value} {x : Value} (h : w.heap[B]? = some (bv T l)) (hx : l[j]? = some x) : w.cell? ⟨B, j, none⟩ = some x := by
  rw [cell_of_row w B j _ _ (0, 0) h]; simpa using hx
theorem bv_free {w : World} {B : Nat} {T : TypeId} {l : List Value} (h : w.heap[B]? = some (bv T l)) (j : Nat) : w.frozen? ⟨B, j, none⟩ = false := frozen_of_row w B j _ _ h
theorem bx_lt {w : World} {B : Nat} {o : Obj} (h : w.heap[B]? = some o) : B < w.heap.size := (Array.getElem?_eq_some_iff.1 h).1
/-- all but the block B is as it was -/
structure Chg (B : Nat) (w u : World) : Prop where
  size : u.heap.size = w.heap.size
  other : ∀ X, X ≠ B → u.heap[X]? = w.heap[X]?
  below : ∀ (b : Nat) (w0 : World), b ≤ B → Below b w0 w → Below b w0 u
theorem Chg.refl (B : Nat) (w : World) : Chg B w w := ⟨rfl, fun _ _ => rfl, fun _ _ _ h => h⟩
theorem Chg.trans {B : Nat} {w u v : World} (h : Chg B w u) (g : Chg B u v) : Chg B w v := ⟨g.size.trans h.size, fun X hX => (g.other X hX).trans (h.other X hX), fun b w0 hb q => g.below b w0 hb (h.below b w0 hb q)⟩
theorem Chg.drew {B : Nat} {w u : World} (h : Chg B w u) : Chg B w u.drew := ⟨h.size, h.other, fun b w0 hb q => (h.below b w0 hb q).drew⟩
theorem setRow_chg {w : World} {B : Nat} {T : TypeId} {l : List Value} (cs : Array Value) (h : w.heap[B]? = some (bv T l)) : Chg B w (w.setRow B cs) where
  size := by simp
  other := fun X hX => setRow_other w B X cs hX
  below := fun b w0 hb h => ⟨h.os, h.tape, h.output, by simp; exact h.size, fun X hX => (setRow_other w B X cs (by omega)).trans (h.block X hX)⟩
theorem set_bv {w : World} {B j : Nat} {T : TypeId} {l : List Value} {x : Value} (h : w.heap[B]? = some (bv T l)) : (w.setCell ⟨B, j, none⟩ x).heap[B]? = some (bv T (l.set j x)) ∧ Chg B w (w.setCell ⟨B, j, none⟩ x) := by
  have e : (w.setCell ⟨B, j, none⟩ x) = w.setRow B (l.set j x).toArray := by
    rw [setCell_eq_setRow w B j _ T (0, 0) _ h]; simp
  rw [e]
  exact ⟨setRow_heap w B _ _ T _ h, setRow_chg _ h⟩
/-- values of one cell each, n of them -/
structure Vs (l : List Value) (n : Nat) : Prop where
  len : l.length = n
  one : ∀ v ∈ l, v.oneCell' = true
def cv (l : List Value) (k n : Nat) : List Value := (l.drop k).take n
theorem cv_all {l : List Value} {n : Nat} (h : l.length = n) : cv l 0 n = l := by unfold cv; rw [List.drop_zero, List.take_of_length_le (by omega)]
/-- row l from place k on is r -/
def ptv (l : List Value) (k : Nat) (r : List Value) : List Value := l.take k ++ r ++ l.drop (k + r.length)
theorem ptv_all {l r : List Value} (h : r.length = l.length) : ptv l 0 r = r := by unfold ptv; rw [List.take_zero, List.nil_append, List.drop_eq_nil_of_le (by omega), List.append_nil]
theorem bv_range {w : World} {B k n : Nat} {T : TypeId} {l : List Value} (h : w.heap[B]? = some (bv T l)) : w.rangeAt B k (cv l k n) := fun j v hv => by
  unfold cv at hv
  rw [List.getElem?_take] at hv
  split at hv
  · rw [List.getElem?_drop] at hv
    exact bv_cell h hv
  · simp at hv
theorem cv_length {l : List Value} {k n : Nat} (h : k + n ≤ l.length) : (cv l k n).length = n := by simp [cv]; omega
/-- a type of n cells that is loaded whole -/
structure Row (t : TypeId) (n : Nat) : Prop where
  ex : ∃ d, Try.prog.underlying t = some d ∧ d.isRow = true ∧ (Try.prog.info? t).map (·.size) = some n
theorem row_node : Row 25 4 := ⟨⟨_, Try.underlying25, rfl, by kernel_rfl⟩⟩
theorem run_loadv {w : World} {B k n : Nat} {T t : TypeId} {l : List Value} (hT : Row t n) (h : w.heap[B]? = some (bv T l)) (hle : k + n ≤ l.length) :
    (Instr.loadAt t (.pointer (some ⟨B, k, none⟩))).run Try.prog w = .ok (agv (cv l k n)) w := by
  obtain ⟨d, h1, h2, h3⟩ := hT.ex
  exact run_loadAt_mid w B k t _ d (bv_range (n := n) h) h1 h2 (by rw [h3]; exact congrArg some (cv_length hle).symm)
theorem run_storev {w : World} {B k n : Nat} {T t : TypeId} {l r : List Value} (hT : Row t n) (h : w.heap[B]? = some (bv T l)) (hr : Vs r n) (hle : k + n ≤ l.length) :
    (Instr.storeAt t (.pointer (some ⟨B, k, none⟩)) (agv r)).run Try.prog w = .ok () (w.setRow B (ptv l k r).toArray) := by
  obtain ⟨d, h1, h2, h3⟩ := hT.ex
  have hst := run_storeCells_at Try.prog B k T r 0 l.toArray w h (by have := hr.len; simp; omega) hr.one
  rw [Nat.add_zero] at hst
  cases hq : Try.prog.info? t with
  | none => simp [hq] at h3
  | some i =>
    have hs : r.toArray.size = i.size := by have := hr.len; simp [hq] at h3; simp; omega
    simp only [Instr.storeAt, Instr.sureAddr, Sem.run_bind, Sem.run_pure, Result.andThen_ok]
    have hs' : r.length = i.size := by simpa using hs
    simp [storeVar, sizeOf, typeInfo, hq, agv, Value.cells, hs', hst, ptv]
section
variable {ops : Array Oper} {rest : List Oper} {o : Oper} {a : Act} {w : World} {Q : Exit → Act → World → Prop}
/-- a row is read -/
theorem v_load (hgd : Region.wanted o (yielded ops a.tmps) = true) {t : TypeId} {x : Operand} (ho : o.op = .load t x)
    {B k n : Nat} (hT : Row t n) (hx : a.eval x = .pointer (some ⟨B, k, none⟩)) {T : TypeId} {l r : List Value} (hB : w.heap[B]? = some (bv T l)) (hle : k + n ≤ l.length) (hr : cv l k n = r)
    (h : wpList Try.prog ops Q rest (a.put o.dst (agv r)) w) : wpList Try.prog ops Q (o :: rest) a w := by
  subst hr
  refine wpList_step fun K hK' => ?_
  rw [if_pos hgd]
  unfold Oper.wp execOp
  simp only [ho, hx, Sem.run_bind, run_loadv hT hB hle, Result.andThen_ok, Sem.run_pure]
  exact hK' _ _ h
/-- a row is written -/
theorem v_store (hgd : Region.wanted o (yielded ops a.tmps) = true) {t : TypeId} {x y : Operand} (ho : o.op = .store t x y)
    {B k n : Nat} (hT : Row t n) {T : TypeId} {l r l' : List Value} (hx : a.eval x = .pointer (some ⟨B, k, none⟩)) (hy : a.eval y = agv r) (hB : w.heap[B]? = some (bv T l)) (hr : Vs r n) (hle : k + n ≤ l.length) (hl : ptv l k r = l')
    (h : ∀ u, u.heap[B]? = some (bv T l') → Chg B w u → wpList Try.prog ops Q rest (a.put o.dst undef) u) : wpList Try.prog ops Q (o :: rest) a w := by
  subst hl
  refine wpList_step fun K hK' => ?_
  rw [if_pos hgd]
  unfold Oper.wp execOp
  simp only [ho, hx, hy, Sem.run_bind, run_storev hT hB hr hle, Result.andThen_ok, Sem.run_pure]
  exact hK' _ _ (h _ (setRow_heap w B _ _ T _ hB) (setRow_chg _ hB))
theorem v_fill (hgd : Region.wanted o (yielded ops a.tmps) = true) {t : TypeId} {x y : Operand} (ho : o.op = .store t x y)
    {B n : Nat} (hT : Row t n) {T : TypeId} {l r : List Value} (hx : a.eval x = .pointer (some ⟨B, 0, none⟩)) (hy : a.eval y = agv r) (hB : w.heap[B]? = some (bv T l)) (hr : Vs r n) (hl : l.length = n)
    (h : ∀ u, u.heap[B]? = some (bv T r) → Chg B w u → wpList Try.prog ops Q rest (a.put o.dst undef) u) : wpList Try.prog ops Q (o :: rest) a w :=
  v_store hgd ho hT hx hy hB hr (by omega) (ptv_all (by rw [hr.len, hl])) h
/-- one value is written -/
theorem v_put (hgd : Region.wanted o (yielded ops a.tmps) = true) {t : TypeId} {x y : Operand} (ho : o.op = .store t x y) {v : Value} (ht : (t = 3 ∧ ∃ n, v = .int .i64 n) ∨ (t = 23 ∧ ∃ p n c, v = .slice p n c))
    {B j : Nat} {T : TypeId} {l : List Value} (hx : a.eval x = .pointer (some ⟨B, j, none⟩)) (hy : a.eval y = v) (hB : w.heap[B]? = some (bv T l)) (hle : j < l.length)
    (h : ∀ u, u.heap[B]? = some (bv T (l.set j v)) → Chg B w u → wpList Try.prog ops Q rest (a.put o.dst undef) u) : wpList Try.prog ops Q (o :: rest) a w := by
  refine wpList_step fun K hK' => ?_
  rw [if_pos hgd]
  have hc := bv_cell hB (List.getElem?_eq_getElem hle)
  have hf := bv_free hB j
  have hs : (Instr.storeAt t (.pointer (some ⟨B, j, none⟩)) v).run Try.prog w = .ok () (w.setCell ⟨B, j, none⟩ v) := by
    rcases ht with ⟨rfl, n, rfl⟩ | ⟨rfl, p, n, c, rfl⟩ <;> simp [go_sem, hc, hf]
  unfold Oper.wp execOp
  simp only [ho, hx, hy, Sem.run_bind, hs, Result.andThen_ok, Sem.run_pure]
  exact hK' _ _ (h _ (set_bv hB).1 (set_bv hB).2)
/-- one value is read -/
theorem v_get (hgd : Region.wanted o (yielded ops a.tmps) = true) {t : TypeId} {x : Operand} (ho : o.op = .load t x) (ht : t = 3 ∨ t = 23)
    {B j : Nat} {T : TypeId} {l : List Value} {v : Value} (hx : a.eval x = .pointer (some ⟨B, j, none⟩)) (hB : w.heap[B]? = some (bv T l)) (hv : l[j]? = some v)
    (h : wpList Try.prog ops Q rest (a.put o.dst v) w) : wpList Try.prog ops Q (o :: rest) a w := by
  refine wpList_step fun K hK' => ?_
  rw [if_pos hgd]
  have hc := bv_cell hB hv
  have hs : (Instr.loadAt t (.pointer (some ⟨B, j, none⟩))).run Try.prog w = .ok v w := by
    rcases ht with rfl | rfl <;> simp [go_sem, hc]
  unfold Oper.wp execOp
  simp only [ho, hx, Sem.run_bind, hs, Result.andThen_ok, Sem.run_pure]
  exact hK' _ _ h
/-- new memory: a block of one's own -/
structure New (w u : World) (B : Nat) (T : TypeId) (l : List Value) : Prop where
  lies : u.heap[B]? = some (bv T l)
  at' : B = w.heap.size
  size : u.heap.size = w.heap.size + 1
  below : Below w.heap.size w u
theorem New.alloc (w : World) (T : TypeId) (l : List Value) : New w (w.alloc (bv T l)) w.heap.size T l := ⟨(MapKept.heap_alloc w _).1, rfl, Array.size_push _, balloc _ _⟩
/-- a value is boxed -/
theorem v_box (hgd : Region.wanted o (yielded ops a.tmps) = true) {t : TypeId} {x : Operand} (ho : o.op = .box t x)
    {l : List Value} (hx : a.eval x = agv l) (h : ∀ u B, New w u B t l → wpList Try.prog ops Q rest (a.put o.dst (.pointer (some ⟨B, 0, none⟩))) u) : wpList Try.prog ops Q (o :: rest) a w := by
  refine wpList_step fun K hK' => ?_
  rw [if_pos hgd]
  unfold Oper.wp execOp
  simp only [ho, hx]
  simp only [go_sem, agv]
  exact hK' _ _ (h _ _ (New.alloc w t l))
/-- the zero value -/
structure Zer (t : TypeId) (l : List Value) : Prop where
  eq : (Try.prog.info? t).map (·.zero) = some (some (agv l))
theorem v_alloc (hgd : Region.wanted o (yielded ops a.tmps) = true) {t : TypeId} {l : List Value} (hz : Zer t l) (ho : o.op = .alloc t)
    (h : ∀ u B, New w u B t l → wpList Try.prog ops Q rest (a.put o.dst (.pointer (some ⟨B, 0, none⟩))) u) : wpList Try.prog ops Q (o :: rest) a w := by
  refine wpList_step fun K hK' => ?_
  rw [if_pos hgd]
  unfold Oper.wp execOp
  simp only [ho]
  cases hq : Try.prog.info? t with
  | none => have := hz.eq; simp [hq] at this
  | some i =>
    have hz' : i.zero = some (agv l) := by simpa [hq] using hz.eq
    simp [go_sem, zeroValue, typeInfo, hq, hz', agv]
    exact hK' _ _ (h _ _ (New.alloc w t _))
/-- a value is built -/
theorem v_build (hgd : Region.wanted o (yielded ops a.tmps) = true) {t : TypeId} {ps : Array (Nat × Operand)} (ho : o.op = .build t ps)
    {vs : Array (Nat × Value)} {v : Value} (hb : ∀ w, (Instr.build t vs).run Try.prog w = .ok v w) (hv : ps.map (fun q => (q.1, a.eval q.2)) = vs)
    (h : wpList Try.prog ops Q rest (a.put o.dst v) w) : wpList Try.prog ops Q (o :: rest) a w := by
  refine wpList_step fun K hK' => ?_
  rw [if_pos hgd]
  unfold Oper.wp execOp
  simp only [ho, hv, Sem.run_bind, hb, Result.andThen_ok, Sem.run_pure]
  exact hK' _ _ h
/-- a slice of one value is boxed -/
theorem v_boxs (hgd : Region.wanted o (yielded ops a.tmps) = true) {x : Operand} (ho : o.op = .box 23 x)
    {p : Option Addr} {n c : Nat} (hx : a.eval x = .slice p n c) (h : ∀ u B, New w u B 23 [.slice p n c] → wpList Try.prog ops Q rest (a.put o.dst (.pointer (some ⟨B, 0, none⟩))) u) : wpList Try.prog ops Q (o :: rest) a w := by
  refine wpList_step fun K hK' => ?_
  rw [if_pos hgd]
  unfold Oper.wp execOp
  simp only [ho, hx]
  simp only [go_sem]
  exact hK' _ _ (h _ _ (New.alloc w 23 [.slice p n c]))
end
abbrev Bk := Nat × TypeId × List Value
/-- the boxes of a call, and what was there ahead of it -/
structure Mm (w u : World) (L : List Bk) : Prop where
  lies : ∀ x ∈ L, u.heap[x.1]? = some (bv x.2.1 x.2.2)
  own : ∀ x ∈ L, w.heap.size ≤ x.1
  ap : (L.map (·.1)).Nodup
  below : Below w.heap.size w u
theorem Mm.nil (w : World) : Mm w w [] := ⟨fun x h => absurd h (by simp), fun x h => absurd h (by simp), List.nodup_nil, Below.refl _ _⟩
section
variable {w u v : World} {L : List Bk} {B : Nat} {T : TypeId} {l l' : List Value}
theorem Mm.new (h : Mm w u L) (n : New u v B T l) : Mm w v ((B, T, l) :: L) where
  lies := fun x hx => by
    rcases List.mem_cons.1 hx with rfl | q
    · exact n.lies
    · exact keep (h.lies x q) n.below
  own := fun x hx => by
    rcases List.mem_cons.1 hx with rfl | q
    · show w.heap.size ≤ B; rw [n.at']; exact h.below.size
    · exact h.own x q
  ap := by
    rw [List.map_cons, List.nodup_cons]
    refine ⟨fun q => ?_, h.ap⟩
    obtain ⟨y, hy, e⟩ := List.mem_map.1 q
    have h1 := bx_lt (h.lies y hy)
    have h2 : y.1 = u.heap.size := e.trans n.at'
    omega
  below := bsq h.below n.below
/-- a callee's own row -/
theorem Mm.tel (h : Mm w u L) (hb : Below u.heap.size u v) (hB : u.heap.size ≤ B) (hl : v.heap[B]? = some (bv T l)) : Mm w v ((B, T, l) :: L) where
  lies := fun x hx => by
    rcases List.mem_cons.1 hx with rfl | q
    · exact hl
    · exact keep (h.lies x q) hb
  own := fun x hx => by
    rcases List.mem_cons.1 hx with rfl | q
    · exact Nat.le_trans h.below.size hB
    · exact h.own x q
  ap := by
    rw [List.map_cons, List.nodup_cons]
    refine ⟨fun q => ?_, h.ap⟩
    obtain ⟨y, hy, e⟩ := List.mem_map.1 q
    have h1 := bx_lt (h.lies y hy)
    have h2 : y.1 = B := e
    omega
  below := bsq h.below hb
theorem Mm.call (h : Mm w u L) (hb : Below u.heap.size u v) : Mm w v L := ⟨fun x hx => keep (h.lies x hx) hb, h.own, h.ap, bsq h.below hb⟩
theorem Mm.sub {M : List Bk} (h : Mm w u L) (hs : M.Sublist L) : Mm w u M := ⟨fun x hx => h.lies x (hs.subset hx), fun x hx => h.own x (hs.subset hx), h.ap.sublist (hs.map _), h.below⟩
theorem Mm.put {pre post : List Bk} (h : Mm w u (pre ++ (B, T, l) :: post)) (hc : Chg B u v) (hl : v.heap[B]? = some (bv T l')) : Mm w v (pre ++ (B, T, l') :: post) := by
  have hap := h.ap
  rw [List.map_append, List.map_cons, List.nodup_append] at hap
  obtain ⟨hp, hq, hpq⟩ := hap
  rw [List.nodup_cons] at hq
  refine ⟨fun x hx => ?_, fun x hx => ?_, ?_, hc.below _ _ (h.own (B, T, l) (by simp)) h.below⟩
  · rcases List.mem_append.1 hx with q | q
    · rw [hc.other x.1 (fun e => hpq x.1 (List.mem_map.2 ⟨x, q, rfl⟩) B (by simp) e)]
      exact h.lies x (List.mem_append.2 (.inl q))
    · rcases List.mem_cons.1 q with rfl | q
      · exact hl
      · rw [hc.other x.1 (fun e => hq.1 (List.mem_map.2 ⟨x, q, e⟩))]
        exact h.lies x (List.mem_append.2 (.inr (List.mem_cons_of_mem _ q)))
  · rcases List.mem_append.1 hx with q | q
    · exact h.own x (List.mem_append.2 (.inl q))
    · rcases List.mem_cons.1 q with rfl | q
      · exact h.own (B, T, l) (by simp)
      · exact h.own x (List.mem_append.2 (.inr (List.mem_cons_of_mem _ q)))
  · have := h.ap
    rw [List.map_append, List.map_cons] at this ⊢
    exact this
variable {a b c d f g : Bk}
theorem Mm.at0 (h : Mm w u ((B, T, l) :: L)) : u.heap[B]? = some (bv T l) := h.lies (B, T, l) (by simp)
theorem Mm.at1 (h : Mm w u (a :: (B, T, l) :: L)) : u.heap[B]? = some (bv T l) := h.lies (B, T, l) (by simp)
theorem Mm.at2 (h : Mm w u (a :: b :: (B, T, l) :: L)) : u.heap[B]? = some (bv T l) := h.lies (B, T, l) (by simp)
theorem Mm.at3 (h : Mm w u (a :: b :: c :: (B, T, l) :: L)) : u.heap[B]? = some (bv T l) := h.lies (B, T, l) (by simp)
theorem Mm.at4 (h : Mm w u (a :: b :: c :: d :: (B, T, l) :: L)) : u.heap[B]? = some (bv T l) := h.lies (B, T, l) (by simp)
theorem Mm.put0 (h : Mm w u ((B, T, l) :: L)) (hc : Chg B u v) (hl : v.heap[B]? = some (bv T l')) : Mm w v ((B, T, l') :: L) := Mm.put (pre := []) h hc hl
theorem Mm.put1 (h : Mm w u (a :: (B, T, l) :: L)) (hc : Chg B u v) (hl : v.heap[B]? = some (bv T l')) : Mm w v (a :: (B, T, l') :: L) := Mm.put (pre := [a]) h hc hl
theorem Mm.put2 (h : Mm w u (a :: b :: (B, T, l) :: L)) (hc : Chg B u v) (hl : v.heap[B]? = some (bv T l')) : Mm w v (a :: b :: (B, T, l') :: L) := Mm.put (pre := [a, b]) h hc hl
theorem Mm.put3 (h : Mm w u (a :: b :: c :: (B, T, l) :: L)) (hc : Chg B u v) (hl : v.heap[B]? = some (bv T l')) : Mm w v (a :: b :: c :: (B, T, l') :: L) := Mm.put (pre := [a, b, c]) h hc hl
theorem Mm.put4 (h : Mm w u (a :: b :: c :: d :: (B, T, l) :: L)) (hc : Chg B u v) (hl : v.heap[B]? = some (bv T l')) : Mm w v (a :: b :: c :: d :: (B, T, l') :: L) := Mm.put (pre := [a, b, c, d]) h hc hl
theorem Mm.drew (h : Mm w u L) : Mm w u.drew L := ⟨h.lies, h.own, h.ap, h.below.drew⟩
end
theorem ld_var {w : World} {B n : Nat} {T t : TypeId} {l : List Value} (hT : Row t n) (h : w.heap[B]? = some (bv T l)) (hl : l.length = n) : (loadVar t ⟨B, 0, none⟩).run Try.prog w = .ok (agv l) w := by
  have := run_loadv (k := 0) hT h (by omega)
  rw [cv_all hl] at this
  simpa only [Instr.loadAt, Instr.sureAddr, Sem.run_bind, Sem.run_pure, Result.andThen_ok] using this
theorem ret_1 {fn : Func} {p : Tmp} {t : TypeId} {tmps : Array Value} {w : World} {B : Nat} {v : Value} (h : fn.results = #[.cell p t]) (hp : tmps.getD p undef = .pointer (some ⟨B, 0, none⟩)) (hl : (loadVar t ⟨B, 0, none⟩).run Try.prog w = .ok v w) :
    (results fn tmps).run Try.prog w = .ok v w := by
  have hp' : tmps[p]?.getD undef = .pointer (some ⟨B, 0, none⟩) := by simpa using hp
  simp [results, h, hp', asAddr, hl]
theorem ret_2 {fn : Func} {p i : Tmp} {t : TypeId} {tmps : Array Value} {w : World} {B : Nat} {v v1 : Value} (h : fn.results = #[.cell p t, .tmp i]) (hp : tmps.getD p undef = .pointer (some ⟨B, 0, none⟩)) (hl : (loadVar t ⟨B, 0, none⟩).run Try.prog w = .ok v w)
    (h1 : tmps.getD i undef = v1) : (results fn tmps).run Try.prog w = .ok (.tuple #[v, v1]) w := by
  have hp' : tmps[p]?.getD undef = .pointer (some ⟨B, 0, none⟩) := by simpa using hp
  have h1' : tmps[i]?.getD undef = v1 := by simpa using h1
  simp [results, h, hp', asAddr, hl, h1']
theorem v_ldR {ops : Array Oper} {rest : List Oper} {o : Oper} {a : Act} {w : World} {Q : Exit → Act → World → Prop} (hgd : Region.wanted o (yielded ops a.tmps) = true) {t : TypeId} {x : Operand} (ho : o.op = .load t x)
    {g off n : Nat} (hT : Row t n) (hx : a.eval x = .pointer (some ⟨g, off, none⟩)) {r : List Value} (hr : w.rangeAt g off r) (hl : r.length = n)
    (h : wpList Try.prog ops Q rest (a.put o.dst (agv r)) w) : wpList Try.prog ops Q (o :: rest) a w := by
  obtain ⟨d, h1, h2, h3⟩ := hT.ex
  refine wpList_step fun K hK' => ?_
  rw [if_pos hgd]
  unfold Oper.wp execOp
  simp only [ho, hx, Sem.run_bind, run_loadAt_mid w g off t r d hr h1 h2 (by rw [h3, hl]), Result.andThen_ok, Sem.run_pure]
  exact hK' _ _ h
/-- a node's cells: its path's value, and its three numbers -/
def ncl (v : Value) (n : Nd) : List Value := [v, .int .i64 n.2.1, .int .i64 n.2.2.1, .int .i64 n.2.2.2]
theorem ncl_vs {v : Value} (n : Nd) (h : v.oneCell' = true) : Vs (ncl v n) 4 := ⟨rfl, fun x hx => by
  simp only [ncl, List.mem_cons, List.not_mem_nil, or_false] at hx
  rcases hx with rfl | rfl | rfl | rfl
  · exact h
  all_goals rfl⟩
theorem ris_one {w : World} {v : Value} {l : List Int} (h : Ris w v l) : v.oneCell' = true := by obtain ⟨a, c, rfl, _⟩ := h.form; rfl
def nilS : Value := .slice none 0 0
def zN : Nd := ([], 0, 0, 0)
theorem zer_node : Zer 25 (ncl nilS zN) := ⟨by kernel_rfl⟩
theorem ris_nil (w : World) : Ris w nilS [] := ⟨none, 0, rfl, Nat.le_refl _, Nat.zero_le _, fun q => by simp at q⟩
theorem bld_zero : ∀ w, (Instr.build 25 #[]).run Try.prog w = .ok (agv (ncl nilS zN)) w := fun w => by kernel_rfl
/-- nodes, each with its path's value -/
abbrev NL := List (Value × Nd)
def ncs (L : NL) : List Value := L.flatMap fun q => ncl q.1 q.2
def tr (L : NL) : List Nd := L.map Prod.snd
theorem tr_len (L : NL) : (tr L).length = L.length := List.length_map ..
theorem tr_at {L : NL} {k : Nat} {q : Value × Nd} (h : L[k]? = some q) : (tr L)[k]? = some q.2 := by simp [tr, h]
theorem ncs_length (L : NL) : (ncs L).length = L.length * 4 := by
  induction L with
  | nil => rfl
  | cons e r ih => rw [ncs, List.flatMap_cons, List.length_append, show (List.flatMap (fun q : Value × Nd => ncl q.1 q.2) r).length = r.length * 4 from ih, List.length_cons]; simp [ncl]; omega
theorem ncs_append (a b : NL) : ncs (a ++ b) = ncs a ++ ncs b := by simp [ncs]
theorem ncs_at : ∀ (L : NL) (j : Nat) (q : Value × Nd), L[j]? = some q → ∀ i x, (ncl q.1 q.2)[i]? = some x → (ncs L)[j * 4 + i]? = some x := by
  intro es
  induction es with
  | nil => intro j e h; simp at h
  | cons a r ih =>
    intro j e h i x hx
    have hc : ncs (a :: r) = ncl a.1 a.2 ++ ncs r := rfl
    have hl : (ncl a.1 a.2).length = 4 := rfl
    rw [hc]
    cases j with
    | zero =>
      simp at h; subst h
      have hi := (List.getElem?_eq_some_iff.1 hx).1
      rw [List.getElem?_append_left (by omega), Nat.zero_mul, Nat.zero_add]; exact hx
    | succ j =>
      rw [List.getElem?_append_right (by omega), hl, show (j + 1) * 4 + i - 4 = j * 4 + i by omega]
      exact ih j e (by simpa using h) i x hx
/-- a slice that reads as these cells, four an element -/
def Rcl (w : World) (v : Value) (n : Nat) (xs : List Value) : Prop :=
  ∃ a c, v = .slice a n c ∧ n ≤ c ∧ c ≤ maxLen ∧ (0 < n → ∃ g off, a = some ⟨g, off, none⟩ ∧ g < w.heap.size ∧ ∀ j x, xs[j]? = some x → w.cell? ⟨g, off + j, none⟩ = some x)
theorem Rcl.below {w u : World} {v : Value} {n : Nat} {xs : List Value} (h : Rcl w v n xs) (hb : Below w.heap.size w u) : Rcl u v n xs := by
  obtain ⟨a, c, hv, h1, h2, h4⟩ := h
  refine ⟨a, c, hv, h1, h2, fun hn => ?_⟩
  obtain ⟨g, off, ha, hg, hc⟩ := h4 hn
  exact ⟨g, off, ha, Nat.lt_of_lt_of_le hg hb.size, fun j x hx => (hb.cell (p := ⟨g, off + j, none⟩) hg).trans (hc j x hx)⟩
/-- a slice that reads as these nodes -/
structure Rt (w : World) (v : Value) (L : NL) : Prop where
  row : Rcl w v L.length (ncs L)
  all : ∀ q ∈ L, Ris w q.1 q.2.1
theorem Rt.below {w u : World} {v : Value} {L : NL} (h : Rt w v L) (hb : Below w.heap.size w u) : Rt u v L := ⟨h.row.below hb, fun q hq => (h.all q hq).below hb⟩
theorem Rt.form {w : World} {v : Value} {L : NL} (h : Rt w v L) : ∃ a c, v = .slice a L.length c ∧ L.length ≤ c ∧ c ≤ maxLen := by
  obtain ⟨a, c, h, h1, h2, _⟩ := h.row; exact ⟨_, _, h, h1, h2⟩
/-- where the k-th node lies, in all worlds from there on -/
theorem Rt.at {w : World} {a : Option Addr} {n c : Nat} {L : NL} (h : Rt w (.slice a n c) L) (k : Nat) (q : Value × Nd) (hk : L[k]? = some q) : ∃ g off, a = some ⟨g, off, none⟩ ∧ ∀ u, Below w.heap.size w u → u.rangeAt g (off + k * 4) (ncl q.1 q.2) ∧ Ris u q.1 q.2.1 := by
  obtain ⟨a', c', hv, h1, h2, h4⟩ := h.row
  have hl := (List.getElem?_eq_some_iff.1 hk).1
  obtain ⟨g, off, ha, hg, hc⟩ := h4 (by omega)
  have : a = a' := by injection hv
  refine ⟨g, off, this.trans ha, fun u hb => ⟨fun j x hx => ?_, (h.all q (List.mem_of_getElem? hk)).below hb⟩⟩
  rw [Nat.add_assoc]
  exact (hb.cell (p := ⟨g, off + (k * 4 + j), none⟩) hg).trans (hc _ _ (ncs_at L k q hk j x hx))
theorem range_at4 {u : World} {g off : Nat} {v : Value} {n : Nd} (h : u.rangeAt g off (ncl v n)) : u.cell? ⟨g, off, none⟩ = some v ∧ u.cell? ⟨g, off + 1, none⟩ = some (.int .i64 n.2.1) ∧ u.cell? ⟨g, off + 2, none⟩ = some (.int .i64 n.2.2.1) ∧ u.cell? ⟨g, off + 3, none⟩ = some (.int .i64 n.2.2.2) := ⟨h 0 _ rfl, h 1 _ rfl, h 2 _ rfl, h 3 _ rfl⟩
/-- a tree that is read -/
def Rtr (w : World) (v : Value) (T : List Nd) : Prop := ∃ L, Rt w v L ∧ tr L = T
theorem Rtr.below {w u : World} {v : Value} {T : List Nd} (h : Rtr w v T) (hb : Below w.heap.size w u) : Rtr u v T := by obtain ⟨L, h1, h2⟩ := h; exact ⟨L, h1.below hb, h2⟩
theorem rt_nil (w : World) : Rt w nilS [] := ⟨⟨none, 0, rfl, Nat.le_refl _, Nat.zero_le _, fun q => by simp at q⟩, fun q hq => by simp at hq⟩
theorem rtr_nil (w : World) : Rtr w nilS [] := ⟨[], rt_nil w, rfl⟩
end Go.Proofs.Ytemlafdmeaobfab.topo
