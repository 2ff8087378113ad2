/- bulk: boxes of values in memory. -/
import Derived.Test.YtecknicmonhcaabDoorRows
import Derived.Test.YtecknicmonhcaabDoorBulM
import Derived.Test.YtecknicmonhcaabDoorScsA
import Derived.WalkKit
import Derived.Handy
import Derived.Below
import Derived.OneCell
import Derived.WalkSmall
import Derived.RegionTactic
import Derived.BigRegion
import Derived.Deep.Cut
import Derived.Deep.CutRange
import Derived.Deep.MidRow
import Derived.MapKept
import Derived.OrdersHeld
import Derived.Laws.MakeOwn
namespace Go.Proofs.YtecknicmonhcaabDoor.bulk
open Go Go.RowKit Go.Proofs.YtecknicmonhcaabDoor.lane Go.Proofs.YtecknicmonhcaabDoor.pipe
set_option linter.unusedVariables false
set_option linter.unusedSimpArgs false
set_option maxRecDepth 100000

def ag (l : List Value) : Value := .agg l.toArray
def bx (T : TypeId) (l : List Value) : Obj := .cells l.toArray T (0, 0)
def ivs (l : List Int) : List Value := l.map (Value.int .i64)
theorem ivs_length (l : List Int) : (ivs l).length = l.length := List.length_map ..
theorem ivs_at {l : List Int} {j : Nat} {x : Int} (h : l[j]? = some x) : (ivs l)[j]? = some (.int .i64 x) := by simp [ivs, h]
theorem ivs_set (l : List Int) (j : Nat) (x : Int) : (ivs l).set j (.int .i64 x) = ivs (l.set j x) := by simp [ivs, List.map_set]
theorem bx_cell {w : World} {B j : Nat} {T : TypeId} {l : List Value} {x : Value} (h : w.heap[B]? = some (bx T l)) (hx : l[j]? = some x) : w.cell? ⟨B, j, none⟩ = some x := by
  rw [cell_of_row w B j _ _ (0, 0) h]; simpa using hx
theorem bx_free {w : World} {B : Nat} {T : TypeId} {l : List Value} (h : w.heap[B]? = some (bx T l)) (j : Nat) : w.frozen? ⟨B, j, none⟩ = false := frozen_of_row w B j _ _ h
theorem bx_lt {w : World} {B : Nat} {o : Obj} (h : w.heap[B]? = some o) : B < w.heap.size := (Array.getElem?_eq_some_iff.1 h).1
/-- all but the block B is as it was -/
structure Chg (B : Nat) (w u : World) : Prop where
  size : u.heap.size = w.heap.size
  other : ∀ X, X ≠ B → u.heap[X]? = w.heap[X]?
  below : ∀ (b : Nat) (w0 : World), b ≤ B → Below b w0 w → Below b w0 u
theorem Chg.refl (B : Nat) (w : World) : Chg B w w := ⟨rfl, fun _ _ => rfl, fun _ _ _ h => h⟩
theorem Chg.trans {B : Nat} {w u v : World} (h : Chg B w u) (g : Chg B u v) : Chg B w v := ⟨g.size.trans h.size, fun X hX => (g.other X hX).trans (h.other X hX), fun b w0 hb q => g.below b w0 hb (h.below b w0 hb q)⟩
theorem Chg.drew {B : Nat} {w u : World} (h : Chg B w u) : Chg B w u.drew := ⟨h.size, h.other, fun b w0 hb q => (h.below b w0 hb q).drew⟩
theorem setRow_chg {w : World} {B : Nat} {T : TypeId} {l : List Value} (cs : Array Value) (h : w.heap[B]? = some (bx T l)) : Chg B w (w.setRow B cs) where
  size := by simp
  other := fun X hX => setRow_other w B X cs hX
  below := fun b w0 hb h => ⟨h.os, h.tape, h.output, by simp; exact h.size, fun X hX => (setRow_other w B X cs (by omega)).trans (h.block X hX)⟩
theorem set_bx {w : World} {B j : Nat} {T : TypeId} {l : List Value} {x : Value} (h : w.heap[B]? = some (bx T l)) : (w.setCell ⟨B, j, none⟩ x).heap[B]? = some (bx T (l.set j x)) ∧ Chg B w (w.setCell ⟨B, j, none⟩ x) := by
  have e : (w.setCell ⟨B, j, none⟩ x) = w.setRow B (l.set j x).toArray := by
    rw [setCell_eq_setRow w B j _ T (0, 0) _ h]; simp
  rw [e]
  exact ⟨setRow_heap w B _ _ T _ h, setRow_chg _ h⟩
/-- values of one cell each, n of them -/
structure Vs (l : List Value) (n : Nat) : Prop where
  len : l.length = n
  one : ∀ v ∈ l, v.oneCell' = true
def cut (l : List Value) (k n : Nat) : List Value := (l.drop k).take n
theorem cut_all {l : List Value} {n : Nat} (h : l.length = n) : cut l 0 n = l := by unfold cut; rw [List.drop_zero, List.take_of_length_le (by omega)]
/-- row l from place k on is r -/
def putL (l : List Value) (k : Nat) (r : List Value) : List Value := l.take k ++ r ++ l.drop (k + r.length)
theorem putL_all {l r : List Value} (h : r.length = l.length) : putL l 0 r = r := by unfold putL; rw [List.take_zero, List.nil_append, List.drop_eq_nil_of_le (by omega), List.append_nil]
theorem bx_range {w : World} {B k n : Nat} {T : TypeId} {l : List Value} (h : w.heap[B]? = some (bx T l)) : w.rangeAt B k (cut l k n) := fun j v hv => by
  unfold cut at hv
  rw [List.getElem?_take] at hv
  split at hv
  · rw [List.getElem?_drop] at hv
    exact bx_cell h hv
  · simp at hv
theorem cut_length {l : List Value} {k n : Nat} (h : k + n ≤ l.length) : (cut l k n).length = n := by simp [cut]; omega
/-- a type of n cells that is loaded whole -/
structure Row (t : TypeId) (n : Nat) : Prop where
  ex : ∃ d, Tryd.prog.underlying t = some d ∧ d.isRow = true ∧ (Tryd.prog.info? t).map (·.size) = some n
theorem run_loadv {w : World} {B k n : Nat} {T t : TypeId} {l : List Value} (hT : Row t n) (h : w.heap[B]? = some (bx T l)) (hle : k + n ≤ l.length) :
    (Instr.loadAt t (.pointer (some ⟨B, k, none⟩))).run Tryd.prog w = .ok (ag (cut l k n)) w := by
  obtain ⟨d, h1, h2, h3⟩ := hT.ex
  exact run_loadAt_mid w B k t _ d (bx_range (n := n) h) h1 h2 (by rw [h3]; exact congrArg some (cut_length hle).symm)
theorem run_storev {w : World} {B k n : Nat} {T t : TypeId} {l r : List Value} (hT : Row t n) (h : w.heap[B]? = some (bx T l)) (hr : Vs r n) (hle : k + n ≤ l.length) :
    (Instr.storeAt t (.pointer (some ⟨B, k, none⟩)) (ag r)).run Tryd.prog w = .ok () (w.setRow B (putL l k r).toArray) := by
  obtain ⟨d, h1, h2, h3⟩ := hT.ex
  have hst := run_storeCells_at Tryd.prog B k T r 0 l.toArray w h (by have := hr.len; simp; omega) hr.one
  rw [Nat.add_zero] at hst
  cases hq : Tryd.prog.info? t with
  | none => simp [hq] at h3
  | some i =>
    have hs : r.toArray.size = i.size := by have := hr.len; simp [hq] at h3; simp; omega
    simp only [Instr.storeAt, Instr.sureAddr, Sem.run_bind, Sem.run_pure, Result.andThen_ok]
    have hs' : r.length = i.size := by simpa using hs
    simp [storeVar, sizeOf, typeInfo, hq, ag, Value.cells, hs', hst, putL]
/-- a type of one cell that is read and written -/
structure Lod (t : TypeId) : Prop where
  ld : ∀ (w : World) (p : Addr) (v : Value), w.cell? p = some v → (Instr.loadAt t (.pointer (some p))).run Tryd.prog w = .ok v w
structure One (t : TypeId) (v : Value) : Prop where
  st : ∀ (w : World) (p : Addr) (x : Value), w.cell? p = some x → w.frozen? p = false → (Instr.storeAt t (.pointer (some p)) v).run Tryd.prog w = .ok () (w.setCell p v)
theorem lod_int : Lod 3 := ⟨fun w p v h => by simp [go_sem, h]⟩
theorem lod_bool : Lod 4 := ⟨fun w p v h => by simp [go_sem, h]⟩
theorem lod_str : Lod 9 := ⟨fun w p v h => by simp [go_sem, h]⟩
theorem lod_txs : Lod 22 := ⟨fun w p v h => by simp [go_sem, h]⟩
theorem one_int (n : Int) : One 3 (.int .i64 n) := ⟨fun w p v h f => by simp [go_sem, h, f]⟩
theorem one_str (s : ByteArray) : One 9 (.string s) := ⟨fun w p v h f => by simp [go_sem, h, f]⟩
theorem one_txs (a : Option Addr) (n c : Nat) : One 22 (.slice a n c) := ⟨fun w p v h f => by simp [go_sem, h, f]⟩
section
variable {ops : Array Oper} {rest : List Oper} {o : Oper} {a : Act} {w : World} {Q : Exit → Act → World → Prop}
/-- a row is read -/
theorem v_load (hgd : Region.wanted o (yielded ops a.tmps) = true) {t : TypeId} {x : Operand} (ho : o.op = .load t x)
    {B k n : Nat} (hT : Row t n) (hx : a.eval x = .pointer (some ⟨B, k, none⟩)) {T : TypeId} {l r : List Value} (hB : w.heap[B]? = some (bx T l)) (hle : k + n ≤ l.length) (hr : cut l k n = r)
    (h : wpList Tryd.prog ops Q rest (a.put o.dst (ag r)) w) : wpList Tryd.prog ops Q (o :: rest) a w := by
  subst hr
  refine wpList_step fun K hK' => ?_
  rw [if_pos hgd]
  unfold Oper.wp execOp
  simp only [ho, hx, Sem.run_bind, run_loadv hT hB hle, Result.andThen_ok, Sem.run_pure]
  exact hK' _ _ h
/-- a row is written -/
theorem v_store (hgd : Region.wanted o (yielded ops a.tmps) = true) {t : TypeId} {x y : Operand} (ho : o.op = .store t x y)
    {B k n : Nat} (hT : Row t n) {T : TypeId} {l r l' : List Value} (hx : a.eval x = .pointer (some ⟨B, k, none⟩)) (hy : a.eval y = ag r) (hB : w.heap[B]? = some (bx T l)) (hr : Vs r n) (hle : k + n ≤ l.length) (hl : putL l k r = l')
    (h : ∀ u, u.heap[B]? = some (bx T l') → Chg B w u → wpList Tryd.prog ops Q rest (a.put o.dst undef) u) : wpList Tryd.prog ops Q (o :: rest) a w := by
  subst hl
  refine wpList_step fun K hK' => ?_
  rw [if_pos hgd]
  unfold Oper.wp execOp
  simp only [ho, hx, hy, Sem.run_bind, run_storev hT hB hr hle, Result.andThen_ok, Sem.run_pure]
  exact hK' _ _ (h _ (setRow_heap w B _ _ T _ hB) (setRow_chg _ hB))
theorem v_fill (hgd : Region.wanted o (yielded ops a.tmps) = true) {t : TypeId} {x y : Operand} (ho : o.op = .store t x y)
    {B n : Nat} (hT : Row t n) {T : TypeId} {l r : List Value} (hx : a.eval x = .pointer (some ⟨B, 0, none⟩)) (hy : a.eval y = ag r) (hB : w.heap[B]? = some (bx T l)) (hr : Vs r n) (hl : l.length = n)
    (h : ∀ u, u.heap[B]? = some (bx T r) → Chg B w u → wpList Tryd.prog ops Q rest (a.put o.dst undef) u) : wpList Tryd.prog ops Q (o :: rest) a w :=
  v_store hgd ho hT hx hy hB hr (by omega) (putL_all (by rw [hr.len, hl])) h
/-- one value is written -/
theorem v_put (hgd : Region.wanted o (yielded ops a.tmps) = true) {t : TypeId} {x y : Operand} (ho : o.op = .store t x y) {v : Value} (ht : One t v)
    {B j : Nat} {T : TypeId} {l : List Value} (hx : a.eval x = .pointer (some ⟨B, j, none⟩)) (hy : a.eval y = v) (hB : w.heap[B]? = some (bx T l)) (hle : j < l.length)
    (h : ∀ u, u.heap[B]? = some (bx T (l.set j v)) → Chg B w u → wpList Tryd.prog ops Q rest (a.put o.dst undef) u) : wpList Tryd.prog ops Q (o :: rest) a w := by
  refine wpList_step fun K hK' => ?_
  rw [if_pos hgd]
  have hs := ht.st w ⟨B, j, none⟩ _ (bx_cell hB (List.getElem?_eq_getElem hle)) (bx_free hB j)
  unfold Oper.wp execOp
  simp only [ho, hx, hy, Sem.run_bind, hs, Result.andThen_ok, Sem.run_pure]
  exact hK' _ _ (h _ (set_bx hB).1 (set_bx hB).2)
/-- one value is read -/
theorem v_get (hgd : Region.wanted o (yielded ops a.tmps) = true) {t : TypeId} {x : Operand} (ho : o.op = .load t x) (ht : Lod t)
    {B j : Nat} {T : TypeId} {l : List Value} {v : Value} (hx : a.eval x = .pointer (some ⟨B, j, none⟩)) (hB : w.heap[B]? = some (bx T l)) (hv : l[j]? = some v)
    (h : wpList Tryd.prog ops Q rest (a.put o.dst v) w) : wpList Tryd.prog ops Q (o :: rest) a w := by
  refine wpList_step fun K hK' => ?_
  rw [if_pos hgd]
  have hs := ht.ld w ⟨B, j, none⟩ _ (bx_cell hB hv)
  unfold Oper.wp execOp
  simp only [ho, hx, Sem.run_bind, hs, Result.andThen_ok, Sem.run_pure]
  exact hK' _ _ h
/-- new memory: a block of one's own -/
structure New (w u : World) (B : Nat) (T : TypeId) (l : List Value) : Prop where
  lies : u.heap[B]? = some (bx T l)
  at' : B = w.heap.size
  size : u.heap.size = w.heap.size + 1
  below : Below w.heap.size w u
theorem New.alloc (w : World) (T : TypeId) (l : List Value) : New w (w.alloc (bx T l)) w.heap.size T l := ⟨(MapKept.heap_alloc w _).1, rfl, Array.size_push _, balloc _ _⟩
/-- a value is boxed -/
theorem v_box (hgd : Region.wanted o (yielded ops a.tmps) = true) {t : TypeId} {x : Operand} (ho : o.op = .box t x)
    {l : List Value} (hx : a.eval x = ag l) (h : ∀ u B, New w u B t l → wpList Tryd.prog ops Q rest (a.put o.dst (.pointer (some ⟨B, 0, none⟩))) u) : wpList Tryd.prog ops Q (o :: rest) a w := by
  refine wpList_step fun K hK' => ?_
  rw [if_pos hgd]
  unfold Oper.wp execOp
  simp only [ho, hx]
  simp only [go_sem, ag]
  exact hK' _ _ (h _ _ (New.alloc w t l))
/-- the zero value -/
structure Zer (t : TypeId) (l : List Value) : Prop where
  eq : (Tryd.prog.info? t).map (·.zero) = some (some (ag l))
theorem v_alloc (hgd : Region.wanted o (yielded ops a.tmps) = true) {t : TypeId} {l : List Value} (hz : Zer t l) (ho : o.op = .alloc t)
    (h : ∀ u B, New w u B t l → wpList Tryd.prog ops Q rest (a.put o.dst (.pointer (some ⟨B, 0, none⟩))) u) : wpList Tryd.prog ops Q (o :: rest) a w := by
  refine wpList_step fun K hK' => ?_
  rw [if_pos hgd]
  unfold Oper.wp execOp
  simp only [ho]
  cases hq : Tryd.prog.info? t with
  | none => have := hz.eq; simp [hq] at this
  | some i =>
    have hz' : i.zero = some (ag l) := by simpa [hq] using hz.eq
    simp [go_sem, zeroValue, typeInfo, hq, hz', ag]
    exact hK' _ _ (h _ _ (New.alloc w t _))
/-- a value is built -/
theorem v_build (hgd : Region.wanted o (yielded ops a.tmps) = true) {t : TypeId} {ps : Array (Nat × Operand)} (ho : o.op = .build t ps)
    {vs : Array (Nat × Value)} {v : Value} (hb : ∀ w, (Instr.build t vs).run Tryd.prog w = .ok v w) (hv : ps.map (fun q => (q.1, a.eval q.2)) = vs)
    (h : wpList Tryd.prog ops Q rest (a.put o.dst v) w) : wpList Tryd.prog ops Q (o :: rest) a w := by
  refine wpList_step fun K hK' => ?_
  rw [if_pos hgd]
  unfold Oper.wp execOp
  simp only [ho, hv, Sem.run_bind, hb, Result.andThen_ok, Sem.run_pure]
  exact hK' _ _ h
end
theorem v_putx {ops : Array Oper} {rest : List Oper} {o : Oper} {a : Act} {w : World} {Q : Exit → Act → World → Prop} (hgd : Region.wanted o (yielded ops a.tmps) = true) {t : TypeId} {x y : Operand} (ho : o.op = .store t x y) {v : Value} (ht : One t v)
    {B j : Nat} {T : TypeId} {l l' : List Value} (hx : a.eval x = .pointer (some ⟨B, j, none⟩)) (hy : a.eval y = v) (hB : w.heap[B]? = some (bx T l)) (hle : j < l.length) (hl : l.set j v = l')
    (h : ∀ u, u.heap[B]? = some (bx T l') → Chg B w u → wpList Tryd.prog ops Q rest (a.put o.dst undef) u) : wpList Tryd.prog ops Q (o :: rest) a w := by
  subst hl
  exact v_put hgd ho ht hx hy hB hle h
/-- what is carried from world to world -/
structure Cr (w : World) (P : World → Prop) : Prop where
  out : P w
  mv : ∀ u v, P u → Below u.heap.size u v → P v
theorem Cr.call {w u : World} {P : World → Prop} (h : Cr w P) (hb : Below w.heap.size w u) : Cr u P := ⟨h.mv w u h.out hb, h.mv⟩
/-- a walk stops here -/
structure Stop (P : Prop) : Prop where
  out : P
abbrev Bk := Nat × TypeId × List Value
/-- the boxes of a call, and what was there ahead of it -/
structure Mm (w u : World) (L : List Bk) : Prop where
  lies : ∀ x ∈ L, u.heap[x.1]? = some (bx x.2.1 x.2.2)
  own : ∀ x ∈ L, w.heap.size ≤ x.1
  ap : (L.map (·.1)).Nodup
  below : Below w.heap.size w u
theorem Mm.nil (w : World) : Mm w w [] := ⟨fun x h => absurd h (by simp), fun x h => absurd h (by simp), List.nodup_nil, Below.refl _ _⟩
section
variable {w u v : World} {L : List Bk} {B : Nat} {T : TypeId} {l l' : List Value}
theorem Mm.new (h : Mm w u L) (n : New u v B T l) : Mm w v ((B, T, l) :: L) where
  lies := fun x hx => by
    rcases List.mem_cons.1 hx with rfl | q
    · exact n.lies
    · exact keep (h.lies x q) n.below
  own := fun x hx => by
    rcases List.mem_cons.1 hx with rfl | q
    · show w.heap.size ≤ B; rw [n.at']; exact h.below.size
    · exact h.own x q
  ap := by
    rw [List.map_cons, List.nodup_cons]
    refine ⟨fun q => ?_, h.ap⟩
    obtain ⟨y, hy, e⟩ := List.mem_map.1 q
    have h1 := bx_lt (h.lies y hy)
    have h2 : y.1 = u.heap.size := e.trans n.at'
    omega
  below := bsq h.below n.below
/-- a callee's own row -/
theorem Mm.tel (h : Mm w u L) (hb : Below u.heap.size u v) (hB : u.heap.size ≤ B) (hl : v.heap[B]? = some (bx T l)) : Mm w v ((B, T, l) :: L) where
  lies := fun x hx => by
    rcases List.mem_cons.1 hx with rfl | q
    · exact hl
    · exact keep (h.lies x q) hb
  own := fun x hx => by
    rcases List.mem_cons.1 hx with rfl | q
    · exact Nat.le_trans h.below.size hB
    · exact h.own x q
  ap := by
    rw [List.map_cons, List.nodup_cons]
    refine ⟨fun q => ?_, h.ap⟩
    obtain ⟨y, hy, e⟩ := List.mem_map.1 q
    have h1 := bx_lt (h.lies y hy)
    have h2 : y.1 = B := e
    omega
  below := bsq h.below hb
theorem Mm.call (h : Mm w u L) (hb : Below u.heap.size u v) : Mm w v L := ⟨fun x hx => keep (h.lies x hx) hb, h.own, h.ap, bsq h.below hb⟩
theorem Mm.sub {M : List Bk} (h : Mm w u L) (hs : M.Sublist L) : Mm w u M := ⟨fun x hx => h.lies x (hs.subset hx), fun x hx => h.own x (hs.subset hx), h.ap.sublist (hs.map _), h.below⟩
theorem Mm.put {pre post : List Bk} (h : Mm w u (pre ++ (B, T, l) :: post)) (hc : Chg B u v) (hl : v.heap[B]? = some (bx T l')) : Mm w v (pre ++ (B, T, l') :: post) := by
  have hap := h.ap
  rw [List.map_append, List.map_cons, List.nodup_append] at hap
  obtain ⟨hp, hq, hpq⟩ := hap
  rw [List.nodup_cons] at hq
  refine ⟨fun x hx => ?_, fun x hx => ?_, ?_, hc.below _ _ (h.own (B, T, l) (by simp)) h.below⟩
  · rcases List.mem_append.1 hx with q | q
    · rw [hc.other x.1 (fun e => hpq x.1 (List.mem_map.2 ⟨x, q, rfl⟩) B (by simp) e)]
      exact h.lies x (List.mem_append.2 (.inl q))
    · rcases List.mem_cons.1 q with rfl | q
      · exact hl
      · rw [hc.other x.1 (fun e => hq.1 (List.mem_map.2 ⟨x, q, e⟩))]
        exact h.lies x (List.mem_append.2 (.inr (List.mem_cons_of_mem _ q)))
  · rcases List.mem_append.1 hx with q | q
    · exact h.own x (List.mem_append.2 (.inl q))
    · rcases List.mem_cons.1 q with rfl | q
      · exact h.own (B, T, l) (by simp)
      · exact h.own x (List.mem_append.2 (.inr (List.mem_cons_of_mem _ q)))
  · have := h.ap
    rw [List.map_append, List.map_cons] at this ⊢
    exact this
variable {a b c d f g : Bk}
theorem Mm.at0 (h : Mm w u ((B, T, l) :: L)) : u.heap[B]? = some (bx T l) := h.lies (B, T, l) (by simp)
theorem Mm.at1 (h : Mm w u (a :: (B, T, l) :: L)) : u.heap[B]? = some (bx T l) := h.lies (B, T, l) (by simp)
theorem Mm.at2 (h : Mm w u (a :: b :: (B, T, l) :: L)) : u.heap[B]? = some (bx T l) := h.lies (B, T, l) (by simp)
theorem Mm.at3 (h : Mm w u (a :: b :: c :: (B, T, l) :: L)) : u.heap[B]? = some (bx T l) := h.lies (B, T, l) (by simp)
theorem Mm.at4 (h : Mm w u (a :: b :: c :: d :: (B, T, l) :: L)) : u.heap[B]? = some (bx T l) := h.lies (B, T, l) (by simp)
theorem Mm.put0 (h : Mm w u ((B, T, l) :: L)) (hc : Chg B u v) (hl : v.heap[B]? = some (bx T l')) : Mm w v ((B, T, l') :: L) := Mm.put (pre := []) h hc hl
theorem Mm.put1 (h : Mm w u (a :: (B, T, l) :: L)) (hc : Chg B u v) (hl : v.heap[B]? = some (bx T l')) : Mm w v (a :: (B, T, l') :: L) := Mm.put (pre := [a]) h hc hl
theorem Mm.put2 (h : Mm w u (a :: b :: (B, T, l) :: L)) (hc : Chg B u v) (hl : v.heap[B]? = some (bx T l')) : Mm w v (a :: b :: (B, T, l') :: L) := Mm.put (pre := [a, b]) h hc hl
theorem Mm.put3 (h : Mm w u (a :: b :: c :: (B, T, l) :: L)) (hc : Chg B u v) (hl : v.heap[B]? = some (bx T l')) : Mm w v (a :: b :: c :: (B, T, l') :: L) := Mm.put (pre := [a, b, c]) h hc hl
theorem Mm.put4 (h : Mm w u (a :: b :: c :: d :: (B, T, l) :: L)) (hc : Chg B u v) (hl : v.heap[B]? = some (bx T l')) : Mm w v (a :: b :: c :: d :: (B, T, l') :: L) := Mm.put (pre := [a, b, c, d]) h hc hl
theorem Mm.at5 (h : Mm w u (a :: b :: c :: d :: f :: (B, T, l) :: L)) : u.heap[B]? = some (bx T l) := h.lies (B, T, l) (by simp)
theorem Mm.put5 (h : Mm w u (a :: b :: c :: d :: f :: (B, T, l) :: L)) (hc : Chg B u v) (hl : v.heap[B]? = some (bx T l')) : Mm w v (a :: b :: c :: d :: f :: (B, T, l') :: L) := Mm.put (pre := [a, b, c, d, f]) h hc hl
theorem Mm.drew (h : Mm w u L) : Mm w u.drew L := ⟨h.lies, h.own, h.ap, h.below.drew⟩
theorem Mm.drewN (h : Mm w u L) (n : Nat) : Mm w (u.drewN n) L := ⟨h.lies, h.own, h.ap, ⟨h.below.os, h.below.tape, h.below.output, h.below.size, h.below.block⟩⟩
end
theorem ld_var {w : World} {B n : Nat} {T t : TypeId} {l : List Value} (hT : Row t n) (h : w.heap[B]? = some (bx T l)) (hl : l.length = n) : (loadVar t ⟨B, 0, none⟩).run Tryd.prog w = .ok (ag l) w := by
  have := run_loadv (k := 0) hT h (by omega)
  rw [cut_all hl] at this
  simpa only [Instr.loadAt, Instr.sureAddr, Sem.run_bind, Sem.run_pure, Result.andThen_ok] using this
theorem ret_1 {fn : Func} {p : Tmp} {t : TypeId} {tmps : Array Value} {w : World} {B : Nat} {v : Value} (h : fn.results = #[.cell p t]) (hp : tmps.getD p undef = .pointer (some ⟨B, 0, none⟩)) (hl : (loadVar t ⟨B, 0, none⟩).run Tryd.prog w = .ok v w) :
    (results fn tmps).run Tryd.prog w = .ok v w := by
  have hp' : tmps[p]?.getD undef = .pointer (some ⟨B, 0, none⟩) := by simpa using hp
  simp [results, h, hp', asAddr, hl]
theorem ret_2 {fn : Func} {p i : Tmp} {t : TypeId} {tmps : Array Value} {w : World} {B : Nat} {v v1 : Value} (h : fn.results = #[.cell p t, .tmp i]) (hp : tmps.getD p undef = .pointer (some ⟨B, 0, none⟩)) (hl : (loadVar t ⟨B, 0, none⟩).run Tryd.prog w = .ok v w)
    (h1 : tmps.getD i undef = v1) : (results fn tmps).run Tryd.prog w = .ok (.tuple #[v, v1]) w := by
  have hp' : tmps[p]?.getD undef = .pointer (some ⟨B, 0, none⟩) := by simpa using hp
  have h1' : tmps[i]?.getD undef = v1 := by simpa using h1
  simp [results, h, hp', asAddr, hl, h1']
theorem v_ldR {ops : Array Oper} {rest : List Oper} {o : Oper} {a : Act} {w : World} {Q : Exit → Act → World → Prop} (hgd : Region.wanted o (yielded ops a.tmps) = true) {t : TypeId} {x : Operand} (ho : o.op = .load t x)
    {g off n : Nat} (hT : Row t n) (hx : a.eval x = .pointer (some ⟨g, off, none⟩)) {r : List Value} (hr : w.rangeAt g off r) (hl : r.length = n)
    (h : wpList Tryd.prog ops Q rest (a.put o.dst (ag r)) w) : wpList Tryd.prog ops Q (o :: rest) a w := by
  obtain ⟨d, h1, h2, h3⟩ := hT.ex
  refine wpList_step fun K hK' => ?_
  rw [if_pos hgd]
  unfold Oper.wp execOp
  simp only [ho, hx, Sem.run_bind, run_loadAt_mid w g off t r d hr h1 h2 (by rw [h3, hl]), Result.andThen_ok, Sem.run_pure]
  exact hK' _ _ h
theorem ret_3 {fn : Func} {p i j : Tmp} {t : TypeId} {tmps : Array Value} {w : World} {B : Nat} {v v1 v2 : Value} (h : fn.results = #[.cell p t, .tmp i, .tmp j]) (hp : tmps.getD p undef = .pointer (some ⟨B, 0, none⟩)) (hl : (loadVar t ⟨B, 0, none⟩).run Tryd.prog w = .ok v w)
    (h1 : tmps.getD i undef = v1) (h2 : tmps.getD j undef = v2) : (results fn tmps).run Tryd.prog w = .ok (.tuple #[v, v1, v2]) w := by
  have hp' : tmps[p]?.getD undef = .pointer (some ⟨B, 0, none⟩) := by simpa using hp
  have h1' : tmps[i]?.getD undef = v1 := by simpa using h1
  have h2' : tmps[j]?.getD undef = v2 := by simpa using h2
  simp [results, h, hp', asAddr, hl, h1', h2']
/-- some boxes, for a region that draws -/
structure Ls (u : World) (L : List Bk) : Prop where
  lies : ∀ x ∈ L, u.heap[x.1]? = some (bx x.2.1 x.2.2)
theorem Mm.ls {w u : World} {L L' : List Bk} (h : Mm w u L) (hs : ∀ x ∈ L', x ∈ L) : Ls u L' := ⟨fun x hx => h.lies x (hs x hx)⟩
section
variable {u : World} {a b c d f : Bk} {L : List Bk} {B : Nat} {T : TypeId} {l : List Value}
theorem Ls.at0 (h : Ls u ((B, T, l) :: L)) : u.heap[B]? = some (bx T l) := h.lies (B, T, l) (by simp)
theorem Ls.at1 (h : Ls u (a :: (B, T, l) :: L)) : u.heap[B]? = some (bx T l) := h.lies (B, T, l) (by simp)
theorem Ls.at2 (h : Ls u (a :: b :: (B, T, l) :: L)) : u.heap[B]? = some (bx T l) := h.lies (B, T, l) (by simp)
theorem Ls.at3 (h : Ls u (a :: b :: c :: (B, T, l) :: L)) : u.heap[B]? = some (bx T l) := h.lies (B, T, l) (by simp)
theorem Ls.at4 (h : Ls u (a :: b :: c :: d :: (B, T, l) :: L)) : u.heap[B]? = some (bx T l) := h.lies (B, T, l) (by simp)
theorem Ls.at5 (h : Ls u (a :: b :: c :: d :: f :: (B, T, l) :: L)) : u.heap[B]? = some (bx T l) := h.lies (B, T, l) (by simp)
end
theorem Mm.lts {w u : World} {L : List Bk} (h : Mm w u L) : ∀ b ∈ L.map (·.1), b < u.heap.size := fun b hb => by
  obtain ⟨x, hx, rfl⟩ := List.mem_map.1 hb
  exact bx_lt (h.lies x hx)
theorem Mm.callB {w u v : World} {L : List Bk} {B : Nat} (h : Mm w u L) (hlt : ∀ b ∈ L.map (·.1), b < B) (hw : w.heap.size ≤ B) (hb : Below B u v) : Mm w v L :=
  ⟨fun x hx => (hb.block x.1 (hlt x.1 (List.mem_map.2 ⟨x, hx, rfl⟩))).trans (h.lies x hx), h.own, h.ap, h.below.trans (hb.mono hw)⟩
theorem Mm.tail {w u : World} {x : Bk} {L : List Bk} (h : Mm w u (x :: L)) : Mm w u L := ⟨fun y hy => h.lies y (List.mem_cons_of_mem _ hy), fun y hy => h.own y (List.mem_cons_of_mem _ hy), by have := h.ap; rw [List.map_cons, List.nodup_cons] at this; exact this.2, h.below⟩
theorem ret_ctt {fn : Func} {p i j k : Tmp} {t : TypeId} {tmps : Array Value} {w : World} {B : Nat} {v v1 v2 v3 : Value} (h : fn.results = #[.cell p t, .tmp i, .tmp j, .tmp k]) (hp : tmps.getD p undef = .pointer (some ⟨B, 0, none⟩)) (hl : (loadVar t ⟨B, 0, none⟩).run Tryd.prog w = .ok v w)
    (h1 : tmps.getD i undef = v1) (h2 : tmps.getD j undef = v2) (h3 : tmps.getD k undef = v3) : (results fn tmps).run Tryd.prog w = .ok (.tuple #[v, v1, v2, v3]) w := by
  have hp' : tmps[p]?.getD undef = .pointer (some ⟨B, 0, none⟩) := by simpa using hp
  have h1' : tmps[i]?.getD undef = v1 := by simpa using h1
  have h2' : tmps[j]?.getD undef = v2 := by simpa using h2
  have h3' : tmps[k]?.getD undef = v3 := by simpa using h3
  simp [results, h, hp', asAddr, hl, h1', h2', h3']
theorem ret_cct {fn : Func} {p q i : Tmp} {t t' : TypeId} {tmps : Array Value} {w : World} {B C : Nat} {v v' v1 : Value} (h : fn.results = #[.cell p t, .cell q t', .tmp i]) (hp : tmps.getD p undef = .pointer (some ⟨B, 0, none⟩)) (hl : (loadVar t ⟨B, 0, none⟩).run Tryd.prog w = .ok v w)
    (hq : tmps.getD q undef = .pointer (some ⟨C, 0, none⟩)) (hl' : (loadVar t' ⟨C, 0, none⟩).run Tryd.prog w = .ok v' w)
    (h1 : tmps.getD i undef = v1) : (results fn tmps).run Tryd.prog w = .ok (.tuple #[v, v', v1]) w := by
  have hp' : tmps[p]?.getD undef = .pointer (some ⟨B, 0, none⟩) := by simpa using hp
  have hq' : tmps[q]?.getD undef = .pointer (some ⟨C, 0, none⟩) := by simpa using hq
  have h1' : tmps[i]?.getD undef = v1 := by simpa using h1
  simp [results, h, hp', hq', asAddr, hl, hl', h1']
/-- the cells of a wrap, a status, a move, a verdict, a disk -/
def wpl (x : Wp) : List Value := [.int .i64 x.tag, .int .i64 x.len, .bool x.inn, .int .i64 x.unit, .string x.cmd]
def spl (x : Sp) : List Value := [.int .i64 x.tag, .int .i64 x.res, .int .i64 x.code]
def mvl (x : Mv) : List Value := [.int .i64 x.dir, .int .i64 x.len]
def vdl (x : Vd) : List Value := [.int .i64 x.cas, .int .i64 x.moved, .int .i64 x.res, .int .i64 x.code]
def dkl (v : Value) (s : Int) : List Value := [v, .int .i64 s]
abbrev nilS : Value := .slice none 0 0
def mv0 : Mv := ⟨0, 0⟩
theorem row_wrap : Row 31 5 := ⟨⟨_, Tryd.underlying31, rfl, by kernel_rfl⟩⟩
theorem row_status : Row 36 3 := ⟨⟨_, Tryd.underlying36, rfl, by kernel_rfl⟩⟩
theorem row_move : Row 48 2 := ⟨⟨_, Tryd.underlying48, rfl, by kernel_rfl⟩⟩
theorem row_verdict : Row 44 4 := ⟨⟨_, Tryd.underlying44, rfl, by kernel_rfl⟩⟩
theorem row_disk : Row 24 2 := ⟨⟨_, Tryd.underlying24, rfl, by kernel_rfl⟩⟩
theorem zer_wrap : Zer 31 (wpl wp0) := ⟨by kernel_rfl⟩
theorem zer_status : Zer 36 (spl sp0) := ⟨by kernel_rfl⟩
theorem zer_move : Zer 48 (mvl mv0) := ⟨by kernel_rfl⟩
theorem zer_verdict : Zer 44 (vdl vd0) := ⟨by kernel_rfl⟩
theorem zer_disk : Zer 24 (dkl nilS 0) := ⟨by kernel_rfl⟩
theorem wpl_vs (x : Wp) : Vs (wpl x) 5 := ⟨rfl, fun v hv => by simp only [wpl, List.mem_cons, List.not_mem_nil, or_false] at hv; rcases hv with rfl | rfl | rfl | rfl | rfl <;> rfl⟩
theorem spl_vs (x : Sp) : Vs (spl x) 3 := ⟨rfl, fun v hv => by simp only [spl, List.mem_cons, List.not_mem_nil, or_false] at hv; rcases hv with rfl | rfl | rfl <;> rfl⟩
theorem mvl_vs (x : Mv) : Vs (mvl x) 2 := ⟨rfl, fun v hv => by simp only [mvl, List.mem_cons, List.not_mem_nil, or_false] at hv; rcases hv with rfl | rfl <;> rfl⟩
theorem vdl_vs (x : Vd) : Vs (vdl x) 4 := ⟨rfl, fun v hv => by simp only [vdl, List.mem_cons, List.not_mem_nil, or_false] at hv; rcases hv with rfl | rfl | rfl | rfl <;> rfl⟩
theorem dkl_vs {v : Value} (s : Int) (h : v.oneCell' = true) : Vs (dkl v s) 2 := ⟨rfl, fun x hx => by
  simp only [dkl, List.mem_cons, List.not_mem_nil, or_false] at hx
  rcases hx with rfl | rfl
  · exact h
  · rfl⟩
theorem bld_wrap (x : Wp) (w : World) : (Instr.build 31 #[(0, .int .i64 x.tag), (1, .int .i64 x.len), (2, .bool x.inn), (3, .int .i64 x.unit), (4, .string x.cmd)]).run Tryd.prog w = .ok (ag (wpl x)) w := by kernel_rfl
theorem bld_wrap0 (w : World) : (Instr.build 31 #[]).run Tryd.prog w = .ok (ag (wpl wp0)) w := by kernel_rfl
theorem bld_status (x : Sp) (w : World) : (Instr.build 36 #[(0, .int .i64 x.tag), (1, .int .i64 x.res), (2, .int .i64 x.code)]).run Tryd.prog w = .ok (ag (spl x)) w := by kernel_rfl
theorem bld_status0 (w : World) : (Instr.build 36 #[]).run Tryd.prog w = .ok (ag (spl sp0)) w := by kernel_rfl
theorem bld_move (x : Mv) (w : World) : (Instr.build 48 #[(0, .int .i64 x.dir), (1, .int .i64 x.len)]).run Tryd.prog w = .ok (ag (mvl x)) w := by kernel_rfl
theorem bld_move0 (w : World) : (Instr.build 48 #[]).run Tryd.prog w = .ok (ag (mvl mv0)) w := by kernel_rfl
theorem bld_verdict (x : Vd) (w : World) : (Instr.build 44 #[(0, .int .i64 x.cas), (1, .int .i64 x.moved), (2, .int .i64 x.res), (3, .int .i64 x.code)]).run Tryd.prog w = .ok (ag (vdl x)) w := by kernel_rfl
theorem bld_verdict0 (w : World) : (Instr.build 44 #[]).run Tryd.prog w = .ok (ag (vdl vd0)) w := by kernel_rfl
theorem bld_vd2 (c r : Int) (w : World) : (Instr.build 44 #[(0, .int .i64 c), (2, .int .i64 r)]).run Tryd.prog w = .ok (ag (vdl ⟨c, 0, r, 0⟩)) w := by kernel_rfl
theorem txs_one {w : World} {v : Value} {l : List ByteArray} (h : Rts w v l) : v.oneCell' = true := by obtain ⟨a, c, rfl, _⟩ := h; rfl
/-- a box is written: what lies elsewhere stays -/
theorem Rts.chg {w u : World} {v : Value} {l : List ByteArray} {B : Nat} (h : Rts w v l) (hc : Chg B w u) (hB : ∀ a n c, v = .slice (some a) n c → a.block ≠ B) : Rts u v l :=
  scsi.Rts.keptAt h (Nat.le_of_eq hc.size.symm) hB fun k hk _ => hc.other k hk
end Go.Proofs.YtecknicmonhcaabDoor.bulk
