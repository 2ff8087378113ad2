/- budget: boxes and made rows in memory; slices of numbers and of berths that are read. -/
import Derived.Test.YtcenaleladjakabBudF
import Derived.Test.YtcenaleladjakabBudK
import Derived.Laws.MakeOwn
namespace Go.Proofs.Ytcenaleladjakab.budget
open Go Go.RowKit
set_option linter.unusedVariables false
set_option linter.unusedSimpArgs false
set_option maxRecDepth 100000

/-- values of one cell each, n of them -/
structure Vs (l : List Value) (n : Nat) : Prop where
  len : l.length = n
  one : ∀ v ∈ l, v.oneCell' = true
theorem ivs_vs {l : List Int} {n : Nat} (h : l.length = n) : Vs (ivs l) n := ⟨by simp [ivs, h], fun v hv => by obtain ⟨x, _, rfl⟩ := List.mem_map.1 hv; rfl⟩
theorem Vs.app {l r : List Value} {n k : Nat} (h1 : Vs l n) (h2 : Vs r k) : Vs (l ++ r) (n + k) := ⟨by rw [List.length_append, h1.len, h2.len], fun v hv => by rcases List.mem_append.1 hv with q | q; exact h1.one v q; exact h2.one v q⟩
def cv (l : List Value) (k n : Nat) : List Value := (l.drop k).take n
theorem cv_all {l : List Value} {n : Nat} (h : l.length = n) : cv l 0 n = l := by unfold cv; rw [List.drop_zero, List.take_of_length_le (by omega)]
/-- row l from place k on is r -/
def ptv (l : List Value) (k : Nat) (r : List Value) : List Value := l.take k ++ r ++ l.drop (k + r.length)
theorem ptv_all {l r : List Value} (h : r.length = l.length) : ptv l 0 r = r := by unfold ptv; rw [List.take_zero, List.nil_append, List.drop_eq_nil_of_le (by omega), List.append_nil]
theorem bv_range {w : World} {B k n : Nat} {T : TypeId} {l : List Value} (h : w.heap[B]? = some (bv T l)) : w.rangeAt B k (cv l k n) := fun j v hv => by
  unfold cv at hv
  rw [List.getElem?_take] at hv
  split at hv
  · rw [List.getElem?_drop] at hv
    exact bv_cell h hv
  · simp at hv
theorem cv_length {l : List Value} {k n : Nat} (h : k + n ≤ l.length) : (cv l k n).length = n := by simp [cv]; omega
/-- a type of n cells that is loaded whole -/
structure Row (t : TypeId) (n : Nat) : Prop where
  ex : ∃ d, Try.prog.underlying t = some d ∧ d.isRow = true ∧ (Try.prog.info? t).map (·.size) = some n
theorem row_berth : Row 33 2 := ⟨⟨_, Try.underlying33, rfl, by kernel_rfl⟩⟩
theorem run_loadv {w : World} {B k n : Nat} {T t : TypeId} {l : List Value} (hT : Row t n) (h : w.heap[B]? = some (bv T l)) (hle : k + n ≤ l.length) :
    (Instr.loadAt t (.pointer (some ⟨B, k, none⟩))).run Try.prog w = .ok (agv (cv l k n)) w := by
  obtain ⟨d, h1, h2, h3⟩ := hT.ex
  exact run_loadAt_mid w B k t _ d (bv_range (n := n) h) h1 h2 (by rw [h3]; exact congrArg some (cv_length hle).symm)
theorem run_storev {w : World} {B k n : Nat} {T t : TypeId} {l r : List Value} (hT : Row t n) (h : w.heap[B]? = some (bv T l)) (hr : Vs r n) (hle : k + n ≤ l.length) :
    (Instr.storeAt t (.pointer (some ⟨B, k, none⟩)) (agv r)).run Try.prog w = .ok () (w.setRow B (ptv l k r).toArray) := by
  obtain ⟨d, h1, h2, h3⟩ := hT.ex
  have hst := run_storeCells_at Try.prog B k T r 0 l.toArray w h (by have := hr.len; simp; omega) hr.one
  rw [Nat.add_zero] at hst
  cases hq : Try.prog.info? t with
  | none => simp [hq] at h3
  | some i =>
    have hs : r.toArray.size = i.size := by have := hr.len; simp [hq] at h3; simp; omega
    simp only [Instr.storeAt, Instr.sureAddr, Sem.run_bind, Sem.run_pure, Result.andThen_ok]
    have hs' : r.length = i.size := by simpa using hs
    simp [storeVar, sizeOf, typeInfo, hq, agv, Value.cells, hs', hst, ptv]
section
variable {ops : Array Oper} {rest : List Oper} {o : Oper} {a : Act} {w : World} {Q : Exit → Act → World → Prop}
/-- a row is read -/
theorem v_load (hgd : Region.wanted o (yielded ops a.tmps) = true) {t : TypeId} {x : Operand} (ho : o.op = .load t x)
    {B k n : Nat} (hT : Row t n) (hx : a.eval x = .pointer (some ⟨B, k, none⟩)) {T : TypeId} {l r : List Value} (hB : w.heap[B]? = some (bv T l)) (hle : k + n ≤ l.length) (hr : cv l k n = r)
    (h : wpList Try.prog ops Q rest (a.put o.dst (agv r)) w) : wpList Try.prog ops Q (o :: rest) a w := by
  subst hr
  refine wpList_step fun K hK' => ?_
  rw [if_pos hgd]
  unfold Oper.wp execOp
  simp only [ho, hx, Sem.run_bind, run_loadv hT hB hle, Result.andThen_ok, Sem.run_pure]
  exact hK' _ _ h
/-- a row is written -/
theorem v_store (hgd : Region.wanted o (yielded ops a.tmps) = true) {t : TypeId} {x y : Operand} (ho : o.op = .store t x y)
    {B k n : Nat} (hT : Row t n) {T : TypeId} {l r l' : List Value} (hx : a.eval x = .pointer (some ⟨B, k, none⟩)) (hy : a.eval y = agv r) (hB : w.heap[B]? = some (bv T l)) (hr : Vs r n) (hle : k + n ≤ l.length) (hl : ptv l k r = l')
    (h : ∀ u, u.heap[B]? = some (bv T l') → Chg B w u → wpList Try.prog ops Q rest (a.put o.dst undef) u) : wpList Try.prog ops Q (o :: rest) a w := by
  subst hl
  refine wpList_step fun K hK' => ?_
  rw [if_pos hgd]
  unfold Oper.wp execOp
  simp only [ho, hx, hy, Sem.run_bind, run_storev hT hB hr hle, Result.andThen_ok, Sem.run_pure]
  exact hK' _ _ (h _ (setRow_heap w B _ _ T _ hB) (setRow_chg _ hB))
theorem v_fill (hgd : Region.wanted o (yielded ops a.tmps) = true) {t : TypeId} {x y : Operand} (ho : o.op = .store t x y)
    {B n : Nat} (hT : Row t n) {T : TypeId} {l r : List Value} (hx : a.eval x = .pointer (some ⟨B, 0, none⟩)) (hy : a.eval y = agv r) (hB : w.heap[B]? = some (bv T l)) (hr : Vs r n) (hl : l.length = n)
    (h : ∀ u, u.heap[B]? = some (bv T r) → Chg B w u → wpList Try.prog ops Q rest (a.put o.dst undef) u) : wpList Try.prog ops Q (o :: rest) a w :=
  v_store hgd ho hT hx hy hB hr (by omega) (ptv_all (by rw [hr.len, hl])) h
/-- one value is written -/
theorem v_put (hgd : Region.wanted o (yielded ops a.tmps) = true) {t : TypeId} {x y : Operand} (ho : o.op = .store t x y) {v : Value} (ht : (t = 3 ∧ ∃ n, v = .int .i64 n) ∨ (t = 41 ∧ ∃ n, v = .int .u32 n))
    {B j : Nat} {T : TypeId} {l : List Value} (hx : a.eval x = .pointer (some ⟨B, j, none⟩)) (hy : a.eval y = v) (hB : w.heap[B]? = some (bv T l)) (hle : j < l.length)
    (h : ∀ u, u.heap[B]? = some (bv T (l.set j v)) → Chg B w u → wpList Try.prog ops Q rest (a.put o.dst undef) u) : wpList Try.prog ops Q (o :: rest) a w := by
  refine wpList_step fun K hK' => ?_
  rw [if_pos hgd]
  have hc := bv_cell hB (List.getElem?_eq_getElem hle)
  have hf := bv_free hB j
  have hs : (Instr.storeAt t (.pointer (some ⟨B, j, none⟩)) v).run Try.prog w = .ok () (w.setCell ⟨B, j, none⟩ v) := by
    rcases ht with ⟨rfl, n, rfl⟩ | ⟨rfl, n, rfl⟩ <;> simp [go_sem, hc, hf]
  unfold Oper.wp execOp
  simp only [ho, hx, hy, Sem.run_bind, hs, Result.andThen_ok, Sem.run_pure]
  exact hK' _ _ (h _ (set_bv hB).1 (set_bv hB).2)
/-- one value is read -/
theorem v_get (hgd : Region.wanted o (yielded ops a.tmps) = true) {t : TypeId} {x : Operand} (ho : o.op = .load t x) (ht : t = 3 ∨ t = 41 ∨ t = 22)
    {B j : Nat} {T : TypeId} {l : List Value} {v : Value} (hx : a.eval x = .pointer (some ⟨B, j, none⟩)) (hB : w.heap[B]? = some (bv T l)) (hv : l[j]? = some v)
    (h : wpList Try.prog ops Q rest (a.put o.dst v) w) : wpList Try.prog ops Q (o :: rest) a w := by
  refine wpList_step fun K hK' => ?_
  rw [if_pos hgd]
  have hc := bv_cell hB hv
  have hs : (Instr.loadAt t (.pointer (some ⟨B, j, none⟩))).run Try.prog w = .ok v w := by
    rcases ht with rfl | rfl | rfl <;> simp [go_sem, hc]
  unfold Oper.wp execOp
  simp only [ho, hx, Sem.run_bind, hs, Result.andThen_ok, Sem.run_pure]
  exact hK' _ _ h
/-- new memory: a block of one's own -/
structure New (w u : World) (B : Nat) (T : TypeId) (l : List Value) : Prop where
  lies : u.heap[B]? = some (bv T l)
  at' : B = w.heap.size
  size : u.heap.size = w.heap.size + 1
  below : Below w.heap.size w u
theorem New.alloc (w : World) (T : TypeId) (l : List Value) : New w (w.alloc (bv T l)) w.heap.size T l := ⟨(MapKept.heap_alloc w _).1, rfl, Array.size_push _, balloc _ _⟩
/-- a value is boxed -/
theorem v_box (hgd : Region.wanted o (yielded ops a.tmps) = true) {t : TypeId} {x : Operand} (ho : o.op = .box t x)
    {l : List Value} (hx : a.eval x = agv l) (h : ∀ u B, New w u B t l → wpList Try.prog ops Q rest (a.put o.dst (.pointer (some ⟨B, 0, none⟩))) u) : wpList Try.prog ops Q (o :: rest) a w := by
  refine wpList_step fun K hK' => ?_
  rw [if_pos hgd]
  unfold Oper.wp execOp
  simp only [ho, hx]
  simp only [go_sem, agv]
  exact hK' _ _ (h _ _ (New.alloc w t l))
/-- the zero value -/
structure Zer (t : TypeId) (l : List Value) : Prop where
  eq : (Try.prog.info? t).map (·.zero) = some (some (agv l))
theorem v_alloc (hgd : Region.wanted o (yielded ops a.tmps) = true) {t : TypeId} {l : List Value} (hz : Zer t l) (ho : o.op = .alloc t)
    (h : ∀ u B, New w u B t l → wpList Try.prog ops Q rest (a.put o.dst (.pointer (some ⟨B, 0, none⟩))) u) : wpList Try.prog ops Q (o :: rest) a w := by
  refine wpList_step fun K hK' => ?_
  rw [if_pos hgd]
  unfold Oper.wp execOp
  simp only [ho]
  cases hq : Try.prog.info? t with
  | none => have := hz.eq; simp [hq] at this
  | some i =>
    have hz' : i.zero = some (agv l) := by simpa [hq] using hz.eq
    simp [go_sem, zeroValue, typeInfo, hq, hz', agv]
    exact hK' _ _ (h _ _ (New.alloc w t _))
/-- a value is built -/
theorem v_build (hgd : Region.wanted o (yielded ops a.tmps) = true) {t : TypeId} {ps : Array (Nat × Operand)} (ho : o.op = .build t ps)
    {vs : Array (Nat × Value)} {v : Value} (hb : ∀ w, (Instr.build t vs).run Try.prog w = .ok v w) (hv : ps.map (fun q => (q.1, a.eval q.2)) = vs)
    (h : wpList Try.prog ops Q rest (a.put o.dst v) w) : wpList Try.prog ops Q (o :: rest) a w := by
  refine wpList_step fun K hK' => ?_
  rw [if_pos hgd]
  unfold Oper.wp execOp
  simp only [ho, hv, Sem.run_bind, hb, Result.andThen_ok, Sem.run_pure]
  exact hK' _ _ h
/-- a slice of one value is boxed -/
theorem v_boxs (hgd : Region.wanted o (yielded ops a.tmps) = true) {x : Operand} (ho : o.op = .box 22 x)
    {p : Option Addr} {n c : Nat} (hx : a.eval x = .slice p n c) (h : ∀ u B, New w u B 22 [.slice p n c] → wpList Try.prog ops Q rest (a.put o.dst (.pointer (some ⟨B, 0, none⟩))) u) : wpList Try.prog ops Q (o :: rest) a w := by
  refine wpList_step fun K hK' => ?_
  rw [if_pos hgd]
  unfold Oper.wp execOp
  simp only [ho, hx]
  simp only [go_sem]
  exact hK' _ _ (h _ _ (New.alloc w 22 [.slice p n c]))
end
/-- elements of a made row -/
structure El (t e : TypeId) (z : List Value) : Prop where
  u : Try.prog.underlying t = some (.slice e)
  i : ∃ i, Try.prog.info? e = some i ∧ (∃ zv, i.zero = some zv ∧ zv.cells = z.toArray) ∧ i.size = z.length ∧ i.bytes ≤ 100
theorem el_of {t e : TypeId} {z : List Value} {zv : Value} {b : Nat} (hu : Try.prog.underlying t = some (.slice e)) (hi : (Try.prog.info? e).map (fun i => (i.zero, i.size, i.bytes)) = some (some zv, z.length, b)) (hz : zv.cells = z.toArray) (hb : b ≤ 100) : El t e z := by
  refine ⟨hu, ?_⟩
  cases hq : Try.prog.info? e with
  | none => simp [hq] at hi
  | some i => simp [hq] at hi; exact ⟨i, rfl, ⟨zv, hi.1, hz⟩, hi.2.1, by omega⟩
theorem el_ints : El 22 3 [.int .i64 0] := el_of (b := 8) (zv := .int .i64 0) Try.underlying22 (by kernel_rfl) rfl (by omega)
theorem el_berths : El 23 33 [.int .i64 0, .int .i64 0] := el_of (b := 16) (zv := agv [.int .i64 0, .int .i64 0]) Try.underlying23 (by kernel_rfl) rfl (by omega)
theorem made_list (z : List Value) (n : Nat) (hz : ∀ v ∈ z, v = .int .i64 0) : (madeCells z.toArray (n * z.length)).toList = List.replicate (n * z.length) (.int .i64 0) := by
  apply List.ext_getElem?
  intro j
  by_cases hj : j < n * z.length
  · have hl : 0 < z.length := by
      rcases Nat.eq_zero_or_pos z.length with q | q
      · rw [q] at hj; omega
      · exact q
    have hm := Nat.mod_lt j hl
    have : z[j % z.length] = .int .i64 0 := hz _ (List.getElem_mem hm)
    rw [List.getElem?_replicate, if_pos hj]
    simp [madeCells, hj, hm, this]
  · rw [List.getElem?_replicate, if_neg hj]
    simp [madeCells]
    omega
theorem run_make_ints {w : World} {t e : TypeId} {z : List Value} {n : Nat} (hE : El t e z) (hz : ∀ v ∈ z, v = .int .i64 0) (hn : n ≤ 1000) :
    (Instr.makeSlice t (.int .i64 (n : Int)) (.int .i64 (n : Int))).run Try.prog w = .ok (.slice (some ⟨w.heap.size, 0, none⟩) n n) (w.alloc (bv e (List.replicate (n * z.length) (.int .i64 0)))) := by
  obtain ⟨i, h1, ⟨zv, h2, h3⟩, h4, h5⟩ := hE.i
  have hb : i.bytes * n ≤ 100 * 1000 := Nat.mul_le_mul h5 hn
  have hb2 : (i.bytes : Int) * (n : Int) ≤ 281474976710656 := by
    have : ((i.bytes * n : Nat) : Int) = (i.bytes : Int) * (n : Int) := by simp
    omega
  have := run_make (P := Try.prog) w t e i zv hE.u h1 h2 .i64 .i64 (n : Int) (n : Int) (by omega) (by omega) hb2 (by omega)
  rw [this]
  simp only [Int.toNat_natCast]
  congr 2
  unfold bv
  rw [h4, h3, ← made_list z n hz]
theorem v_make {ops : Array Oper} {rest : List Oper} {o : Oper} {a : Act} {w : World} {Q : Exit → Act → World → Prop} (hgd : Region.wanted o (yielded ops a.tmps) = true) {t e : TypeId} {z : List Value} (hE : El t e z) (hz : ∀ v ∈ z, v = .int .i64 0) {x y : Operand} (ho : o.op = .makeSlice t x y) {n : Nat} (hx : a.eval x = .int .i64 (n : Int)) (hy : a.eval y = .int .i64 (n : Int)) (hn : n ≤ 1000)
    (h : ∀ u B, New w u B e (List.replicate (n * z.length) (.int .i64 0)) → wpList Try.prog ops Q rest (a.put o.dst (.slice (some ⟨B, 0, none⟩) n n)) u) : wpList Try.prog ops Q (o :: rest) a w := by
  refine wpList_step fun K hK' => ?_
  rw [if_pos hgd]
  unfold Oper.wp execOp
  simp only [ho, hx, hy, Sem.run_bind, run_make_ints hE hz hn, Result.andThen_ok, Sem.run_pure]
  exact hK' _ _ (h _ _ (New.alloc w e _))
abbrev Bk := Nat × TypeId × List Value
/-- the boxes of a call, and what was there ahead of it -/
structure Mm (w u : World) (L : List Bk) : Prop where
  lies : ∀ x ∈ L, u.heap[x.1]? = some (bv x.2.1 x.2.2)
  own : ∀ x ∈ L, w.heap.size ≤ x.1
  ap : (L.map (·.1)).Nodup
  below : Below w.heap.size w u
theorem Mm.nil (w : World) : Mm w w [] := ⟨fun x h => absurd h (by simp), fun x h => absurd h (by simp), List.nodup_nil, Below.refl _ _⟩
section
variable {w u v : World} {L : List Bk} {B : Nat} {T : TypeId} {l l' : List Value}
theorem Mm.new (h : Mm w u L) (n : New u v B T l) : Mm w v ((B, T, l) :: L) where
  lies := fun x hx => by
    rcases List.mem_cons.1 hx with rfl | q
    · exact n.lies
    · exact keep (h.lies x q) n.below
  own := fun x hx => by
    rcases List.mem_cons.1 hx with rfl | q
    · show w.heap.size ≤ B; rw [n.at']; exact h.below.size
    · exact h.own x q
  ap := by
    rw [List.map_cons, List.nodup_cons]
    refine ⟨fun q => ?_, h.ap⟩
    obtain ⟨y, hy, e⟩ := List.mem_map.1 q
    have h1 := bx_lt (h.lies y hy)
    have h2 : y.1 = u.heap.size := e.trans n.at'
    omega
  below := bsq h.below n.below
/-- a callee's own row -/
theorem Mm.tel (h : Mm w u L) (hb : Below u.heap.size u v) (hB : u.heap.size ≤ B) (hl : v.heap[B]? = some (bv T l)) : Mm w v ((B, T, l) :: L) where
  lies := fun x hx => by
    rcases List.mem_cons.1 hx with rfl | q
    · exact hl
    · exact keep (h.lies x q) hb
  own := fun x hx => by
    rcases List.mem_cons.1 hx with rfl | q
    · exact Nat.le_trans h.below.size hB
    · exact h.own x q
  ap := by
    rw [List.map_cons, List.nodup_cons]
    refine ⟨fun q => ?_, h.ap⟩
    obtain ⟨y, hy, e⟩ := List.mem_map.1 q
    have h1 := bx_lt (h.lies y hy)
    have h2 : y.1 = B := e
    omega
  below := bsq h.below hb
theorem Mm.call (h : Mm w u L) (hb : Below u.heap.size u v) : Mm w v L := ⟨fun x hx => keep (h.lies x hx) hb, h.own, h.ap, bsq h.below hb⟩
theorem Mm.sub {M : List Bk} (h : Mm w u L) (hs : M.Sublist L) : Mm w u M := ⟨fun x hx => h.lies x (hs.subset hx), fun x hx => h.own x (hs.subset hx), h.ap.sublist (hs.map _), h.below⟩
theorem Mm.put {pre post : List Bk} (h : Mm w u (pre ++ (B, T, l) :: post)) (hc : Chg B u v) (hl : v.heap[B]? = some (bv T l')) : Mm w v (pre ++ (B, T, l') :: post) := by
  have hap := h.ap
  rw [List.map_append, List.map_cons, List.nodup_append] at hap
  obtain ⟨hp, hq, hpq⟩ := hap
  rw [List.nodup_cons] at hq
  refine ⟨fun x hx => ?_, fun x hx => ?_, ?_, hc.below _ _ (h.own (B, T, l) (by simp)) h.below⟩
  · rcases List.mem_append.1 hx with q | q
    · rw [hc.other x.1 (fun e => hpq x.1 (List.mem_map.2 ⟨x, q, rfl⟩) B (by simp) e)]
      exact h.lies x (List.mem_append.2 (.inl q))
    · rcases List.mem_cons.1 q with rfl | q
      · exact hl
      · rw [hc.other x.1 (fun e => hq.1 (List.mem_map.2 ⟨x, q, e⟩))]
        exact h.lies x (List.mem_append.2 (.inr (List.mem_cons_of_mem _ q)))
  · rcases List.mem_append.1 hx with q | q
    · exact h.own x (List.mem_append.2 (.inl q))
    · rcases List.mem_cons.1 q with rfl | q
      · exact h.own (B, T, l) (by simp)
      · exact h.own x (List.mem_append.2 (.inr (List.mem_cons_of_mem _ q)))
  · have := h.ap
    rw [List.map_append, List.map_cons] at this ⊢
    exact this
variable {a b c d f g : Bk}
theorem Mm.at0 (h : Mm w u ((B, T, l) :: L)) : u.heap[B]? = some (bv T l) := h.lies (B, T, l) (by simp)
theorem Mm.at1 (h : Mm w u (a :: (B, T, l) :: L)) : u.heap[B]? = some (bv T l) := h.lies (B, T, l) (by simp)
theorem Mm.at2 (h : Mm w u (a :: b :: (B, T, l) :: L)) : u.heap[B]? = some (bv T l) := h.lies (B, T, l) (by simp)
theorem Mm.at3 (h : Mm w u (a :: b :: c :: (B, T, l) :: L)) : u.heap[B]? = some (bv T l) := h.lies (B, T, l) (by simp)
theorem Mm.at4 (h : Mm w u (a :: b :: c :: d :: (B, T, l) :: L)) : u.heap[B]? = some (bv T l) := h.lies (B, T, l) (by simp)
theorem Mm.put0 (h : Mm w u ((B, T, l) :: L)) (hc : Chg B u v) (hl : v.heap[B]? = some (bv T l')) : Mm w v ((B, T, l') :: L) := Mm.put (pre := []) h hc hl
theorem Mm.put1 (h : Mm w u (a :: (B, T, l) :: L)) (hc : Chg B u v) (hl : v.heap[B]? = some (bv T l')) : Mm w v (a :: (B, T, l') :: L) := Mm.put (pre := [a]) h hc hl
theorem Mm.put2 (h : Mm w u (a :: b :: (B, T, l) :: L)) (hc : Chg B u v) (hl : v.heap[B]? = some (bv T l')) : Mm w v (a :: b :: (B, T, l') :: L) := Mm.put (pre := [a, b]) h hc hl
theorem Mm.put3 (h : Mm w u (a :: b :: c :: (B, T, l) :: L)) (hc : Chg B u v) (hl : v.heap[B]? = some (bv T l')) : Mm w v (a :: b :: c :: (B, T, l') :: L) := Mm.put (pre := [a, b, c]) h hc hl
theorem Mm.put4 (h : Mm w u (a :: b :: c :: d :: (B, T, l) :: L)) (hc : Chg B u v) (hl : v.heap[B]? = some (bv T l')) : Mm w v (a :: b :: c :: d :: (B, T, l') :: L) := Mm.put (pre := [a, b, c, d]) h hc hl
theorem Mm.drew (h : Mm w u L) : Mm w u.drew L := ⟨h.lies, h.own, h.ap, h.below.drew⟩
end
theorem ld_var {w : World} {B n : Nat} {T t : TypeId} {l : List Value} (hT : Row t n) (h : w.heap[B]? = some (bv T l)) (hl : l.length = n) : (loadVar t ⟨B, 0, none⟩).run Try.prog w = .ok (agv l) w := by
  have := run_loadv (k := 0) hT h (by omega)
  rw [cv_all hl] at this
  simpa only [Instr.loadAt, Instr.sureAddr, Sem.run_bind, Sem.run_pure, Result.andThen_ok] using this
theorem ret_1 {fn : Func} {p : Tmp} {t : TypeId} {tmps : Array Value} {w : World} {B : Nat} {v : Value} (h : fn.results = #[.cell p t]) (hp : tmps.getD p undef = .pointer (some ⟨B, 0, none⟩)) (hl : (loadVar t ⟨B, 0, none⟩).run Try.prog w = .ok v w) :
    (results fn tmps).run Try.prog w = .ok v w := by
  have hp' : tmps[p]?.getD undef = .pointer (some ⟨B, 0, none⟩) := by simpa using hp
  simp [results, h, hp', asAddr, hl]
theorem ret_2 {fn : Func} {p i : Tmp} {t : TypeId} {tmps : Array Value} {w : World} {B : Nat} {v v1 : Value} (h : fn.results = #[.cell p t, .tmp i]) (hp : tmps.getD p undef = .pointer (some ⟨B, 0, none⟩)) (hl : (loadVar t ⟨B, 0, none⟩).run Try.prog w = .ok v w)
    (h1 : tmps.getD i undef = v1) : (results fn tmps).run Try.prog w = .ok (.tuple #[v, v1]) w := by
  have hp' : tmps[p]?.getD undef = .pointer (some ⟨B, 0, none⟩) := by simpa using hp
  have h1' : tmps[i]?.getD undef = v1 := by simpa using h1
  simp [results, h, hp', asAddr, hl, h1']
/-- a slice that reads as these numbers -/
def Ris (w : World) (v : Value) (l : List Int) : Prop :=
  ∃ a c, v = .slice a l.length c ∧ l.length ≤ c ∧ c ≤ maxLen ∧ (0 < l.length → ∃ g off, a = some ⟨g, off, none⟩ ∧ g < w.heap.size ∧ ∀ j x, l[j]? = some x → w.cell? ⟨g, off + j, none⟩ = some (.int .i64 x))
theorem Ris.below {w u : World} {v : Value} {l : List Int} (h : Ris w v l) (hb : Below w.heap.size w u) : Ris u v l := by
  obtain ⟨a, c, hv, h1, h2, h4⟩ := h
  refine ⟨a, c, hv, h1, h2, fun hn => ?_⟩
  obtain ⟨g, off, ha, hg, hc⟩ := h4 hn
  exact ⟨g, off, ha, Nat.lt_of_lt_of_le hg hb.size, fun j x hx => (hb.cell (p := ⟨g, off + j, none⟩) hg).trans (hc j x hx)⟩
theorem Ris.form {w : World} {v : Value} {l : List Int} (h : Ris w v l) : ∃ a c, v = .slice a l.length c ∧ l.length ≤ c ∧ c ≤ maxLen := by
  obtain ⟨a, c, h, h1, h2, _⟩ := h; exact ⟨_, _, h, h1, h2⟩
theorem Ris.at {w : World} {a : Option Addr} {n c : Nat} {l : List Int} (h : Ris w (.slice a n c) l) (k : Nat) (x : Int) (hk : l[k]? = some x) : ∃ g off, a = some ⟨g, off, none⟩ ∧ w.cell? ⟨g, off + k, none⟩ = some (.int .i64 x) := by
  obtain ⟨a', c', hv, h1, h2, h4⟩ := h
  have hl := (List.getElem?_eq_some_iff.1 hk).1
  obtain ⟨g, off, ha, hg, hc⟩ := h4 (by omega)
  have : a = a' := by injection hv
  exact ⟨g, off, this.trans ha, hc k x hk⟩
/-- berths' cells -/
abbrev Bi := Int × Int
def bfl (T : List Bi) : List Int := T.flatMap fun b => [b.1, b.2]
theorem bfl_len (T : List Bi) : (bfl T).length = T.length * 2 := by
  induction T with
  | nil => rfl
  | cons b T ih => simp [bfl] at ih ⊢; omega
theorem bfl_at {T : List Bi} {j : Nat} {b : Bi} (h : T[j]? = some b) : (bfl T)[j * 2]? = some b.1 ∧ (bfl T)[j * 2 + 1]? = some b.2 := by
  induction T generalizing j with
  | nil => simp at h
  | cons x T ih =>
    have e : bfl (x :: T) = x.1 :: x.2 :: bfl T := rfl
    rw [e]
    cases j with
    | zero => simp at h; subst h; exact ⟨rfl, rfl⟩
    | succ j =>
      have := ih (j := j) (by simpa using h)
      rw [show (j + 1) * 2 = j * 2 + 1 + 1 by omega, show j * 2 + 1 + 1 + 1 = (j * 2 + 1) + 1 + 1 by omega]
      simpa using this
/-- a slice that reads as these berths -/
def Rbs (w : World) (v : Value) (T : List Bi) : Prop :=
  ∃ a c, v = .slice a T.length c ∧ T.length ≤ c ∧ c ≤ maxLen ∧ (0 < T.length → ∃ g off, a = some ⟨g, off, none⟩ ∧ g < w.heap.size ∧ ∀ j x, (bfl T)[j]? = some x → w.cell? ⟨g, off + j, none⟩ = some (.int .i64 x))
theorem Rbs.below {w u : World} {v : Value} {T : List Bi} (h : Rbs w v T) (hb : Below w.heap.size w u) : Rbs u v T := by
  obtain ⟨a, c, hv, h1, h2, h4⟩ := h
  refine ⟨a, c, hv, h1, h2, fun hn => ?_⟩
  obtain ⟨g, off, ha, hg, hc⟩ := h4 hn
  exact ⟨g, off, ha, Nat.lt_of_lt_of_le hg hb.size, fun j x hx => (hb.cell (p := ⟨g, off + j, none⟩) hg).trans (hc j x hx)⟩
theorem Rbs.form {w : World} {v : Value} {T : List Bi} (h : Rbs w v T) : ∃ a c, v = .slice a T.length c ∧ T.length ≤ c ∧ c ≤ maxLen := by
  obtain ⟨a, c, h, h1, h2, _⟩ := h; exact ⟨_, _, h, h1, h2⟩
theorem Rbs.at {w : World} {a : Option Addr} {n c : Nat} {T : List Bi} (h : Rbs w (.slice a n c) T) (k : Nat) (b : Bi) (hk : T[k]? = some b) : ∃ g off, a = some ⟨g, off, none⟩ ∧ w.cell? ⟨g, off + k * 2, none⟩ = some (.int .i64 b.1) ∧ w.cell? ⟨g, off + k * 2 + 1, none⟩ = some (.int .i64 b.2) := by
  obtain ⟨a', c', hv, h1, h2, h4⟩ := h
  have hl := (List.getElem?_eq_some_iff.1 hk).1
  obtain ⟨g, off, ha, hg, hc⟩ := h4 (by omega)
  have : a = a' := by injection hv
  have hb := bfl_at hk
  exact ⟨g, off, this.trans ha, hc _ _ hb.1, by rw [Nat.add_assoc]; exact hc _ _ hb.2⟩
theorem rbs_of {w : World} {g : Nat} {T : List Bi} (h : w.heap[g]? = some (bv 33 (ivs (bfl T)))) (hm : T.length ≤ maxLen) : Rbs w (.slice (some ⟨g, 0, none⟩) T.length T.length) T :=
  ⟨_, _, rfl, Nat.le_refl _, hm, fun _ => ⟨g, 0, rfl, bx_lt h, fun j x hx => by rw [Nat.zero_add]; exact bv_cell h (ivs_at hx)⟩⟩
theorem ris_of {w : World} {g : Nat} {l : List Int} (h : w.heap[g]? = some (bv 3 (ivs l))) (hm : l.length ≤ maxLen) : Ris w (.slice (some ⟨g, 0, none⟩) l.length l.length) l :=
  ⟨_, _, rfl, Nat.le_refl _, hm, fun _ => ⟨g, 0, rfl, bx_lt h, fun j x hx => by rw [Nat.zero_add]; exact bv_cell h (ivs_at hx)⟩⟩
end Go.Proofs.Ytcenaleladjakab.budget
