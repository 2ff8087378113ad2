/- hub: rows of numbers in memory: hubs, ports. -/
import Derived.Test.YtdnmjeiljpdmcaaRows
import Derived.Test.YtdnmjeiljpdmcaaHubM
import Derived.WalkKit
import Derived.Handy
import Derived.Below
import Derived.OneCell
import Derived.WalkSmall
import Derived.RegionTactic
import Derived.Deep.Cut
import Derived.Deep.CutRange
import Derived.Deep.MidRow
import Derived.MapKept
namespace Go.Proofs.Ytdnmjeiljpdmcaa.hub
open Go.RowKit
open Go.Proofs.Ytdnmjeiljpdmcaa.slots (cl cl_at cl_set cl_ext allF allF_step allF_end allF_iff anyF)
set_option linter.unusedVariables false
set_option linter.unusedSimpArgs false
set_option maxRecDepth 100000

theorem bsq {w w1 w2 : World} (h1 : Below w.heap.size w w1) (h2 : Below w1.heap.size w1 w2) : Below w.heap.size w w2 := h1.trans (h2.mono h1.size)
theorem balloc (w : World) (o : Obj) : Below w.heap.size w (w.alloc o) := (Below.refl _ _).alloc (Nat.le_refl _) _
theorem keep {w u : World} {X : Nat} {o : Obj} (h : w.heap[X]? = some o) (hb : Below w.heap.size w u) : u.heap[X]? = some o := (hb.block X (Array.getElem?_eq_some_iff.1 h).1).trans h
/-- numbers as cells -/
def ics (l : List Int) : Array Value := (l.map (Value.int .i64)).toArray
/-- numbers as one value -/
def ag (l : List Int) : Value := .agg (ics l)
/-- numbers as a block -/
def bx (T : TypeId) (l : List Int) : Obj := .cells (ics l) T (0, 0)
theorem ics_size (l : List Int) : (ics l).size = l.length := by simp [ics]
theorem ics_at (l : List Int) (j : Nat) : (ics l)[j]? = (l[j]?).map (Value.int .i64) := by simp [ics]
theorem ics_one (l : List Int) : (ics l).all (·.oneCell') = true := by
  refine all_oneCell_toArray fun v hv => ?_
  obtain ⟨x, _, rfl⟩ := List.mem_map.1 hv
  rfl
theorem bx_cell {w : World} {B j : Nat} {T : TypeId} {l : List Int} {x : Int} (h : w.heap[B]? = some (bx T l)) (hx : l[j]? = some x) : w.cell? ⟨B, j, none⟩ = some (.int .i64 x) := by
  rw [cell_of_row w B j _ _ (0, 0) h, ics_at, hx]; rfl
theorem bx_free {w : World} {B : Nat} {T : TypeId} {l : List Int} (h : w.heap[B]? = some (bx T l)) (j : Nat) : w.frozen? ⟨B, j, none⟩ = false := frozen_of_row w B j _ _ h
theorem bx_lt {w : World} {B : Nat} {o : Obj} (h : w.heap[B]? = some o) : B < w.heap.size := (Array.getElem?_eq_some_iff.1 h).1
theorem bx_range {w : World} {B k n : Nat} {T : TypeId} {l : List Int} (h : w.heap[B]? = some (bx T l)) : w.rangeAt B k (((l.drop k).take n).map (Value.int .i64)) := fun j v hv => by
  rw [List.getElem?_map, List.getElem?_take] at hv
  split at hv
  · rw [List.getElem?_drop] at hv
    cases hq : l[k + j]? with
    | none => rw [hq] at hv; simp at hv
    | some x => rw [hq] at hv; simp at hv; subst hv; exact bx_cell h hq
  · simp at hv
theorem bx_there {w : World} {B k n : Nat} {T : TypeId} {l : List Int} (h : w.heap[B]? = some (bx T l)) (hle : k + n ≤ l.length) : w.there B k n := fun j hj => by
  obtain ⟨x, hx⟩ : ∃ x, l[k + j]? = some x := ⟨_, List.getElem?_eq_getElem (by omega)⟩
  exact ⟨by rw [bx_cell h hx]; rfl, bx_free h _⟩
/-- a type of n cells that is loaded whole -/
structure Row (t : TypeId) (n : Nat) : Prop where
  ex : ∃ d, Try.prog.underlying t = some d ∧ d.isRow = true ∧ (Try.prog.info? t).map (·.size) = some n
theorem row_hub : Row 26 33 := ⟨⟨_, Try.underlying26, rfl, by kernel_rfl⟩⟩
theorem row_port : Row 23 2 := ⟨⟨_, Try.underlying23, rfl, by kernel_rfl⟩⟩
theorem row_ports : Row 24 32 := ⟨⟨_, Try.underlying24, rfl, by kernel_rfl⟩⟩
/-- part of a row -/
def cut (l : List Int) (k n : Nat) : List Int := (l.drop k).take n
theorem cut_length {l : List Int} {k n : Nat} (h : k + n ≤ l.length) : (cut l k n).length = n := by simp [cut]; omega
theorem cut_all {l : List Int} {n : Nat} (h : l.length = n) : cut l 0 n = l := by unfold cut; rw [List.drop_zero, List.take_of_length_le (by omega)]
theorem run_load {w : World} {B k n : Nat} {T t : TypeId} {l : List Int} (hT : Row t n) (h : w.heap[B]? = some (bx T l)) (hle : k + n ≤ l.length) :
    (Instr.loadAt t (.pointer (some ⟨B, k, none⟩))).run Try.prog w = .ok (ag (cut l k n)) w := by
  obtain ⟨d, h1, h2, h3⟩ := hT.ex
  exact run_loadAt_mid w B k t _ d (bx_range (n := n) h) h1 h2 (by rw [h3, List.length_map]; exact congrArg some (cut_length hle).symm)
/-- a row is read, guarded or not -/
theorem a_load {ops : Array Oper} {rest : List Oper} {o : Oper} {a : Act} {w : World} {Q : Exit → Act → World → Prop} (hgd : Region.wanted o (yielded ops a.tmps) = true) {t : TypeId} {x : Operand} (ho : o.op = .load t x)
    {B k n : Nat} (hT : Row t n) (hx : a.eval x = .pointer (some ⟨B, k, none⟩)) {T : TypeId} {l r : List Int} (hB : w.heap[B]? = some (bx T l)) (hle : k + n ≤ l.length) (hr : cut l k n = r)
    (h : wpList Try.prog ops Q rest (a.put o.dst (ag r)) w) : wpList Try.prog ops Q (o :: rest) a w := by
  subst hr
  refine wpList_step fun K hK' => ?_
  rw [if_pos hgd]
  unfold Oper.wp execOp
  simp only [ho, hx, Sem.run_bind, run_load hT hB hle, Result.andThen_ok, Sem.run_pure]
  exact hK' _ _ h
/-- row l from place k on is r -/
def putL (l : List Int) (k : Nat) (r : List Int) : List Int := l.take k ++ r ++ l.drop (k + r.length)
theorem putL_all {l r : List Int} (h : r.length = l.length) : putL l 0 r = r := by unfold putL; rw [List.take_zero, List.nil_append, List.drop_eq_nil_of_le (by omega), List.append_nil]
/-- all but the block B is as it was -/
structure Chg (B : Nat) (w u : World) : Prop where
  size : u.heap.size = w.heap.size
  other : ∀ X, X ≠ B → u.heap[X]? = w.heap[X]?
  below : ∀ (b : Nat) (w0 : World), b ≤ B → Below b w0 w → Below b w0 u
theorem Chg.setRow {w : World} {B : Nat} {T : TypeId} {l : List Int} (cs : Array Value) (h : w.heap[B]? = some (bx T l)) : Chg B w (w.setRow B cs) where
  size := by simp
  other := fun X hX => setRow_other w B X cs hX
  below := fun b w0 hb h => ⟨h.os, h.tape, h.output, by simp; exact h.size, fun X hX => (setRow_other w B X cs (by omega)).trans (h.block X hX)⟩
theorem ics_put (l : List Int) (k : Nat) (r : List Int) : ((ics l).toList.take k ++ r.map (Value.int .i64) ++ (ics l).toList.drop (k + (r.map (Value.int .i64)).length)).toArray = ics (putL l k r) := by
  simp [ics, putL, List.map_take, List.map_drop]
theorem run_store_row {w : World} {B k n : Nat} {T t : TypeId} {l r : List Int} (hT : Row t n) (h : w.heap[B]? = some (bx T l)) (hr : r.length = n) (hle : k + n ≤ l.length) :
    (Instr.storeAt t (.pointer (some ⟨B, k, none⟩)) (ag r)).run Try.prog w = .ok () (w.setRow B (ics (putL l k r))) := by
  obtain ⟨d, h1, h2, h3⟩ := hT.ex
  have hst := run_storeCells_at Try.prog B k T (r.map (Value.int .i64)) 0 (ics l) w h (by rw [ics_size, List.length_map]; omega) (fun v hv => by obtain ⟨x, _, rfl⟩ := List.mem_map.1 hv; rfl)
  rw [Nat.add_zero, ics_put] at hst
  cases hq : Try.prog.info? t with
  | none => simp [hq] at h3
  | some i =>
    have hs : (ics r).size = i.size := by simp [hq] at h3; rw [ics_size]; omega
    have hl : (ics r).toList = r.map (Value.int .i64) := by simp [ics]
    simp only [Instr.storeAt, Instr.sureAddr, Sem.run_bind, Sem.run_pure, Result.andThen_ok]
    simp [storeVar, sizeOf, typeInfo, hq, ag, Value.cells, hs, hl, hst]
/-- a row is written -/
theorem a_store {ops : Array Oper} {rest : List Oper} {o : Oper} {a : Act} {w : World} {Q : Exit → Act → World → Prop} (hgd : Region.wanted o (yielded ops a.tmps) = true) {t : TypeId} {x y : Operand} (ho : o.op = .store t x y)
    {B k n : Nat} (hT : Row t n) {T : TypeId} {l r l' : List Int} (hx : a.eval x = .pointer (some ⟨B, k, none⟩)) (hy : a.eval y = ag r) (hB : w.heap[B]? = some (bx T l)) (hr : r.length = n) (hle : k + n ≤ l.length) (hl : putL l k r = l')
    (h : ∀ u, u.heap[B]? = some (bx T l') → Chg B w u → wpList Try.prog ops Q rest (a.put o.dst undef) u) : wpList Try.prog ops Q (o :: rest) a w := by
  subst hl
  refine wpList_step fun K hK' => ?_
  rw [if_pos hgd]
  unfold Oper.wp execOp
  simp only [ho, hx, hy, Sem.run_bind, run_store_row hT hB hr hle, Result.andThen_ok, Sem.run_pure]
  exact hK' _ _ (h _ (setRow_heap w B _ _ T _ hB) (Chg.setRow _ hB))
/-- a row is written over a whole block -/
theorem a_fill {ops : Array Oper} {rest : List Oper} {o : Oper} {a : Act} {w : World} {Q : Exit → Act → World → Prop} (hgd : Region.wanted o (yielded ops a.tmps) = true) {t : TypeId} {x y : Operand} (ho : o.op = .store t x y)
    {B n : Nat} (hT : Row t n) {T : TypeId} {l r : List Int} (hx : a.eval x = .pointer (some ⟨B, 0, none⟩)) (hy : a.eval y = ag r) (hB : w.heap[B]? = some (bx T l)) (hr : r.length = n) (hl : l.length = n)
    (h : ∀ u, u.heap[B]? = some (bx T r) → Chg B w u → wpList Try.prog ops Q rest (a.put o.dst undef) u) : wpList Try.prog ops Q (o :: rest) a w :=
  a_store hgd ho hT hx hy hB hr (by omega) (putL_all (by omega)) h
theorem ics_set (l : List Int) (j : Nat) (x : Int) : (ics l).setIfInBounds j (.int .i64 x) = ics (l.set j x) := by
  simp [ics, List.map_set]
theorem set_bx {w : World} {B j : Nat} {T : TypeId} {l : List Int} {x : Int} (h : w.heap[B]? = some (bx T l)) : (w.setCell ⟨B, j, none⟩ (.int .i64 x)).heap[B]? = some (bx T (l.set j x)) ∧ Chg B w (w.setCell ⟨B, j, none⟩ (.int .i64 x)) := by
  rw [setCell_eq_setRow w B j _ T (0, 0) _ h, ics_set]
  exact ⟨setRow_heap w B _ _ T _ h, Chg.setRow _ h⟩
/-- a number is written -/
theorem a_put {ops : Array Oper} {rest : List Oper} {o : Oper} {a : Act} {w : World} {Q : Exit → Act → World → Prop} (hgd : Region.wanted o (yielded ops a.tmps) = true) {x y : Operand} (ho : o.op = .store 3 x y)
    {B j : Nat} {T : TypeId} {l : List Int} {v : Int} (hx : a.eval x = .pointer (some ⟨B, j, none⟩)) (hy : a.eval y = .int .i64 v) (hB : w.heap[B]? = some (bx T l)) (hle : j < l.length)
    (h : ∀ u, u.heap[B]? = some (bx T (l.set j v)) → Chg B w u → wpList Try.prog ops Q rest (a.put o.dst undef) u) : wpList Try.prog ops Q (o :: rest) a w := by
  refine wpList_step fun K hK' => ?_
  rw [if_pos hgd]
  have hc := bx_cell hB (List.getElem?_eq_getElem hle)
  have hf := bx_free hB j
  have hs : (Instr.storeAt 3 (.pointer (some ⟨B, j, none⟩)) (.int .i64 v)).run Try.prog w = .ok () (w.setCell ⟨B, j, none⟩ (.int .i64 v)) := by
    simp [go_sem, hc, hf]
  unfold Oper.wp execOp
  simp only [ho, hx, hy, Sem.run_bind, hs, Result.andThen_ok, Sem.run_pure]
  exact hK' _ _ (h _ (set_bx hB).1 (set_bx hB).2)
/-- a number is read -/
theorem a_get {ops : Array Oper} {rest : List Oper} {o : Oper} {a : Act} {w : World} {Q : Exit → Act → World → Prop} (hgd : Region.wanted o (yielded ops a.tmps) = true) {x : Operand} (ho : o.op = .load 3 x)
    {B j : Nat} {T : TypeId} {l : List Int} {v : Int} (hx : a.eval x = .pointer (some ⟨B, j, none⟩)) (hB : w.heap[B]? = some (bx T l)) (hv : l[j]? = some v)
    (h : wpList Try.prog ops Q rest (a.put o.dst (.int .i64 v)) w) : wpList Try.prog ops Q (o :: rest) a w := by
  refine wpList_step fun K hK' => ?_
  rw [if_pos hgd]
  have hc := bx_cell hB hv
  have hs : (Instr.loadAt 3 (.pointer (some ⟨B, j, none⟩))).run Try.prog w = .ok (.int .i64 v) w := by
    simp [go_sem, hc]
  unfold Oper.wp execOp
  simp only [ho, hx, Sem.run_bind, hs, Result.andThen_ok, Sem.run_pure]
  exact hK' _ _ h
/-- new memory: a block of one's own -/
structure New (w u : World) (B : Nat) (T : TypeId) (l : List Int) : Prop where
  lies : u.heap[B]? = some (bx T l)
  at' : B = w.heap.size
  size : u.heap.size = w.heap.size + 1
  below : Below w.heap.size w u
theorem New.alloc (w : World) (T : TypeId) (l : List Int) : New w (w.alloc (bx T l)) w.heap.size T l := ⟨(MapKept.heap_alloc w _).1, rfl, Array.size_push _, balloc _ _⟩
/-- a value is boxed -/
theorem a_box {ops : Array Oper} {rest : List Oper} {o : Oper} {a : Act} {w : World} {Q : Exit → Act → World → Prop} (hgd : Region.wanted o (yielded ops a.tmps) = true) {t : TypeId} {x : Operand} (ho : o.op = .box t x)
    {l : List Int} (hx : a.eval x = ag l) (h : ∀ u B, New w u B t l → wpList Try.prog ops Q rest (a.put o.dst (.pointer (some ⟨B, 0, none⟩))) u) : wpList Try.prog ops Q (o :: rest) a w := by
  refine wpList_step fun K hK' => ?_
  rw [if_pos hgd]
  unfold Oper.wp execOp
  simp only [ho, hx]
  simp only [go_sem, ag]
  exact hK' _ _ (h _ _ (New.alloc w t l))
/-- the zero value of n cells -/
structure Zer (t : TypeId) (n : Nat) : Prop where
  eq : (Try.prog.info? t).map (fun i => (i.zero, i.size)) = some (some (ag (List.replicate n 0)), n)
theorem zer_hub : Zer 26 33 := ⟨by kernel_rfl⟩
theorem zer_port : Zer 23 2 := ⟨by kernel_rfl⟩
theorem a_alloc {ops : Array Oper} {rest : List Oper} {o : Oper} {a : Act} {w : World} {Q : Exit → Act → World → Prop} (hgd : Region.wanted o (yielded ops a.tmps) = true) {t : TypeId} {n : Nat} (hz : Zer t n) (ho : o.op = .alloc t)
    (h : ∀ u B, New w u B t (List.replicate n 0) → wpList Try.prog ops Q rest (a.put o.dst (.pointer (some ⟨B, 0, none⟩))) u) : wpList Try.prog ops Q (o :: rest) a w := by
  refine wpList_step fun K hK' => ?_
  rw [if_pos hgd]
  unfold Oper.wp execOp
  simp only [ho]
  cases hq : Try.prog.info? t with
  | none => have := hz.eq; simp [hq] at this
  | some i =>
    have hz' : i.zero = some (ag (List.replicate n 0)) ∧ i.size = n := by simpa [hq] using hz.eq
    simp [go_sem, zeroValue, typeInfo, hq, hz'.1, ag]
    exact hK' _ _ (h _ _ (New.alloc w t _))
theorem agg_int : ∀ w, (isAgg 3).run Try.prog w = .ok false w := fun w => by
  unfold isAgg; rw [Sem.run_bind, run_underlying Try.underlying3 w]; rfl
theorem agg_port : ∀ w, (isAgg 23).run Try.prog w = .ok true w := fun w => by
  unfold isAgg; rw [Sem.run_bind, run_underlying Try.underlying23 w]; rfl
theorem size_of {t : TypeId} {n : Nat} (h : (Try.prog.info? t).map (·.size) = some n) (w : World) : (sizeOf t).run Try.prog w = .ok n w := by
  cases hq : Try.prog.info? t with
  | none => simp [hq] at h
  | some i => have : i.size = n := by simpa [hq] using h
              simp [sizeOf, typeInfo, hq, this]
theorem size_int (w : World) : (sizeOf 3).run Try.prog w = .ok 1 w := size_of (by kernel_rfl) w
theorem size_port (w : World) : (sizeOf 23).run Try.prog w = .ok 2 w := size_of (by kernel_rfl) w
theorem size_ports (w : World) : (sizeOf 24).run Try.prog w = .ok 32 w := size_of (by kernel_rfl) w
theorem ics_cut (l : List Int) (k n : Nat) : (ics l).extract k (k + n) = ics (cut l k n) := by
  simp [ics, cut, List.map_take, List.map_drop]
theorem run_indexP (l : List Int) (k : Nat) (hk : k < 16) (w : World) : (Instr.index 24 (ag l) (.int .i64 (k : Int))).run Try.prog w = .ok (ag (cut l (k * 2) 2)) w := by
  unfold Instr.index
  simp [asIntOf, run_underlying Try.underlying24, ag, hk, part, agg_port, size_port, ics_cut]
theorem cl_cut {l : List Int} {k n j : Nat} (hj : j < n) : cl (cut l k n) j = cl l (k + j) := by
  unfold cl cut
  rw [List.getD_eq_getElem?_getD, List.getD_eq_getElem?_getD, List.getElem?_take, if_pos hj, List.getElem?_drop]
theorem two_list {l : List Int} (h : l.length = 2) : l = [cl l 0, cl l 1] := by
  match l, h with
  | [a, b], _ => rfl
theorem cut2 (s c : Int) : cut [s, c] 0 2 = [s, c] := rfl
/-- the ports of a hub, as one row; a port of it -/
theorem cut_port {F : List Int} (hF : F.length = 33) {k : Nat} (hk : k < 16) : cut F (1 + k * 2) 2 = [sta F k, chg F k] := by
  rw [two_list (cut_length (by omega)), cl_cut (by omega), cl_cut (by omega)]; rfl
theorem cut_cut {F : List Int} (hF : F.length = 33) {k : Nat} (hk : k < 16) : cut (cut F 1 32) (k * 2) 2 = [sta F k, chg F k] := by
  rw [two_list (cut_length (by rw [cut_length (by omega)]; omega)), cl_cut (by omega), cl_cut (by omega), cl_cut (by omega), cl_cut (by omega), Nat.add_zero, ← Nat.add_assoc]; rfl
theorem putL_port {F : List Int} (hF : F.length = 33) {k : Nat} (hk : k < 16) (s c : Int) : putL F (1 + k * 2) [s, c] = setP F k s c := by
  have hlen : (putL F (1 + k * 2) [s, c]).length = 33 := by simp [putL]; omega
  refine cl_ext hlen (by rw [setP_len, hF]) fun j hj => ?_
  have e : min (1 + k * 2) F.length = 1 + k * 2 := by omega
  unfold cl putL setP
  simp only [List.getD_eq_getElem?_getD, List.getElem?_append, List.getElem?_set, List.getElem?_take, List.getElem?_drop, List.length_append, List.length_take, List.length_set, List.length_cons, List.length_nil, e]
  by_cases j0 : j < 1 + k * 2
  · rw [if_pos (show j < 1 + k * 2 + (0 + 1 + 1) by omega), if_pos j0, if_pos j0, if_neg (by omega), if_neg (by omega)]
  · by_cases j1 : j = 1 + k * 2
    · subst j1
      rw [if_pos (by omega), if_neg j0, Nat.sub_self, if_neg (by omega), if_pos rfl, if_pos (by omega)]
      rfl
    · by_cases j2 : j = 1 + k * 2 + 1
      · subst j2
        rw [if_pos (by omega), if_neg j0, if_pos rfl, if_pos (by omega), Nat.add_sub_cancel_left]
        rfl
      · rw [if_neg (show ¬ j < 1 + k * 2 + (0 + 1 + 1) by omega), if_neg (show ¬ 1 + k * 2 + 1 = j by omega), if_neg (show ¬ 1 + k * 2 = j by omega)]
        congr 2
        omega
end Go.Proofs.Ytdnmjeiljpdmcaa.hub
