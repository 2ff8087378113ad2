/- host: rows of values in memory: rings, machines, boards, their parts; rows of cells that are read or owned. -/
import Derived.Test.YthjmcopknkemnaaRngK
import Derived.Test.YthjmcopknkemnaaSltQ
import Derived.Test.YthjmcopknkemnaaHstM
namespace Go.Proofs.Ythjmcopknkemnaa.host
open Go Go.RowKit
open Go.Proofs.Ythjmcopknkemnaa
open Go.Proofs.Ythjmcopknkemnaa.slots (Row row_board row_cmd Chg ag bx ics keep bsq balloc bx_lt fl Wf)
open Go.Proofs.Ythjmcopknkemnaa.ring (Ces Rcs rgV rgW Rg Ce)
set_option linter.unusedVariables false
set_option linter.unusedSimpArgs false
set_option maxRecDepth 100000

def agv (l : List Value) : Value := .agg l.toArray
def bv (T : TypeId) (l : List Value) : Obj := .cells l.toArray T (0, 0)
def ivs (l : List Int) : List Value := l.map (Value.int .i64)
theorem ag_is (l : List Int) : ag l = agv (ivs l) := rfl
/-- values of one cell each, n of them -/
structure Vs (l : List Value) (n : Nat) : Prop where
  len : l.length = n
  one : ∀ v ∈ l, v.oneCell' = true
theorem ivs_vs {l : List Int} {n : Nat} (h : l.length = n) : Vs (ivs l) n := ⟨by simp [ivs, h], fun v hv => by obtain ⟨x, _, rfl⟩ := List.mem_map.1 hv; rfl⟩
theorem Vs.app {l r : List Value} {n k : Nat} (h1 : Vs l n) (h2 : Vs r k) : Vs (l ++ r) (n + k) := ⟨by rw [List.length_append, h1.len, h2.len], fun v hv => by rcases List.mem_append.1 hv with q | q; exact h1.one v q; exact h2.one v q⟩
/-- a ring's cells -/
def rgl (v : Value) (r : Rg) : List Value := [v, .int .i64 r.pa, .int .i64 r.pb, .int .i64 r.ga, .int .i64 r.gb, .int .i64 r.sn]
theorem rg_is (v : Value) (r : Rg) : rgW v r = agv (rgl v r) := rfl
theorem rgl_vs {v : Value} {r : Rg} (h : v.oneCell' = true) : Vs (rgl v r) 6 := ⟨rfl, fun x hx => by
  simp only [rgl, List.mem_cons, List.not_mem_nil, or_false] at hx
  rcases hx with rfl | rfl | rfl | rfl | rfl | rfl
  · exact h
  all_goals rfl⟩
theorem rcs_one {w : World} {v : Value} {L : List Ce} (h : Rcs w v L) : v.oneCell' = true := by obtain ⟨a, c, rfl, _⟩ := h.form; rfl
/-- a machine's cells -/
def mvl (vc ve : Value) (m : Mc) : List Value := rgl vc m.c ++ (rgl ve m.e ++ ivs (fl m.B))
def mvV (vc ve : Value) (m : Mc) : Value := agv (mvl vc ve m)
theorem mvl_vs {vc ve : Value} {m : Mc} (h1 : vc.oneCell' = true) (h2 : ve.oneCell' = true) (hw : Wf m.B) : Vs (mvl vc ve m) 606 := (rgl_vs h1).app ((rgl_vs h2).app (ivs_vs hw.length))
def cv (l : List Value) (k n : Nat) : List Value := (l.drop k).take n
theorem cv_c (vc ve : Value) (m : Mc) : cv (mvl vc ve m) 0 6 = rgl vc m.c := rfl
theorem cv_e (vc ve : Value) (m : Mc) : cv (mvl vc ve m) 6 6 = rgl ve m.e := rfl
theorem cv_b (vc ve : Value) {m : Mc} (hw : Wf m.B) : cv (mvl vc ve m) 12 594 = ivs (fl m.B) := by
  have : (mvl vc ve m).drop 12 = ivs (fl m.B) := rfl
  unfold cv
  rw [this, List.take_of_length_le (by simp [ivs, hw.length])]
theorem cv_all {l : List Value} {n : Nat} (h : l.length = n) : cv l 0 n = l := by unfold cv; rw [List.drop_zero, List.take_of_length_le (by omega)]
/-- row l from place k on is r -/
def ptv (l : List Value) (k : Nat) (r : List Value) : List Value := l.take k ++ r ++ l.drop (k + r.length)
theorem ptv_all {l r : List Value} (h : r.length = l.length) : ptv l 0 r = r := by unfold ptv; rw [List.take_zero, List.nil_append, List.drop_eq_nil_of_le (by omega), List.append_nil]
theorem ptv_c (vc ve v : Value) (m : Mc) (r : Rg) : ptv (mvl vc ve m) 0 (rgl v r) = mvl v ve ⟨r, m.e, m.B⟩ := rfl
theorem ptv_e (vc ve v : Value) (m : Mc) (r : Rg) : ptv (mvl vc ve m) 6 (rgl v r) = mvl vc v ⟨m.c, r, m.B⟩ := rfl
theorem ptv_b (vc ve : Value) (m : Mc) {B : slots.Bd} (hw : Wf m.B) (hB : Wf B) : ptv (mvl vc ve m) 12 (ivs (fl B)) = mvl vc ve ⟨m.c, m.e, B⟩ := by
  have e1 : (mvl vc ve m).take 12 = rgl vc m.c ++ rgl ve m.e := rfl
  have e2 : (mvl vc ve m).drop (12 + (ivs (fl B)).length) = [] := List.drop_eq_nil_of_le (by simp [mvl, rgl, ivs, hw.length, hB.length])
  unfold ptv
  rw [e1, e2, List.append_nil, List.append_assoc]
  rfl
theorem bv_cell {w : World} {B j : Nat} {T : TypeId} {l : List Value} {x : Value} (h : w.heap[B]? = some (bv T l)) (hx : l[j]? = some x) : w.cell? ⟨B, j, none⟩ = some x := by
  rw [cell_of_row w B j _ _ (0, 0) h]; simpa using hx
theorem bv_free {w : World} {B : Nat} {T : TypeId} {l : List Value} (h : w.heap[B]? = some (bv T l)) (j : Nat) : w.frozen? ⟨B, j, none⟩ = false := frozen_of_row w B j _ _ h
theorem bv_range {w : World} {B k n : Nat} {T : TypeId} {l : List Value} (h : w.heap[B]? = some (bv T l)) : w.rangeAt B k (cv l k n) := fun j v hv => by
  unfold cv at hv
  rw [List.getElem?_take] at hv
  split at hv
  · rw [List.getElem?_drop] at hv
    exact bv_cell h hv
  · simp at hv
theorem cv_length {l : List Value} {k n : Nat} (h : k + n ≤ l.length) : (cv l k n).length = n := by simp [cv]; omega
theorem row_ring : Row 35 6 := ⟨⟨_, Try.underlying35, rfl, by kernel_rfl⟩⟩
theorem row_mach : Row 43 606 := ⟨⟨_, Try.underlying43, rfl, by kernel_rfl⟩⟩
theorem run_loadv {w : World} {B k n : Nat} {T t : TypeId} {l : List Value} (hT : Row t n) (h : w.heap[B]? = some (bv T l)) (hle : k + n ≤ l.length) :
    (Instr.loadAt t (.pointer (some ⟨B, k, none⟩))).run Try.prog w = .ok (agv (cv l k n)) w := by
  obtain ⟨d, h1, h2, h3⟩ := hT.ex
  exact run_loadAt_mid w B k t _ d (bv_range (n := n) h) h1 h2 (by rw [h3]; exact congrArg some (cv_length hle).symm)
theorem setRow_chg {w : World} {B : Nat} {T : TypeId} {l : List Value} (cs : Array Value) (h : w.heap[B]? = some (bv T l)) : Chg B w (w.setRow B cs) where
  size := by simp
  other := fun X hX => setRow_other w B X cs hX
  below := fun b w0 hb h => ⟨h.os, h.tape, h.output, by simp; exact h.size, fun X hX => (setRow_other w B X cs (by omega)).trans (h.block X hX)⟩
theorem run_storev {w : World} {B k n : Nat} {T t : TypeId} {l r : List Value} (hT : Row t n) (h : w.heap[B]? = some (bv T l)) (hr : Vs r n) (hle : k + n ≤ l.length) :
    (Instr.storeAt t (.pointer (some ⟨B, k, none⟩)) (agv r)).run Try.prog w = .ok () (w.setRow B (ptv l k r).toArray) := by
  obtain ⟨d, h1, h2, h3⟩ := hT.ex
  have hst := run_storeCells_at Try.prog B k T r 0 l.toArray w h (by have := hr.len; simp; omega) hr.one
  rw [Nat.add_zero] at hst
  cases hq : Try.prog.info? t with
  | none => simp [hq] at h3
  | some i =>
    have hs : r.toArray.size = i.size := by have := hr.len; simp [hq] at h3; simp; omega
    simp only [Instr.storeAt, Instr.sureAddr, Sem.run_bind, Sem.run_pure, Result.andThen_ok]
    have hs' : r.length = i.size := by simpa using hs
    simp [storeVar, sizeOf, typeInfo, hq, agv, Value.cells, hs', hst, ptv]
section
variable {ops : Array Oper} {rest : List Oper} {o : Oper} {a : Act} {w : World} {Q : Exit → Act → World → Prop}
/-- a row is read -/
theorem v_load (hgd : Region.wanted o (yielded ops a.tmps) = true) {t : TypeId} {x : Operand} (ho : o.op = .load t x)
    {B k n : Nat} (hT : Row t n) (hx : a.eval x = .pointer (some ⟨B, k, none⟩)) {T : TypeId} {l r : List Value} (hB : w.heap[B]? = some (bv T l)) (hle : k + n ≤ l.length) (hr : cv l k n = r)
    (h : wpList Try.prog ops Q rest (a.put o.dst (agv r)) w) : wpList Try.prog ops Q (o :: rest) a w := by
  subst hr
  refine wpList_step fun K hK' => ?_
  rw [if_pos hgd]
  unfold Oper.wp execOp
  simp only [ho, hx, Sem.run_bind, run_loadv hT hB hle, Result.andThen_ok, Sem.run_pure]
  exact hK' _ _ h
/-- a row is written -/
theorem v_store (hgd : Region.wanted o (yielded ops a.tmps) = true) {t : TypeId} {x y : Operand} (ho : o.op = .store t x y)
    {B k n : Nat} (hT : Row t n) {T : TypeId} {l r l' : List Value} (hx : a.eval x = .pointer (some ⟨B, k, none⟩)) (hy : a.eval y = agv r) (hB : w.heap[B]? = some (bv T l)) (hr : Vs r n) (hle : k + n ≤ l.length) (hl : ptv l k r = l')
    (h : ∀ u, u.heap[B]? = some (bv T l') → Chg B w u → wpList Try.prog ops Q rest (a.put o.dst undef) u) : wpList Try.prog ops Q (o :: rest) a w := by
  subst hl
  refine wpList_step fun K hK' => ?_
  rw [if_pos hgd]
  unfold Oper.wp execOp
  simp only [ho, hx, hy, Sem.run_bind, run_storev hT hB hr hle, Result.andThen_ok, Sem.run_pure]
  exact hK' _ _ (h _ (setRow_heap w B _ _ T _ hB) (setRow_chg _ hB))
theorem v_fill (hgd : Region.wanted o (yielded ops a.tmps) = true) {t : TypeId} {x y : Operand} (ho : o.op = .store t x y)
    {B n : Nat} (hT : Row t n) {T : TypeId} {l r : List Value} (hx : a.eval x = .pointer (some ⟨B, 0, none⟩)) (hy : a.eval y = agv r) (hB : w.heap[B]? = some (bv T l)) (hr : Vs r n) (hl : l.length = n)
    (h : ∀ u, u.heap[B]? = some (bv T r) → Chg B w u → wpList Try.prog ops Q rest (a.put o.dst undef) u) : wpList Try.prog ops Q (o :: rest) a w :=
  v_store hgd ho hT hx hy hB hr (by omega) (ptv_all (by rw [hr.len, hl])) h
theorem set_bv {B j : Nat} {T : TypeId} {l : List Value} {x : Value} (h : w.heap[B]? = some (bv T l)) : (w.setCell ⟨B, j, none⟩ x).heap[B]? = some (bv T (l.set j x)) ∧ Chg B w (w.setCell ⟨B, j, none⟩ x) := by
  have e : (w.setCell ⟨B, j, none⟩ x) = w.setRow B (l.set j x).toArray := by
    rw [setCell_eq_setRow w B j _ T (0, 0) _ h]; simp
  rw [e]
  exact ⟨setRow_heap w B _ _ T _ h, setRow_chg _ h⟩
/-- one value is written -/
theorem v_put (hgd : Region.wanted o (yielded ops a.tmps) = true) {t : TypeId} {x y : Operand} (ho : o.op = .store t x y) (ht : t = 3 ∨ t = 31)
    {B j : Nat} {T : TypeId} {l : List Value} {v : Value} (hx : a.eval x = .pointer (some ⟨B, j, none⟩)) (hy : a.eval y = v) (hv : (∃ n, v = .int .i64 n) ∨ ∃ p n c, v = .slice p n c) (hB : w.heap[B]? = some (bv T l)) (hle : j < l.length)
    (h : ∀ u, u.heap[B]? = some (bv T (l.set j v)) → Chg B w u → wpList Try.prog ops Q rest (a.put o.dst undef) u) : wpList Try.prog ops Q (o :: rest) a w := by
  refine wpList_step fun K hK' => ?_
  rw [if_pos hgd]
  have hc := bv_cell hB (List.getElem?_eq_getElem hle)
  have hf := bv_free hB j
  have hs : (Instr.storeAt t (.pointer (some ⟨B, j, none⟩)) v).run Try.prog w = .ok () (w.setCell ⟨B, j, none⟩ v) := by
    rcases ht with rfl | rfl <;> rcases hv with ⟨n, rfl⟩ | ⟨p, n, c, rfl⟩ <;> simp [go_sem, hc, hf]
  unfold Oper.wp execOp
  simp only [ho, hx, hy, Sem.run_bind, hs, Result.andThen_ok, Sem.run_pure]
  exact hK' _ _ (h _ (set_bv hB).1 (set_bv hB).2)
/-- one value is read -/
theorem v_get (hgd : Region.wanted o (yielded ops a.tmps) = true) {t : TypeId} {x : Operand} (ho : o.op = .load t x) (ht : t = 3 ∨ t = 31)
    {B j : Nat} {T : TypeId} {l : List Value} {v : Value} (hx : a.eval x = .pointer (some ⟨B, j, none⟩)) (hB : w.heap[B]? = some (bv T l)) (hv : l[j]? = some v)
    (h : wpList Try.prog ops Q rest (a.put o.dst v) w) : wpList Try.prog ops Q (o :: rest) a w := by
  refine wpList_step fun K hK' => ?_
  rw [if_pos hgd]
  have hc := bv_cell hB hv
  have hs : (Instr.loadAt t (.pointer (some ⟨B, j, none⟩))).run Try.prog w = .ok v w := by
    rcases ht with rfl | rfl <;> simp [go_sem, hc]
  unfold Oper.wp execOp
  simp only [ho, hx, Sem.run_bind, hs, Result.andThen_ok, Sem.run_pure]
  exact hK' _ _ h
/-- new memory: a block of one's own -/
structure New (w u : World) (B : Nat) (T : TypeId) (l : List Value) : Prop where
  lies : u.heap[B]? = some (bv T l)
  at' : B = w.heap.size
  size : u.heap.size = w.heap.size + 1
  below : Below w.heap.size w u
theorem New.alloc (w : World) (T : TypeId) (l : List Value) : New w (w.alloc (bv T l)) w.heap.size T l := ⟨(MapKept.heap_alloc w _).1, rfl, Array.size_push _, balloc _ _⟩
/-- a value is boxed -/
theorem v_box (hgd : Region.wanted o (yielded ops a.tmps) = true) {t : TypeId} {x : Operand} (ho : o.op = .box t x)
    {l : List Value} (hx : a.eval x = agv l) (h : ∀ u B, New w u B t l → wpList Try.prog ops Q rest (a.put o.dst (.pointer (some ⟨B, 0, none⟩))) u) : wpList Try.prog ops Q (o :: rest) a w := by
  refine wpList_step fun K hK' => ?_
  rw [if_pos hgd]
  unfold Oper.wp execOp
  simp only [ho, hx]
  simp only [go_sem, agv]
  exact hK' _ _ (h _ _ (New.alloc w t l))
/-- the zero value -/
structure Zer (t : TypeId) (l : List Value) : Prop where
  eq : (Try.prog.info? t).map (·.zero) = some (some (agv l))
theorem v_alloc (hgd : Region.wanted o (yielded ops a.tmps) = true) {t : TypeId} {l : List Value} (hz : Zer t l) (ho : o.op = .alloc t)
    (h : ∀ u B, New w u B t l → wpList Try.prog ops Q rest (a.put o.dst (.pointer (some ⟨B, 0, none⟩))) u) : wpList Try.prog ops Q (o :: rest) a w := by
  refine wpList_step fun K hK' => ?_
  rw [if_pos hgd]
  unfold Oper.wp execOp
  simp only [ho]
  cases hq : Try.prog.info? t with
  | none => have := hz.eq; simp [hq] at this
  | some i =>
    have hz' : i.zero = some (agv l) := by simpa [hq] using hz.eq
    simp [go_sem, zeroValue, typeInfo, hq, hz', agv]
    exact hK' _ _ (h _ _ (New.alloc w t _))
/-- a value is built -/
theorem v_build (hgd : Region.wanted o (yielded ops a.tmps) = true) {t : TypeId} {ps : Array (Nat × Operand)} (ho : o.op = .build t ps)
    {vs : Array (Nat × Value)} {v : Value} (hb : ∀ w, (Instr.build t vs).run Try.prog w = .ok v w) (hv : ps.map (fun q => (q.1, a.eval q.2)) = vs)
    (h : wpList Try.prog ops Q rest (a.put o.dst v) w) : wpList Try.prog ops Q (o :: rest) a w := slots.a_build hgd ho hb hv h
end
def nilS : Value := .slice none 0 0
def zM : Mc := ⟨ring.zR, ring.zR, slots.zB⟩
def zl : List Value := mvl nilS nilS zM
theorem zl_is : zl = rgl nilS ring.zR ++ (rgl nilS ring.zR ++ List.replicate 594 (.int .i64 0)) := by
  unfold zl mvl zM ivs
  rw [slots.zB_fl, List.map_replicate]
theorem zer_mach : Zer 43 zl := by rw [zl_is]; exact ⟨by kernel_rfl⟩
theorem zer_ring : Zer 35 (rgl nilS ring.zR) := ⟨by kernel_rfl⟩
theorem zer_cmd : Zer 23 (ivs [0, 0, 0, 0]) := ⟨by kernel_rfl⟩
theorem zer_board : Zer 41 (ivs (fl slots.zB)) := by rw [slots.zB_fl, ivs, List.map_replicate]; exact ⟨by kernel_rfl⟩
theorem zer_event : Zer 52 (ivs [0, 0, 0]) := ⟨by kernel_rfl⟩
theorem row_event : Row 52 3 := ⟨⟨_, Try.underlying52, rfl, by kernel_rfl⟩⟩
theorem zl_vs : Vs zl 606 := mvl_vs rfl rfl slots.zB_wf
/-- cells that were there at w, or lie in memory made since -/
def Rw (w u : World) : Bool → Value → List Ce → Prop
  | false, v, L => Rcs w v L
  | true, v, L => Ces u w.heap.size v L
abbrev Bk := Nat × TypeId × List Value
/-- the boxes of a call, the rows of cells that it knows, and what was there ahead of it -/
structure Mv (w u : World) (L : List Bk) (R : List (Bool × Value × List Ce)) : Prop where
  lies : ∀ x ∈ L, u.heap[x.1]? = some (bv x.2.1 x.2.2)
  own : ∀ x ∈ L, w.heap.size ≤ x.1
  ap : (L.map (·.1)).Nodup
  ty : ∀ x ∈ L, x.2.1 ≠ 91
  rows : ∀ x ∈ R, Rw w u x.1 x.2.1 x.2.2
  below : Below w.heap.size w u
theorem Mv.nil (w : World) : Mv w w [] [] := ⟨fun x h => absurd h (by simp), fun x h => absurd h (by simp), List.nodup_nil, fun x h => absurd h (by simp), fun x h => absurd h (by simp), Below.refl _ _⟩
section
variable {w u v : World} {L : List Bk} {R : List (Bool × Value × List Ce)} {B : Nat} {T : TypeId} {l l' : List Value}
theorem Rw.call {b : Bool} {x : Value} {C : List Ce} (h : Rw w u b x C) (hb : Below u.heap.size u v) : Rw w v b x C := by
  cases b
  · exact h
  · exact Ces.below h hb
theorem Mv.add (h : Mv w u L R) {b : Bool} {x : Value} {C : List Ce} (hx : Rw w u b x C) : Mv w u L ((b, x, C) :: R) := ⟨h.lies, h.own, h.ap, h.ty, fun y hy => by
  rcases List.mem_cons.1 hy with rfl | q
  · exact hx
  · exact h.rows y q, h.below⟩
theorem Mv.old (h : Mv w u L R) {x : Value} {C : List Ce} (hx : Rcs w x C) : Mv w u L ((false, x, C) :: R) := h.add (b := false) hx
theorem Mv.read (h : Mv w u L R) {b : Bool} {x : Value} {C : List Ce} (hx : (b, x, C) ∈ R) : Rcs u x C := by
  have q := h.rows _ hx
  cases b
  · exact Rcs.below q h.below
  · exact Ces.rcs q
theorem Mv.mine (h : Mv w u L R) {x : Value} {C : List Ce} (hx : (true, x, C) ∈ R) : Ces u w.heap.size x C := h.rows _ hx
theorem Mv.new (h : Mv w u L R) (n : New u v B T l) (ht : T ≠ 91) : Mv w v ((B, T, l) :: L) R where
  lies := fun x hx => by
    rcases List.mem_cons.1 hx with rfl | q
    · exact n.lies
    · exact keep (h.lies x q) n.below
  own := fun x hx => by
    rcases List.mem_cons.1 hx with rfl | q
    · show w.heap.size ≤ B; rw [n.at']; exact h.below.size
    · exact h.own x q
  ap := by
    rw [List.map_cons, List.nodup_cons]
    refine ⟨fun q => ?_, h.ap⟩
    obtain ⟨y, hy, e⟩ := List.mem_map.1 q
    have h1 := bx_lt (h.lies y hy)
    have h2 : y.1 = u.heap.size := e.trans n.at'
    omega
  ty := fun x hx => by
    rcases List.mem_cons.1 hx with rfl | q
    · exact ht
    · exact h.ty x q
  rows := fun x hx => (h.rows x hx).call n.below
  below := bsq h.below n.below
theorem Mv.call (h : Mv w u L R) (hb : Below u.heap.size u v) : Mv w v L R := ⟨fun x hx => keep (h.lies x hx) hb, h.own, h.ap, h.ty, fun x hx => (h.rows x hx).call hb, bsq h.below hb⟩
/-- a callee's answer is a row of one's own -/
theorem Mv.tel (h : Mv w u L R) {x : Value} {C : List Ce} (hc : Ces v u.heap.size x C) (hb : Below u.heap.size u v) : Mv w v L ((true, x, C) :: R) := (h.call hb).add (b := true) (hc.mono h.below.size)
theorem own_chg {x : Value} {C : List Ce} {b : Nat} (h : Ces u b x C) (hl : u.heap[B]? = some (bv T l)) (ht : T ≠ 91) (hc : Chg B u v) : Ces v b x C := by
  refine ⟨h.1, ?_⟩
  rcases h.2 with ⟨q1, q2⟩ | ⟨g, cap, cur, q1, q2, q3, q4⟩
  · exact .inl ⟨q1, q2⟩
  · refine .inr ⟨g, cap, cur, q1, q2, ?_, q4⟩
    rw [hc.other g ?_]
    · exact q3
    · rintro rfl
      rw [hl] at q3
      injection q3 with q3
      injection q3 with _ q3 _
      exact ht q3
theorem Mv.put {pre post : List Bk} (h : Mv w u (pre ++ (B, T, l) :: post) R) (hc : Chg B u v) (hl : v.heap[B]? = some (bv T l')) : Mv w v (pre ++ (B, T, l') :: post) R := by
  have hap := h.ap
  rw [List.map_append, List.map_cons, List.nodup_append] at hap
  obtain ⟨hp, hq, hpq⟩ := hap
  rw [List.nodup_cons] at hq
  refine ⟨fun x hx => ?_, fun x hx => ?_, ?_, fun x hx => ?_, fun x hx => ?_, hc.below _ _ (h.own (B, T, l) (by simp)) h.below⟩
  · rcases List.mem_append.1 hx with q | q
    · rw [hc.other x.1 (fun e => hpq x.1 (List.mem_map.2 ⟨x, q, rfl⟩) B (by simp) e)]
      exact h.lies x (List.mem_append.2 (.inl q))
    · rcases List.mem_cons.1 q with rfl | q
      · exact hl
      · rw [hc.other x.1 (fun e => hq.1 (List.mem_map.2 ⟨x, q, e⟩))]
        exact h.lies x (List.mem_append.2 (.inr (List.mem_cons_of_mem _ q)))
  · rcases List.mem_append.1 hx with q | q
    · exact h.own x (List.mem_append.2 (.inl q))
    · rcases List.mem_cons.1 q with rfl | q
      · exact h.own (B, T, l) (by simp)
      · exact h.own x (List.mem_append.2 (.inr (List.mem_cons_of_mem _ q)))
  · have := h.ap
    rw [List.map_append, List.map_cons] at this ⊢
    exact this
  · rcases List.mem_append.1 hx with q | q
    · exact h.ty x (List.mem_append.2 (.inl q))
    · rcases List.mem_cons.1 q with rfl | q
      · exact h.ty (B, T, l) (by simp)
      · exact h.ty x (List.mem_append.2 (.inr (List.mem_cons_of_mem _ q)))
  · have q := h.rows x hx
    obtain ⟨b, x, C⟩ := x
    cases b
    · exact q
    · exact own_chg q (h.lies (B, T, l) (by simp)) (h.ty (B, T, l) (by simp)) hc
variable {a b c d f g : Bk}
theorem Mv.at0 (h : Mv w u ((B, T, l) :: L) R) : u.heap[B]? = some (bv T l) := h.lies (B, T, l) (by simp)
theorem Mv.at1 (h : Mv w u (a :: (B, T, l) :: L) R) : u.heap[B]? = some (bv T l) := h.lies (B, T, l) (by simp)
theorem Mv.at2 (h : Mv w u (a :: b :: (B, T, l) :: L) R) : u.heap[B]? = some (bv T l) := h.lies (B, T, l) (by simp)
theorem Mv.at3 (h : Mv w u (a :: b :: c :: (B, T, l) :: L) R) : u.heap[B]? = some (bv T l) := h.lies (B, T, l) (by simp)
theorem Mv.at4 (h : Mv w u (a :: b :: c :: d :: (B, T, l) :: L) R) : u.heap[B]? = some (bv T l) := h.lies (B, T, l) (by simp)
theorem Mv.at5 (h : Mv w u (a :: b :: c :: d :: f :: (B, T, l) :: L) R) : u.heap[B]? = some (bv T l) := h.lies (B, T, l) (by simp)
theorem Mv.at6 (h : Mv w u (a :: b :: c :: d :: f :: g :: (B, T, l) :: L) R) : u.heap[B]? = some (bv T l) := h.lies (B, T, l) (by simp)
theorem Mv.put0 (h : Mv w u ((B, T, l) :: L) R) (hc : Chg B u v) (hl : v.heap[B]? = some (bv T l')) : Mv w v ((B, T, l') :: L) R := Mv.put (pre := []) h hc hl
theorem Mv.put1 (h : Mv w u (a :: (B, T, l) :: L) R) (hc : Chg B u v) (hl : v.heap[B]? = some (bv T l')) : Mv w v (a :: (B, T, l') :: L) R := Mv.put (pre := [a]) h hc hl
theorem Mv.put2 (h : Mv w u (a :: b :: (B, T, l) :: L) R) (hc : Chg B u v) (hl : v.heap[B]? = some (bv T l')) : Mv w v (a :: b :: (B, T, l') :: L) R := Mv.put (pre := [a, b]) h hc hl
theorem Mv.put3 (h : Mv w u (a :: b :: c :: (B, T, l) :: L) R) (hc : Chg B u v) (hl : v.heap[B]? = some (bv T l')) : Mv w v (a :: b :: c :: (B, T, l') :: L) R := Mv.put (pre := [a, b, c]) h hc hl
theorem Mv.put4 (h : Mv w u (a :: b :: c :: d :: (B, T, l) :: L) R) (hc : Chg B u v) (hl : v.heap[B]? = some (bv T l')) : Mv w v (a :: b :: c :: d :: (B, T, l') :: L) R := Mv.put (pre := [a, b, c, d]) h hc hl
theorem Mv.put5 (h : Mv w u (a :: b :: c :: d :: f :: (B, T, l) :: L) R) (hc : Chg B u v) (hl : v.heap[B]? = some (bv T l')) : Mv w v (a :: b :: c :: d :: f :: (B, T, l') :: L) R := Mv.put (pre := [a, b, c, d, f]) h hc hl
theorem Mv.put6 (h : Mv w u (a :: b :: c :: d :: f :: g :: (B, T, l) :: L) R) (hc : Chg B u v) (hl : v.heap[B]? = some (bv T l')) : Mv w v (a :: b :: c :: d :: f :: g :: (B, T, l') :: L) R := Mv.put (pre := [a, b, c, d, f, g]) h hc hl
theorem Mv.drew (h : Mv w u L R) : Mv w u.drew L R := ⟨h.lies, h.own, h.ap, h.ty, fun x hx => (h.rows x hx).call (Below.refl _ _).drew, h.below.drew⟩
end
theorem ld_var {w : World} {B n : Nat} {T t : TypeId} {l : List Value} (hT : Row t n) (h : w.heap[B]? = some (bv T l)) (hl : l.length = n) : (loadVar t ⟨B, 0, none⟩).run Try.prog w = .ok (agv l) w := by
  have := run_loadv (k := 0) hT h (by omega)
  rw [cv_all hl] at this
  simpa only [Instr.loadAt, Instr.sureAddr, Sem.run_bind, Sem.run_pure, Result.andThen_ok] using this
/-- a machine that is told: its rows are old ones, or the call's own -/
structure Tl (w : World) (vc ve : Value) (m : Mc) (w' : World) : Prop where
  c : Ces w' w.heap.size vc m.c.C
  e : Ces w' w.heap.size ve m.e.C
  below : Below w.heap.size w w'
end Go.Proofs.Ythjmcopknkemnaa.host
