/- ring: cells in memory: slices that are read, rows of one's own; boxes of a ring, a mark, a cell. -/
import Derived.Test.YthjmcopknkemnaaRows
import Derived.Test.YthjmcopknkemnaaRngM
import Derived.WalkKit
import Derived.Handy
import Derived.Below
import Derived.OwnWalk
import Derived.Laws.AppendOwn
import Derived.Laws.OwnMore
import Derived.Deep.AppendLies
import Derived.Deep.RegionLaw
import Derived.OneCell
import Derived.WalkSmall
import Derived.RegionTactic
import Derived.WalkLawsBesides
import Derived.Deep.Cut
import Derived.MapKept
import Derived.Lib.OwnKind
import Derived.Deep.Onto
namespace Go.Proofs.Ythjmcopknkemnaa.ring
open Go.RowKit
set_option linter.unusedVariables false
set_option linter.unusedSimpArgs false
set_option maxRecDepth 100000

theorem bsq {w w1 w2 : World} (h1 : Below w.heap.size w w1) (h2 : Below w1.heap.size w1 w2) : Below w.heap.size w w2 := h1.trans (h2.mono h1.size)
theorem balloc (w : World) (o : Obj) : Below w.heap.size w (w.alloc o) := (Below.refl _ _).alloc (Nat.le_refl _) _
theorem grown_below {w u : World} (hb : Below w.heap.size w u) : w.grownBy u none := ⟨hb.os, hb.tape, hb.output, hb.size, fun k hk _ => hb.block k hk⟩
theorem own_below {w u : World} {B : Nat} {e : TypeId} {s : Nat} {v : Value} {n : Nat} {xs : List Value} (h : w.ownsRow B e s v n xs) (hb : Below w.heap.size w u) : u.ownsRow B e s v n xs := by
  cases hv : v.ownBlock with
  | none => exact World.ownsRow.kept h (grown_below hb) (.inl hv)
  | some k => exact World.ownsRow.kept h (grown_below hb) (.inr (by rw [hv]; simp))
theorem own_block {w : World} {B : Nat} {e : TypeId} {s : Nat} {v : Value} {n : Nat} {xs : List Value} (h : w.ownsRow B e s v n xs) : ∀ k, v.ownBlock = some k → B ≤ k := fun k hk => (World.ownsRow.lt h k hk).1
theorem keep {w u : World} {X : Nat} {o : Obj} (h : w.heap[X]? = some o) (hb : Below w.heap.size w u) : u.heap[X]? = some o := (hb.block X (Array.getElem?_eq_some_iff.1 h).1).trans h
theorem box_ne {w : World} {B : Nat} {e T : TypeId} {s : Nat} {v : Value} {n : Nat} {xs : List Value} {X : Nat} {cs : Array Value} {fr : Nat × Nat} (h : w.ownsRow B e s v n xs) (hX : w.heap[X]? = some (.cells cs T fr)) (he : e ≠ T) : v.ownBlock ≠ some X := by
  intro q
  obtain ⟨c, fz, h1⟩ := Lib.ownsRow_kind h X q
  rw [hX] at h1
  injection h1 with h1
  injection h1 with _ h1 _
  exact he h1.symm
theorem below_drewN {B : Nat} {a w : World} (h : Below B a w) (n : Nat) : Below B a (w.drewN n) := ⟨h.os, h.tape, h.output, h.size, h.block⟩
theorem infoC : (Try.prog.info? 91).map (fun i => (i.zero, i.size, i.bytes)) = some (some (.agg #[.int .u64 0, .int .i64 0, .bool false]), 3, 24) := by kernel_rfl
def ccell (x : Ce) : List Value := [.int .u64 x.1, .int .i64 x.2.1, .bool x.2.2]
def ccells (L : List Ce) : List Value := L.flatMap ccell
theorem ccells_cons (x : Ce) (r : List Ce) : ccells (x :: r) = .int .u64 x.1 :: .int .i64 x.2.1 :: .bool x.2.2 :: ccells r := rfl
theorem ccells_length (L : List Ce) : (ccells L).length = L.length * 3 := by
  induction L with
  | nil => rfl
  | cons x r ih => rw [ccells_cons, List.length_cons, List.length_cons, List.length_cons, ih, List.length_cons]; omega
theorem ccells_append (a b : List Ce) : ccells (a ++ b) = ccells a ++ ccells b := by simp [ccells]
theorem ccells_at : ∀ (L : List Ce) (j : Nat) (x : Ce), L[j]? = some x → (ccells L)[j * 3]? = some (.int .u64 x.1) ∧ (ccells L)[j * 3 + 1]? = some (.int .i64 x.2.1) ∧ (ccells L)[j * 3 + 2]? = some (.bool x.2.2)
  | [], j, x, h => by simp at h
  | y :: r, 0, x, h => by simp at h; subst h; exact ⟨rfl, rfl, rfl⟩
  | y :: r, j + 1, x, h => by
    have := ccells_at r j x (by simpa using h)
    rw [ccells_cons, show (j + 1) * 3 = j * 3 + 1 + 1 + 1 by omega]
    exact this
theorem scs (y : Ce) (r : List Ce) (j : Nat) (x : Ce) : (y :: r).set (j + 1) x = y :: r.set j x := rfl
theorem ccells_set : ∀ (L : List Ce) (j : Nat) (x : Ce), j < L.length → (((ccells L).set (j * 3) (.int .u64 x.1)).set (j * 3 + 1) (.int .i64 x.2.1)).set (j * 3 + 2) (.bool x.2.2) = ccells (L.set j x)
  | [], j, x, h => by simp at h
  | y :: r, 0, x, h => by simp [ccells_cons]
  | y :: r, j + 1, x, h => by
    have := ccells_set r j x (by simpa using h)
    rw [scs y r, ccells_cons, ccells_cons, ← this, show (j + 1) * 3 = j * 3 + 1 + 1 + 1 by omega]
    rfl
theorem ccells_bit : ∀ (L : List Ce) (j : Nat) (x : Ce) (b : Int), L[j]? = some x → (ccells L).set (j * 3 + 1) (.int .i64 b) = ccells (L.set j (x.1, b, x.2.2))
  | [], j, x, b, h => by simp at h
  | y :: r, 0, x, b, h => by simp at h; subst h; simp [ccells_cons]
  | y :: r, j + 1, x, b, h => by
    have := ccells_bit r j x b (by simpa using h)
    rw [scs y r, ccells_cons, ccells_cons, ← this, show (j + 1) * 3 = j * 3 + 1 + 1 + 1 by omega]
    rfl
theorem ccells_link : ∀ (L : List Ce) (j : Nat) (x : Ce) (b : Bool), L[j]? = some x → (ccells L).set (j * 3 + 2) (.bool b) = ccells (L.set j (x.1, x.2.1, b))
  | [], j, x, b, h => by simp at h
  | y :: r, 0, x, b, h => by simp at h; subst h; simp [ccells_cons]
  | y :: r, j + 1, x, b, h => by
    have := ccells_link r j x b (by simpa using h)
    rw [scs y r, ccells_cons, ccells_cons, ← this, show (j + 1) * 3 = j * 3 + 1 + 1 + 1 by omega]
    rfl
theorem ccells_one (L : List Ce) : ∀ u ∈ ccells L, u.oneCell' = true := by
  intro u hu
  obtain ⟨x, _, hu⟩ := List.mem_flatMap.1 hu
  simp only [ccell, List.mem_cons, List.not_mem_nil, or_false] at hu
  rcases hu with rfl | rfl | rfl <;> rfl
/-- the value v owns these cells, in a block from B on -/
def Ces (w : World) (B : Nat) (v : Value) (L : List Ce) : Prop := w.ownsRow B 91 3 v L.length (ccells L)
theorem Ces.nil (w : World) (B : Nat) : Ces w B (.slice none 0 0) [] := ⟨rfl, .inl ⟨rfl, rfl⟩⟩
theorem Ces.below {w u : World} {B : Nat} {v : Value} {L : List Ce} (h : Ces w B v L) (hb : Below w.heap.size w u) : Ces u B v L := own_below h hb
theorem Ces.mono {w : World} {B B' : Nat} {v : Value} {L : List Ce} (h : Ces w B v L) (hb : B' ≤ B) : Ces w B' v L := World.ownsRow.mono h hb
theorem Ces.form {w : World} {B : Nat} {v : Value} {L : List Ce} (h : Ces w B v L) : ∃ a c, v = .slice a L.length c ∧ L.length ≤ c ∧ c ≤ maxLen := by
  rcases h.2 with ⟨rfl, h0⟩ | ⟨g, cap, cur, rfl, hb, hg, hn, hm, _⟩
  · exact ⟨none, 0, by rw [h0], by omega, Nat.zero_le _⟩
  · exact ⟨_, _, rfl, hn, hm⟩
/-- a slice that reads as these cells -/
def Rcs (w : World) (v : Value) (L : List Ce) : Prop :=
  ∃ a c, v = .slice a L.length c ∧ L.length ≤ c ∧ c ≤ maxLen ∧ (0 < L.length → ∃ g off, a = some ⟨g, off, none⟩ ∧ g < w.heap.size ∧ ∀ j x, L[j]? = some x → w.cell? ⟨g, off + j * 3, none⟩ = some (.int .u64 x.1) ∧ w.cell? ⟨g, off + j * 3 + 1, none⟩ = some (.int .i64 x.2.1) ∧ w.cell? ⟨g, off + j * 3 + 2, none⟩ = some (.bool x.2.2))
theorem Rcs.nil (w : World) : Rcs w (.slice none 0 0) [] := ⟨none, 0, rfl, Nat.le_refl _, Nat.zero_le _, fun h => by simp at h⟩
theorem Rcs.below {w u : World} {v : Value} {L : List Ce} (h : Rcs w v L) (hb : Below w.heap.size w u) : Rcs u v L := by
  obtain ⟨a, c, hv, h1, h2, h4⟩ := h
  refine ⟨a, c, hv, h1, h2, fun hn => ?_⟩
  obtain ⟨g, off, ha, hg, hc⟩ := h4 hn
  exact ⟨g, off, ha, Nat.lt_of_lt_of_le hg hb.size, fun j x hx => ⟨(hb.cell (p := ⟨g, off + j * 3, none⟩) hg).trans (hc j x hx).1, (hb.cell (p := ⟨g, off + j * 3 + 1, none⟩) hg).trans (hc j x hx).2.1, (hb.cell (p := ⟨g, off + j * 3 + 2, none⟩) hg).trans (hc j x hx).2.2⟩⟩
theorem Rcs.form {w : World} {v : Value} {L : List Ce} (h : Rcs w v L) : ∃ a c, v = .slice a L.length c ∧ L.length ≤ c ∧ c ≤ maxLen := by
  obtain ⟨a, c, h, h1, h2, _⟩ := h; exact ⟨_, _, h, h1, h2⟩
/-- one of them -/
theorem Rcs.at {w : World} {a : Option Addr} {n c : Nat} {L : List Ce} (h : Rcs w (.slice a n c) L) (k : Nat) (x : Ce) (hk : L[k]? = some x) : ∃ g off, a = some ⟨g, off, none⟩ ∧ ∀ u, Below w.heap.size w u → u.cell? ⟨g, off + k * 3, none⟩ = some (.int .u64 x.1) ∧ u.cell? ⟨g, off + k * 3 + 1, none⟩ = some (.int .i64 x.2.1) ∧ u.cell? ⟨g, off + k * 3 + 2, none⟩ = some (.bool x.2.2) := by
  obtain ⟨a', c', hv, h1, h2, h4⟩ := h
  have hl := (List.getElem?_eq_some_iff.1 hk).1
  obtain ⟨g, off, ha, hg, hc⟩ := h4 (by omega)
  have : a = a' := by injection hv
  exact ⟨g, off, this.trans ha, fun u hu => ⟨(hu.cell (p := ⟨g, off + k * 3, none⟩) hg).trans (hc k x hk).1, (hu.cell (p := ⟨g, off + k * 3 + 1, none⟩) hg).trans (hc k x hk).2.1, (hu.cell (p := ⟨g, off + k * 3 + 2, none⟩) hg).trans (hc k x hk).2.2⟩⟩
theorem Ces.rcs {w : World} {B : Nat} {v : Value} {L : List Ce} (h : Ces w B v L) : Rcs w v L := by
  have h' := h
  rcases h.2 with ⟨rfl, h0⟩ | ⟨g, cap, cur, rfl, hB, hg, hnc, hcm, hs, ht⟩
  · rw [List.eq_nil_of_length_eq_zero h0]; exact Rcs.nil _
  · refine ⟨_, cap, rfl, hnc, hcm, fun _ => ⟨g, 0, rfl, (Array.getElem?_eq_some_iff.1 hg).1, fun j x hx => ?_⟩⟩
    have hj := (List.getElem?_eq_some_iff.1 hx).1
    rw [Nat.zero_add, World.ownsRow.cellAt h' (j * 3) (by omega), World.ownsRow.cellAt h' (j * 3 + 1) (by omega), World.ownsRow.cellAt h' (j * 3 + 2) (by omega)]
    exact ccells_at L j x hx
/-- cells that were laid down -/
theorem rcs_laid (w : World) (L : List Ce) (h : L.length ≤ 1000) : Rcs (w.alloc (.cells (ccells L).toArray 91)) (.slice (some ⟨w.heap.size, 0, none⟩) L.length L.length) L := by
  refine ⟨_, _, rfl, Nat.le_refl _, by unfold maxLen; omega, fun _ => ⟨_, _, rfl, by simp, fun j x hx => ?_⟩⟩
  rw [Nat.zero_add, cell_of_row _ _ _ _ _ (0, 0) (MapKept.heap_alloc w _).1, cell_of_row _ _ _ _ _ (0, 0) (MapKept.heap_alloc w _).1, cell_of_row _ _ _ _ _ (0, 0) (MapKept.heap_alloc w _).1]
  have := ccells_at L j x hx
  simpa using this
theorem run_append_nothing {P : Program} {w : World} (base : Nat) (t ty e : TypeId) (i : TypeInfo) (size : Nat) (ht : P.underlying t = some (.slice e)) (hi : P.info? e = some i)
    (v : Value) (n : Nat) (xs : List Value) (hown : w.ownsRow base e size v n xs) (c : Nat) : (Builtin.append_ #[t, t] ty #[v, .slice none 0 c]).run P w = .ok v w := by
  rcases hown.2 with ⟨rfl, rfl⟩ | ⟨g, cap, cur, rfl, _, _, hnc, _⟩
  · simp [Builtin.append_, run_underlying ht, sizeOf, typeInfo, hi, Builtin.lenOf, Builtin.firstCells]
  · simp [Builtin.append_, run_underlying ht, sizeOf, typeInfo, hi, Builtin.lenOf, Builtin.firstCells, hnc, storeCells]
/-- cells behind cells -/
theorem wp_ces {o : Oper} {a : Act} {w : World} {K : Act → World → Prop} {Q : Exit → Act → World → Prop} (s x : Operand)
    (ho : o.op = .call { callee := .builtin .append, args := #[s, x], argTypes := #[31, 31] }) (B : Nat) (v : Value) (acc : List Ce) (hs : a.eval s = v) (h : Ces w B v acc)
    (vx : Value) (es : List Ce) (hx : a.eval x = vx) (hr : Rcs w vx es) (hl : acc.length + es.length ≤ 5864062014634) (hB : B ≤ w.heap.size)
    (hK : ∀ v' w', Ces w' B v' (acc ++ es) → w.grownBy w' v.ownBlock → Below B w w' → K (a.put o.dst v') w') : o.wp Try.prog a w K Q := by
  obtain ⟨i0, hi, hz0, hz1, hz2⟩ := info_parts infoC
  obtain ⟨ax, cx, rfl, h1, h2, h4⟩ := hr
  cases ax with
  | none =>
    have h0 : es.length = 0 := by
      rcases Nat.eq_zero_or_pos es.length with q | q
      · exact q
      · obtain ⟨g, off, q1, _⟩ := h4 q; cases q1
    have hes : es = [] := List.eq_nil_of_length_eq_zero h0
    subst hes
    have hrun := run_append_nothing (P := Try.prog) (w := w) B 31 o.type 91 i0 3 Try.underlying31 hi v acc.length (ccells acc) h cx
    simp only [List.length_nil] at hx
    have hk := hK v w (by rw [List.append_nil]; exact h) (World.grownBy.refl _ _) (Below.refl _ _)
    unfold Oper.wp
    simp [execOp, ho, resolve, invoke, builtin, hs, hx, hrun, Result.andThen]
    exact hk
  | some ad =>
    refine wp_append_own w s x 31 ho B 91 i0 _ 3 24 Try.underlying31 hi hz0 hz1 hz2 rfl (by omega) v acc.length (ccells acc) hs h ad es.length cx (ccells es) hx (ccells_length es) ?_ (ccells_one es) (by unfold maxLen; omega) (by omega) hB ?_
    · intro j u hj
      have hlt := (List.getElem?_eq_some_iff.1 hj).1
      rw [ccells_length] at hlt
      obtain ⟨g, off, q1, hg, hc⟩ := h4 (by omega)
      injection q1 with q1
      subst q1
      rw [Addr.add_lit]
      have hj2 : j / 3 < es.length := by omega
      have hp := ccells_at es (j / 3) es[j / 3] (List.getElem?_eq_getElem hj2)
      have hq := hc (j / 3) es[j / 3] (List.getElem?_eq_getElem hj2)
      rcases (by omega : j = j / 3 * 3 ∨ j = j / 3 * 3 + 1 ∨ j = j / 3 * 3 + 2) with q | q | q
      · rw [q] at hj ⊢
        rw [hp.1] at hj
        injection hj with hj
        rw [← hj]; exact hq.1
      · rw [q] at hj ⊢
        rw [hp.2.1] at hj
        injection hj with hj
        rw [← hj]; exact hq.2.1
      · rw [q] at hj ⊢
        rw [hp.2.2] at hj
        injection hj with hj
        rw [← hj]; exact hq.2.2
    · intro v' w' h1 h2 _
      refine hK v' w' ?_ h2 ((Below.refl _ _).grown h2 hB (own_block h))
      unfold Ces
      rw [List.length_append, ccells_append]
      exact h1
theorem wpList_ces {ops : Array Oper} {rest : List Oper} {o : Oper} {a : Act} {Q : Exit → Act → World → Prop} (w : World) (hgd : o.guard = none) (s x : Operand)
    (ho : o.op = .call { callee := .builtin .append, args := #[s, x], argTypes := #[31, 31] }) (B : Nat) (v : Value) (acc : List Ce) (hs : a.eval s = v) (h : Ces w B v acc)
    (vx : Value) (es : List Ce) (hx : a.eval x = vx) (hr : Rcs w vx es) (hl : acc.length + es.length ≤ 5864062014634) (hB : B ≤ w.heap.size)
    (hK : ∀ v' w', Ces w' B v' (acc ++ es) → w.grownBy w' v.ownBlock → Below B w w' → wpList Try.prog ops Q rest (a.put o.dst v') w') : wpList Try.prog ops Q (o :: rest) a w :=
  wpList_plain hgd fun _ hK' => wp_ces s x ho B v acc hs h vx es hx hr hl hB fun v' w' h1 h2 h3 => hK' _ _ (hK v' w' h1 h2 h3)
/-- boxes: a ring's, a mark's, a cell's -/
abbrev rgO (v : Value) (pa pb ga gb sn : Int) : Obj := .cells #[v, .int .i64 pa, .int .i64 pb, .int .i64 ga, .int .i64 gb, .int .i64 sn] 35
abbrev rgV (v : Value) (pa pb ga gb sn : Int) : Value := .agg #[v, .int .i64 pa, .int .i64 pb, .int .i64 ga, .int .i64 gb, .int .i64 sn]
abbrev mkO (a b : Int) : Obj := .cells #[.int .i64 a, .int .i64 b] 33
abbrev mkV (a b : Int) : Value := .agg #[.int .i64 a, .int .i64 b]
abbrev ceO (w b : Int) (l : Bool) : Obj := .cells #[.int .u64 w, .int .i64 b, .bool l] 91
abbrev ceV (w b : Int) (l : Bool) : Value := .agg #[.int .u64 w, .int .i64 b, .bool l]
theorem csetX {v : World} {R : Nat} {cs cs' : Array Value} {T : TypeId} (k : Nat) (x : Value) (h : v.heap[R]? = some (.cells cs T)) (hk : cs.setIfInBounds k x = cs') : (v.setCell ⟨R, k, none⟩ x).heap[R]? = some (.cells cs' T) := by
  rw [← hk]; exact heap_setCell_same v R k cs T x h
theorem box2 {u : World} {X : Nat} {x y : Value} {T : TypeId} (h : u.heap[X]? = some (.cells #[x, y] T)) :
    (X < u.heap.size ∧ u.cell? ⟨X, 0, none⟩ = some x ∧ u.cell? ⟨X, 1, none⟩ = some y) ∧ u.frozen? ⟨X, 0, none⟩ = false ∧ u.frozen? ⟨X, 1, none⟩ = false := by
  have hlt := (Array.getElem?_eq_some_iff.1 h).1
  have hf : ∀ i, u.frozen? ⟨X, i, none⟩ = false := fun i => frozen_of_row u X i _ _ h
  refine ⟨⟨hlt, ?_, ?_⟩, hf 0, hf 1⟩ <;> (rw [cell_of_row u X _ _ _ (0, 0) h]; rfl)
theorem box3 {u : World} {X : Nat} {x y z : Value} {T : TypeId} (h : u.heap[X]? = some (.cells #[x, y, z] T)) :
    (X < u.heap.size ∧ u.cell? ⟨X, 0, none⟩ = some x ∧ u.cell? ⟨X, 1, none⟩ = some y ∧ u.cell? ⟨X, 2, none⟩ = some z) ∧ u.frozen? ⟨X, 0, none⟩ = false ∧ u.frozen? ⟨X, 1, none⟩ = false ∧ u.frozen? ⟨X, 2, none⟩ = false := by
  have hlt := (Array.getElem?_eq_some_iff.1 h).1
  have hf : ∀ i, u.frozen? ⟨X, i, none⟩ = false := fun i => frozen_of_row u X i _ _ h
  refine ⟨⟨hlt, ?_, ?_, ?_⟩, hf 0, hf 1, hf 2⟩ <;> (rw [cell_of_row u X _ _ _ (0, 0) h]; rfl)
theorem box6 {u : World} {X : Nat} {v0 v1 v2 v3 v4 v5 : Value} {T : TypeId} (h : u.heap[X]? = some (.cells #[v0, v1, v2, v3, v4, v5] T)) :
    (X < u.heap.size ∧ u.cell? ⟨X, 0, none⟩ = some v0 ∧ u.cell? ⟨X, 1, none⟩ = some v1 ∧ u.cell? ⟨X, 2, none⟩ = some v2 ∧ u.cell? ⟨X, 3, none⟩ = some v3 ∧ u.cell? ⟨X, 4, none⟩ = some v4 ∧ u.cell? ⟨X, 5, none⟩ = some v5) ∧
    u.frozen? ⟨X, 0, none⟩ = false ∧ u.frozen? ⟨X, 1, none⟩ = false ∧ u.frozen? ⟨X, 2, none⟩ = false ∧ u.frozen? ⟨X, 3, none⟩ = false ∧ u.frozen? ⟨X, 4, none⟩ = false ∧ u.frozen? ⟨X, 5, none⟩ = false := by
  have hlt := (Array.getElem?_eq_some_iff.1 h).1
  have hf : ∀ i, u.frozen? ⟨X, i, none⟩ = false := fun i => frozen_of_row u X i _ _ h
  refine ⟨⟨hlt, ?_, ?_, ?_, ?_, ?_, ?_⟩, hf 0, hf 1, hf 2, hf 3, hf 4, hf 5⟩ <;> (rw [cell_of_row u X _ _ _ (0, 0) h]; rfl)
theorem put2 (u : World) (X : Nat) {x y : Value} {T : TypeId} (x' y' : Value) (hX : u.heap[X]? = some (.cells #[x, y] T)) :
    ∃ uf, (u.setCell ⟨X, 0, none⟩ x').setCell ⟨X, 1, none⟩ y' = uf ∧ uf.heap[X]? = some (.cells #[x', y'] T) ∧ (∀ (B : Nat) (w0 : World), B ≤ X → Below B w0 u → Below B w0 uf) ∧ (∀ k, k ≠ X → uf.heap[k]? = u.heap[k]?) ∧ uf.heap.size = u.heap.size := by
  refine ⟨_, rfl, csetX 1 _ (csetX 0 _ hX rfl) rfl, fun B w0 hB hb => (hb.setCell hB _).setCell hB _, fun k hk => ?_, by simp⟩
  rw [heap_setCell_other _ _ _ _ hk, heap_setCell_other _ _ _ _ hk]
theorem put3 (u : World) (X : Nat) {x y z : Value} {T : TypeId} (x' y' z' : Value) (hX : u.heap[X]? = some (.cells #[x, y, z] T)) :
    ∃ uf, ((u.setCell ⟨X, 0, none⟩ x').setCell ⟨X, 1, none⟩ y').setCell ⟨X, 2, none⟩ z' = uf ∧ uf.heap[X]? = some (.cells #[x', y', z'] T) ∧ (∀ (B : Nat) (w0 : World), B ≤ X → Below B w0 u → Below B w0 uf) ∧ (∀ k, k ≠ X → uf.heap[k]? = u.heap[k]?) ∧ uf.heap.size = u.heap.size := by
  refine ⟨_, rfl, csetX 2 _ (csetX 1 _ (csetX 0 _ hX rfl) rfl) rfl, fun B w0 hB hb => ((hb.setCell hB _).setCell hB _).setCell hB _, fun k hk => ?_, by simp⟩
  rw [heap_setCell_other _ _ _ _ hk, heap_setCell_other _ _ _ _ hk, heap_setCell_other _ _ _ _ hk]
theorem put6 (u : World) (X : Nat) {v0 v1 v2 v3 v4 v5 : Value} {T : TypeId} (x0 x1 x2 x3 x4 x5 : Value) (hX : u.heap[X]? = some (.cells #[v0, v1, v2, v3, v4, v5] T)) :
    ∃ uf, (((((u.setCell ⟨X, 0, none⟩ x0).setCell ⟨X, 1, none⟩ x1).setCell ⟨X, 2, none⟩ x2).setCell ⟨X, 3, none⟩ x3).setCell ⟨X, 4, none⟩ x4).setCell ⟨X, 5, none⟩ x5 = uf ∧ uf.heap[X]? = some (.cells #[x0, x1, x2, x3, x4, x5] T) ∧ (∀ (B : Nat) (w0 : World), B ≤ X → Below B w0 u → Below B w0 uf) ∧ (∀ k, k ≠ X → uf.heap[k]? = u.heap[k]?) ∧ uf.heap.size = u.heap.size := by
  refine ⟨_, rfl, csetX 5 _ (csetX 4 _ (csetX 3 _ (csetX 2 _ (csetX 1 _ (csetX 0 _ hX rfl) rfl) rfl) rfl) rfl) rfl, fun B w0 hB hb => (((((hb.setCell hB _).setCell hB _).setCell hB _).setCell hB _).setCell hB _).setCell hB _, fun k hk => ?_, by simp⟩
  rw [heap_setCell_other _ _ _ _ hk, heap_setCell_other _ _ _ _ hk, heap_setCell_other _ _ _ _ hk, heap_setCell_other _ _ _ _ hk, heap_setCell_other _ _ _ _ hk, heap_setCell_other _ _ _ _ hk]
theorem named (w : World) (o : Obj) : ∃ w0, w.alloc o = w0 ∧ w0.heap[w.heap.size]? = some o ∧ Below w.heap.size w w0 := ⟨_, rfl, (MapKept.heap_alloc w _).1, balloc _ _⟩
theorem laid2 (u : World) (T : TypeId) (x y x' y' : Value) : ∃ u1 uf, u.alloc (.cells #[x, y] T) = u1 ∧ (u1.setCell ⟨u.heap.size, 0, none⟩ x').setCell ⟨u.heap.size, 1, none⟩ y' = uf ∧
    u1.heap[u.heap.size]? = some (.cells #[x, y] T) ∧ uf.heap[u.heap.size]? = some (.cells #[x', y'] T) ∧ Below u.heap.size u uf := by
  obtain ⟨u1, hu1, hX1, hb1⟩ := named u (.cells #[x, y] T)
  obtain ⟨uf, huf, hXf, hBf, _, _⟩ := put2 u1 u.heap.size x' y' hX1
  exact ⟨u1, uf, hu1, huf, hX1, hXf, hBf _ _ (Nat.le_refl _) hb1⟩
theorem laid3 (u : World) (T : TypeId) (x y z x' y' z' : Value) : ∃ u1 uf, u.alloc (.cells #[x, y, z] T) = u1 ∧ ((u1.setCell ⟨u.heap.size, 0, none⟩ x').setCell ⟨u.heap.size, 1, none⟩ y').setCell ⟨u.heap.size, 2, none⟩ z' = uf ∧
    u1.heap[u.heap.size]? = some (.cells #[x, y, z] T) ∧ uf.heap[u.heap.size]? = some (.cells #[x', y', z'] T) ∧ Below u.heap.size u uf := by
  obtain ⟨u1, hu1, hX1, hb1⟩ := named u (.cells #[x, y, z] T)
  obtain ⟨uf, huf, hXf, hBf, _, _⟩ := put3 u1 u.heap.size x' y' z' hX1
  exact ⟨u1, uf, hu1, huf, hX1, hXf, hBf _ _ (Nat.le_refl _) hb1⟩
theorem laid6 (u : World) (T : TypeId) (v0 v1 v2 v3 v4 v5 x0 x1 x2 x3 x4 x5 : Value) : ∃ u1 uf, u.alloc (.cells #[v0, v1, v2, v3, v4, v5] T) = u1 ∧ (((((u1.setCell ⟨u.heap.size, 0, none⟩ x0).setCell ⟨u.heap.size, 1, none⟩ x1).setCell ⟨u.heap.size, 2, none⟩ x2).setCell ⟨u.heap.size, 3, none⟩ x3).setCell ⟨u.heap.size, 4, none⟩ x4).setCell ⟨u.heap.size, 5, none⟩ x5 = uf ∧
    u1.heap[u.heap.size]? = some (.cells #[v0, v1, v2, v3, v4, v5] T) ∧ uf.heap[u.heap.size]? = some (.cells #[x0, x1, x2, x3, x4, x5] T) ∧ Below u.heap.size u uf := by
  obtain ⟨u1, hu1, hX1, hb1⟩ := named u (.cells #[v0, v1, v2, v3, v4, v5] T)
  obtain ⟨uf, huf, hXf, hBf, _, _⟩ := put6 u1 u.heap.size x0 x1 x2 x3 x4 x5 hX1
  exact ⟨u1, uf, hu1, huf, hX1, hXf, hBf _ _ (Nat.le_refl _) hb1⟩
/-- all but the blocks X and g are as they were -/
structure Kq (X g : Nat) (w w' : World) : Prop where
  os : w'.os = w.os
  tape : w'.tape = w.tape
  output : w'.output = w.output
  size : w.heap.size ≤ w'.heap.size
  block : ∀ k, k < w.heap.size → k ≠ X → k ≠ g → w'.heap[k]? = w.heap[k]?
section
variable {X g : Nat} {w u v : World}
theorem Kq.refl (X g : Nat) (w : World) : Kq X g w w := ⟨rfl, rfl, rfl, Nat.le_refl _, fun _ _ _ _ => rfl⟩
theorem Kq.trans (h1 : Kq X g w u) (h2 : Kq X g u v) : Kq X g w v := ⟨h2.os.trans h1.os, h2.tape.trans h1.tape, h2.output.trans h1.output, Nat.le_trans h1.size h2.size, fun k hk a b => (h2.block k (Nat.lt_of_lt_of_le hk h1.size) a b).trans (h1.block k hk a b)⟩
theorem Kq.of_below (h : Below w.heap.size w u) : Kq X g w u := ⟨h.os, h.tape, h.output, h.size, fun k hk _ _ => h.block k hk⟩
theorem Kq.below {B : Nat} (h : Kq X g w u) (hX : B ≤ X) (hg : B ≤ g) (hB : B ≤ w.heap.size) : Below B w u := ⟨h.os, h.tape, h.output, h.size, fun k hk => h.block k (Nat.lt_of_lt_of_le hk hB) (by omega) (by omega)⟩
theorem Kq.setX (h : Kq X g w u) (k : Nat) (x : Value) : Kq X g w (u.setCell ⟨X, k, none⟩ x) :=
  ⟨h.os, h.tape, h.output, by have := h.size; simpa using this, fun i hi a b => (heap_setCell_other _ _ _ _ a).trans (h.block i hi a b)⟩
theorem Kq.setG (h : Kq X g w u) (k : Nat) (x : Value) : Kq X g w (u.setCell ⟨g, k, none⟩ x) :=
  ⟨h.os, h.tape, h.output, by have := h.size; simpa using this, fun i hi a b => (heap_setCell_other _ _ _ _ b).trans (h.block i hi a b)⟩
theorem Kq.keep {Y : Nat} {o : Obj} (h : Kq X g w u) (hY : w.heap[Y]? = some o) (hX : Y ≠ X) (hg : Y ≠ g) : u.heap[Y]? = some o := (h.block Y (Array.getElem?_eq_some_iff.1 hY).1 hX hg).trans hY
end
end Go.Proofs.Ythjmcopknkemnaa.ring
