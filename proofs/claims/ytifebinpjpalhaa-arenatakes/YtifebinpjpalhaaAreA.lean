/- arena: spans in memory: slices that are read, rows of one's own; boxes of an arena and of a span. -/
import Derived.Test.YtifebinpjpalhaaRows
import Derived.Test.YtifebinpjpalhaaAreM
import Derived.WalkKit
import Derived.Handy
import Derived.Below
import Derived.OwnWalk
import Derived.Laws.AppendOwn
import Derived.Laws.OwnMore
import Derived.Deep.AppendLies
import Derived.Deep.RegionLaw
import Derived.OneCell
import Derived.WalkSmall
import Derived.RegionTactic
import Derived.WalkLawsBesides
import Derived.Deep.Cut
import Derived.MapKept
import Derived.Lib.OwnKind
import Derived.Deep.Onto
namespace Go.Proofs.Ytifebinpjpalhaa.arena
open Go.RowKit
set_option linter.unusedVariables false
set_option linter.unusedSimpArgs false
set_option maxRecDepth 100000

theorem bsq {w w1 w2 : World} (h1 : Below w.heap.size w w1) (h2 : Below w1.heap.size w1 w2) : Below w.heap.size w w2 := h1.trans (h2.mono h1.size)
theorem balloc (w : World) (o : Obj) : Below w.heap.size w (w.alloc o) := (Below.refl _ _).alloc (Nat.le_refl _) _
theorem grown_below {w u : World} (hb : Below w.heap.size w u) : w.grownBy u none := ⟨hb.os, hb.tape, hb.output, hb.size, fun k hk _ => hb.block k hk⟩
theorem own_below {w u : World} {B : Nat} {e : TypeId} {s : Nat} {v : Value} {n : Nat} {xs : List Value} (h : w.ownsRow B e s v n xs) (hb : Below w.heap.size w u) : u.ownsRow B e s v n xs := by
  cases hv : v.ownBlock with
  | none => exact World.ownsRow.kept h (grown_below hb) (.inl hv)
  | some k => exact World.ownsRow.kept h (grown_below hb) (.inr (by rw [hv]; simp))
theorem own_block {w : World} {B : Nat} {e : TypeId} {s : Nat} {v : Value} {n : Nat} {xs : List Value} (h : w.ownsRow B e s v n xs) : ∀ k, v.ownBlock = some k → B ≤ k := fun k hk => (World.ownsRow.lt h k hk).1
theorem keep {w u : World} {X : Nat} {o : Obj} (h : w.heap[X]? = some o) (hb : Below w.heap.size w u) : u.heap[X]? = some o := (hb.block X (Array.getElem?_eq_some_iff.1 h).1).trans h
theorem box_ne {w : World} {B : Nat} {e T : TypeId} {s : Nat} {v : Value} {n : Nat} {xs : List Value} {X : Nat} {cs : Array Value} {fr : Nat × Nat} (h : w.ownsRow B e s v n xs) (hX : w.heap[X]? = some (.cells cs T fr)) (he : e ≠ T) : v.ownBlock ≠ some X := by
  intro q
  obtain ⟨c, fz, h1⟩ := Lib.ownsRow_kind h X q
  rw [hX] at h1
  injection h1 with h1
  injection h1 with _ h1 _
  exact he h1.symm
theorem below_drewN {B : Nat} {a w : World} (h : Below B a w) (n : Nat) : Below B a (w.drewN n) := ⟨h.os, h.tape, h.output, h.size, h.block⟩
theorem infoP : (Try.prog.info? 43).map (fun i => (i.zero, i.size, i.bytes)) = some (some (.agg #[.int .i64 0, .int .i64 0]), 2, 16) := by kernel_rfl
def pcell (x : Sp) : List Value := [.int .i64 x.1, .int .i64 x.2]
def pcells (L : List Sp) : List Value := L.flatMap pcell
theorem pcells_cons (x : Sp) (r : List Sp) : pcells (x :: r) = .int .i64 x.1 :: .int .i64 x.2 :: pcells r := rfl
theorem pcells_length (L : List Sp) : (pcells L).length = L.length * 2 := by
  induction L with
  | nil => rfl
  | cons x r ih => rw [pcells_cons, List.length_cons, List.length_cons, ih, List.length_cons]; omega
theorem pcells_append (a b : List Sp) : pcells (a ++ b) = pcells a ++ pcells b := by simp [pcells]
theorem pcells_at : ∀ (L : List Sp) (j : Nat) (x : Sp), L[j]? = some x → (pcells L)[j * 2]? = some (.int .i64 x.1) ∧ (pcells L)[j * 2 + 1]? = some (.int .i64 x.2)
  | [], j, x, h => by simp at h
  | y :: r, 0, x, h => by simp at h; subst h; exact ⟨rfl, rfl⟩
  | y :: r, j + 1, x, h => by
    have := pcells_at r j x (by simpa using h)
    rw [pcells_cons, show (j + 1) * 2 = j * 2 + 1 + 1 by omega]
    exact this
theorem pcells_one (L : List Sp) : ∀ u ∈ pcells L, u.oneCell' = true := by
  intro u hu
  obtain ⟨x, _, hu⟩ := List.mem_flatMap.1 hu
  simp only [pcell, List.mem_cons, List.not_mem_nil, or_false] at hu
  rcases hu with rfl | rfl <;> rfl
/-- numbers of int -/
def Inr (L : List Sp) : Prop := ∀ x ∈ L, (-9223372036854775808 ≤ x.1 ∧ x.1 ≤ 9223372036854775807) ∧ -9223372036854775808 ≤ x.2 ∧ x.2 ≤ 9223372036854775807
theorem inr_row {z f : Int} {L : List Sp} (h : rowB z f L = true) (hf : 0 ≤ f) (hz : z ≤ 65536) : Inr L := fun x hx => by
  have := row_mem h hx
  omega
theorem inr_chk {a : Ar} (h : chk a = 0) : Inr a.L := inr_row (chk_ok h).2.2.2 (Int.le_refl _) (chk_ok h).2.1
/-- the value v owns these spans, in a block from B on -/
def Sps (w : World) (B : Nat) (v : Value) (L : List Sp) : Prop := w.ownsRow B 43 2 v L.length (pcells L)
theorem Sps.nil (w : World) (B : Nat) : Sps w B (.slice none 0 0) [] := ⟨rfl, .inl ⟨rfl, rfl⟩⟩
theorem Sps.below {w u : World} {B : Nat} {v : Value} {L : List Sp} (h : Sps w B v L) (hb : Below w.heap.size w u) : Sps u B v L := own_below h hb
theorem Sps.mono {w : World} {B B' : Nat} {v : Value} {L : List Sp} (h : Sps w B v L) (hb : B' ≤ B) : Sps w B' v L := World.ownsRow.mono h hb
theorem Sps.form {w : World} {B : Nat} {v : Value} {L : List Sp} (h : Sps w B v L) : ∃ a c, v = .slice a L.length c ∧ L.length ≤ c ∧ c ≤ maxLen := by
  rcases h.2 with ⟨rfl, h0⟩ | ⟨g, cap, cur, rfl, hb, hg, hn, hm, _⟩
  · exact ⟨none, 0, by rw [h0], by omega, Nat.zero_le _⟩
  · exact ⟨_, _, rfl, hn, hm⟩
/-- a slice that reads as these spans -/
def Rss (w : World) (v : Value) (L : List Sp) : Prop :=
  ∃ a c, v = .slice a L.length c ∧ L.length ≤ c ∧ c ≤ maxLen ∧ (0 < L.length → ∃ g off, a = some ⟨g, off, none⟩ ∧ g < w.heap.size ∧ ∀ j x, L[j]? = some x → w.cell? ⟨g, off + j * 2, none⟩ = some (.int .i64 x.1) ∧ w.cell? ⟨g, off + j * 2 + 1, none⟩ = some (.int .i64 x.2))
theorem Rss.nil (w : World) : Rss w (.slice none 0 0) [] := ⟨none, 0, rfl, Nat.le_refl _, Nat.zero_le _, fun h => by simp at h⟩
theorem Rss.below {w u : World} {v : Value} {L : List Sp} (h : Rss w v L) (hb : Below w.heap.size w u) : Rss u v L := by
  obtain ⟨a, c, hv, h1, h2, h4⟩ := h
  refine ⟨a, c, hv, h1, h2, fun hn => ?_⟩
  obtain ⟨g, off, ha, hg, hc⟩ := h4 hn
  exact ⟨g, off, ha, Nat.lt_of_lt_of_le hg hb.size, fun j x hx => ⟨(hb.cell (p := ⟨g, off + j * 2, none⟩) hg).trans (hc j x hx).1, (hb.cell (p := ⟨g, off + j * 2 + 1, none⟩) hg).trans (hc j x hx).2⟩⟩
theorem Rss.form {w : World} {v : Value} {L : List Sp} (h : Rss w v L) : ∃ a c, v = .slice a L.length c ∧ L.length ≤ c ∧ c ≤ maxLen := by
  obtain ⟨a, c, h, h1, h2, _⟩ := h; exact ⟨_, _, h, h1, h2⟩
/-- one of them -/
theorem Rss.at {w : World} {a : Option Addr} {n c : Nat} {L : List Sp} (h : Rss w (.slice a n c) L) (k : Nat) (x : Sp) (hk : L[k]? = some x) : ∃ g off, a = some ⟨g, off, none⟩ ∧ ∀ u, Below w.heap.size w u → u.cell? ⟨g, off + k * 2, none⟩ = some (.int .i64 x.1) ∧ u.cell? ⟨g, off + k * 2 + 1, none⟩ = some (.int .i64 x.2) := by
  obtain ⟨a', c', hv, h1, h2, h4⟩ := h
  have hl := (List.getElem?_eq_some_iff.1 hk).1
  obtain ⟨g, off, ha, hg, hc⟩ := h4 (by omega)
  have : a = a' := by injection hv
  exact ⟨g, off, this.trans ha, fun u hu => ⟨(hu.cell (p := ⟨g, off + k * 2, none⟩) hg).trans (hc k x hk).1, (hu.cell (p := ⟨g, off + k * 2 + 1, none⟩) hg).trans (hc k x hk).2⟩⟩
theorem Sps.rss {w : World} {B : Nat} {v : Value} {L : List Sp} (h : Sps w B v L) : Rss w v L := by
  have h' := h
  rcases h.2 with ⟨rfl, h0⟩ | ⟨g, cap, cur, rfl, hB, hg, hnc, hcm, hs, ht⟩
  · rw [List.eq_nil_of_length_eq_zero h0]; exact Rss.nil _
  · refine ⟨_, cap, rfl, hnc, hcm, fun _ => ⟨g, 0, rfl, (Array.getElem?_eq_some_iff.1 hg).1, fun j x hx => ?_⟩⟩
    have hj := (List.getElem?_eq_some_iff.1 hx).1
    rw [Nat.zero_add, World.ownsRow.cellAt h' (j * 2) (by omega), World.ownsRow.cellAt h' (j * 2 + 1) (by omega)]
    exact pcells_at L j x hx
/-- what it is from k on, and up to k -/
theorem Rss.from {w : World} {a : Option Addr} {n c : Nat} {T : List Sp} (h : Rss w (.slice a n c) T) (k : Nat) (hk : k ≤ n) :
    ∃ a1, (∀ W : World, (Instr.slice 22 (.slice a n c) (some (.int .i64 (k : Int))) none none).run Try.prog W = .ok (.slice a1 (n - k) (c - k)) W) ∧ Rss w (.slice a1 (n - k) (c - k)) (T.drop k) := by
  obtain ⟨a', c', hv, h1, h2, h4⟩ := h
  injection hv with e1 e2 e3
  subst e1 e2 e3
  refine ⟨if c = k then a else a.map (·.add (k * 2)), fun W => ?_, if c = k then a else a.map (·.add (k * 2)), c - k, by rw [List.length_drop], by rw [List.length_drop]; omega, by omega, fun hn => ?_⟩
  · have := run_slice_l (P := Try.prog) (w := W) 22 a T.length c Try.underlying22 .i64 (k : Int) (by omega) (by omega)
    simp [this, go_sem, sliced]
  · rw [List.length_drop] at hn
    obtain ⟨g, off, rfl, hg, hc⟩ := h4 (by omega)
    refine ⟨g, off + k * 2, by rw [if_neg (by omega)]; simp [Addr.add_lit], hg, fun j x hx => ?_⟩
    rw [List.getElem?_drop] at hx
    rw [show off + k * 2 + j * 2 = off + (k + j) * 2 by omega]
    exact hc _ x hx
theorem Rss.upto {w : World} {a : Option Addr} {n c : Nat} {T : List Sp} (h : Rss w (.slice a n c) T) (k : Nat) (hk : k ≤ n) :
    (∀ W : World, (Instr.slice 22 (.slice a n c) none (some (.int .i64 (k : Int))) none).run Try.prog W = .ok (.slice a k c) W) ∧ Rss w (.slice a k c) (T.take k) := by
  obtain ⟨a', c', hv, h1, h2, h4⟩ := h
  injection hv with e1 e2 e3
  subst e1 e2 e3
  have hl : (T.take k).length = k := by rw [List.length_take, Nat.min_eq_left hk]
  refine ⟨fun W => ?_, a, c, by rw [hl], by omega, h2, fun hn => ?_⟩
  · have := run_slice_h (P := Try.prog) (w := W) 22 a T.length c Try.underlying22 .i64 (k : Int) (by omega) (by omega)
    simp [this, go_sem, sliced, Addr.add]
    try (intro _; cases a <;> simp [Addr.add])
  · obtain ⟨g, off, rfl, hg, hc⟩ := h4 (by omega)
    refine ⟨g, off, rfl, hg, fun j x hx => hc j x ?_⟩
    have hj := (List.getElem?_eq_some_iff.1 hx).1
    rw [List.getElem?_take, if_pos (by omega)] at hx
    exact hx
/-- spans that were laid down -/
theorem rss_laid (w : World) (L : List Sp) (h : L.length ≤ 1000) : Rss (w.alloc (.cells (pcells L).toArray 43)) (.slice (some ⟨w.heap.size, 0, none⟩) L.length L.length) L := by
  refine ⟨_, _, rfl, Nat.le_refl _, by unfold maxLen; omega, fun _ => ⟨_, _, rfl, by simp, fun j x hx => ?_⟩⟩
  rw [Nat.zero_add, cell_of_row _ _ _ _ _ (0, 0) (MapKept.heap_alloc w _).1, cell_of_row _ _ _ _ _ (0, 0) (MapKept.heap_alloc w _).1]
  have := pcells_at L j x hx
  simpa using this
theorem run_append_nothing {P : Program} {w : World} (base : Nat) (t ty e : TypeId) (i : TypeInfo) (size : Nat) (ht : P.underlying t = some (.slice e)) (hi : P.info? e = some i)
    (v : Value) (n : Nat) (xs : List Value) (hown : w.ownsRow base e size v n xs) (c : Nat) : (Builtin.append_ #[t, t] ty #[v, .slice none 0 c]).run P w = .ok v w := by
  rcases hown.2 with ⟨rfl, rfl⟩ | ⟨g, cap, cur, rfl, _, _, hnc, _⟩
  · simp [Builtin.append_, run_underlying ht, sizeOf, typeInfo, hi, Builtin.lenOf, Builtin.firstCells]
  · simp [Builtin.append_, run_underlying ht, sizeOf, typeInfo, hi, Builtin.lenOf, Builtin.firstCells, hnc, storeCells]
/-- spans behind spans -/
theorem wp_sps {o : Oper} {a : Act} {w : World} {K : Act → World → Prop} {Q : Exit → Act → World → Prop} (s x : Operand)
    (ho : o.op = .call { callee := .builtin .append, args := #[s, x], argTypes := #[22, 22] }) (B : Nat) (v : Value) (acc : List Sp) (hs : a.eval s = v) (h : Sps w B v acc)
    (vx : Value) (es : List Sp) (hx : a.eval x = vx) (hr : Rss w vx es) (hl : acc.length + es.length ≤ 8796093021952) (hB : B ≤ w.heap.size)
    (hK : ∀ v' w', Sps w' B v' (acc ++ es) → w.grownBy w' v.ownBlock → Below B w w' → K (a.put o.dst v') w') : o.wp Try.prog a w K Q := by
  obtain ⟨i0, hi, hz0, hz1, hz2⟩ := info_parts infoP
  obtain ⟨ax, cx, rfl, h1, h2, h4⟩ := hr
  cases ax with
  | none =>
    have h0 : es.length = 0 := by
      rcases Nat.eq_zero_or_pos es.length with q | q
      · exact q
      · obtain ⟨g, off, q1, _⟩ := h4 q; cases q1
    have hes : es = [] := List.eq_nil_of_length_eq_zero h0
    subst hes
    have hrun := run_append_nothing (P := Try.prog) (w := w) B 22 o.type 43 i0 2 Try.underlying22 hi v acc.length (pcells acc) h cx
    simp only [List.length_nil] at hx
    have hk := hK v w (by rw [List.append_nil]; exact h) (World.grownBy.refl _ _) (Below.refl _ _)
    unfold Oper.wp
    simp [execOp, ho, resolve, invoke, builtin, hs, hx, hrun, Result.andThen]
    exact hk
  | some ad =>
    refine wp_append_own w s x 22 ho B 43 i0 _ 2 16 Try.underlying22 hi hz0 hz1 hz2 rfl (by omega) v acc.length (pcells acc) hs h ad es.length cx (pcells es) hx (pcells_length es) ?_ (pcells_one es) (by unfold maxLen; omega) (by omega) hB ?_
    · intro j u hj
      have hlt := (List.getElem?_eq_some_iff.1 hj).1
      rw [pcells_length] at hlt
      obtain ⟨g, off, q1, hg, hc⟩ := h4 (by omega)
      injection q1 with q1
      subst q1
      rw [Addr.add_lit]
      have hj2 : j / 2 < es.length := by omega
      have hp := pcells_at es (j / 2) es[j / 2] (List.getElem?_eq_getElem hj2)
      have hq := hc (j / 2) es[j / 2] (List.getElem?_eq_getElem hj2)
      rcases (by omega : j = j / 2 * 2 ∨ j = j / 2 * 2 + 1) with q | q
      · rw [q] at hj ⊢
        rw [hp.1] at hj
        injection hj with hj
        rw [← hj]; exact hq.1
      · rw [q] at hj ⊢
        rw [hp.2] at hj
        injection hj with hj
        rw [← hj]; exact hq.2
    · intro v' w' h1 h2 _
      refine hK v' w' ?_ h2 ((Below.refl _ _).grown h2 hB (own_block h))
      unfold Sps
      rw [List.length_append, pcells_append]
      exact h1
theorem wpList_sps {ops : Array Oper} {rest : List Oper} {o : Oper} {a : Act} {Q : Exit → Act → World → Prop} (w : World) (hgd : o.guard = none) (s x : Operand)
    (ho : o.op = .call { callee := .builtin .append, args := #[s, x], argTypes := #[22, 22] }) (B : Nat) (v : Value) (acc : List Sp) (hs : a.eval s = v) (h : Sps w B v acc)
    (vx : Value) (es : List Sp) (hx : a.eval x = vx) (hr : Rss w vx es) (hl : acc.length + es.length ≤ 8796093021952) (hB : B ≤ w.heap.size)
    (hK : ∀ v' w', Sps w' B v' (acc ++ es) → w.grownBy w' v.ownBlock → Below B w w' → wpList Try.prog ops Q rest (a.put o.dst v') w') : wpList Try.prog ops Q (o :: rest) a w :=
  wpList_plain hgd fun _ hK' => wp_sps s x ho B v acc hs h vx es hx hr hl hB fun v' w' h1 h2 h3 => hK' _ _ (hK v' w' h1 h2 h3)
/-- an arena's box, a span's box -/
abbrev arO (z : Int) (v : Value) : Obj := .cells #[.int .i64 z, v] 24
abbrev arV (z : Int) (v : Value) : Value := .agg #[.int .i64 z, v]
abbrev spO (p s : Int) : Obj := .cells #[.int .i64 p, .int .i64 s] 43
abbrev spV (p s : Int) : Value := .agg #[.int .i64 p, .int .i64 s]
theorem csetX {v : World} {R : Nat} {cs cs' : Array Value} {T : TypeId} (k : Nat) (x : Value) (h : v.heap[R]? = some (.cells cs T)) (hk : cs.setIfInBounds k x = cs') : (v.setCell ⟨R, k, none⟩ x).heap[R]? = some (.cells cs' T) := by
  rw [← hk]; exact heap_setCell_same v R k cs T x h
theorem boxC {u : World} {X : Nat} {x y : Value} {T : TypeId} (h : u.heap[X]? = some (.cells #[x, y] T)) :
    (X < u.heap.size ∧ u.cell? ⟨X, 0, none⟩ = some x ∧ u.cell? ⟨X, 1, none⟩ = some y) ∧ u.frozen? ⟨X, 0, none⟩ = false ∧ u.frozen? ⟨X, 1, none⟩ = false := by
  have hlt := (Array.getElem?_eq_some_iff.1 h).1
  have hf : ∀ i, u.frozen? ⟨X, i, none⟩ = false := fun i => frozen_of_row u X i _ _ h
  refine ⟨⟨hlt, ?_, ?_⟩, hf 0, hf 1⟩ <;> (rw [cell_of_row u X _ _ _ (0, 0) h]; rfl)
theorem put2 (u : World) (X : Nat) {x y : Value} {T : TypeId} (x' y' : Value) (hX : u.heap[X]? = some (.cells #[x, y] T)) :
    ∃ uf, (u.setCell ⟨X, 0, none⟩ x').setCell ⟨X, 1, none⟩ y' = uf ∧ uf.heap[X]? = some (.cells #[x', y'] T) ∧ (∀ (B : Nat) (w0 : World), B ≤ X → Below B w0 u → Below B w0 uf) ∧ (∀ k, k ≠ X → uf.heap[k]? = u.heap[k]?) ∧ uf.heap.size = u.heap.size := by
  refine ⟨_, rfl, csetX 1 _ (csetX 0 _ hX rfl) rfl, fun B w0 hB hb => (hb.setCell hB _).setCell hB _, fun k hk => ?_, by simp⟩
  rw [heap_setCell_other _ _ _ _ hk, heap_setCell_other _ _ _ _ hk]
theorem named (w : World) (o : Obj) : ∃ w0, w.alloc o = w0 ∧ w0.heap[w.heap.size]? = some o ∧ Below w.heap.size w w0 := ⟨_, rfl, (MapKept.heap_alloc w _).1, balloc _ _⟩
/-- two cells that were told, in a place of their own -/
theorem laid2 (u : World) (T : TypeId) (x y x' y' : Value) : ∃ u1 uf, u.alloc (.cells #[x, y] T) = u1 ∧ (u1.setCell ⟨u.heap.size, 0, none⟩ x').setCell ⟨u.heap.size, 1, none⟩ y' = uf ∧
    u1.heap[u.heap.size]? = some (.cells #[x, y] T) ∧ uf.heap[u.heap.size]? = some (.cells #[x', y'] T) ∧ Below u.heap.size u uf := by
  obtain ⟨u1, hu1, hX1, hb1⟩ := named u (.cells #[x, y] T)
  obtain ⟨uf, huf, hXf, hBf, _, _⟩ := put2 u1 u.heap.size x' y' hX1
  exact ⟨u1, uf, hu1, huf, hX1, hXf, hBf _ _ (Nat.le_refl _) hb1⟩
end Go.Proofs.Ytifebinpjpalhaa.arena
