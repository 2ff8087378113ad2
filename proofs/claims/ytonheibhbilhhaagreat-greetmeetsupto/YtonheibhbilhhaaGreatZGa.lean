/- greet: the plain mathematics: a greeting, what it asks, what it keeps of an answer. -/
import Derived.Test.YtonheibhbilhhaaGreatZBc
import Derived.Test.YtonheibhbilhhaaGreatDescZ
import Derived.Test.YtonheibhbilhhaaGreatZAc
import Derived.Test.YtonheibhbilhhaaGreatZAj
import Derived.Test.YtonheibhbilhhaaGreatRows
import Derived.WalkKit
import Derived.Handy
import Derived.Below
import Derived.OneCell
import Derived.WalkSmall
import Derived.RegionTactic
import Derived.BigRegion
import Derived.Deep.Cut
import Derived.Deep.CutRange
import Derived.Deep.MidRow
import Derived.MapKept
import Derived.OrdersHeld
import Derived.Laws.MakeOwn
namespace Go.Proofs.YtonheibhbilhhaaGreat.greet
open Go Go.RowKit Go.PlainAid Go.Proofs.YtonheibhbilhhaaGreat.lane Go.Proofs.YtonheibhbilhhaaGreat.desc
open Go.Proofs.YtonheibhbilhhaaGreat.setup (inS inS_iff wrT wrC good txt)
set_option linter.unusedVariables false
structure Gr where
 st : Int
 tr : Int
 ad : Int
 m0 : Int
 tot : Int
 d : Dv
 c : Cf
 sr : ByteArray
 er : Int
def noGr : Gr := ⟨0, 0, 0, 0, 0, noD, noC, ⟨#[]⟩, 0⟩
def nwG (a : Int) : Gr := { noGr with st := 1, ad := a }
def adB (a : Int) : Bool := inS 1 127 a
def byB (a : Int) : Bool := inS 0 255 a
def okG (g : Gr) : Bool := inS 1 9 g.st && (inS 0 2 g.tr && (inS 1 127 g.ad && (inS 0 512 g.tot && (inS 0 255 g.d.se && inS 0 255 g.c.va))))
theorem okG_iff (g : Gr) : okG g = true ↔ (1 ≤ g.st ∧ g.st ≤ 9) ∧ (0 ≤ g.tr ∧ g.tr ≤ 2) ∧ (1 ≤ g.ad ∧ g.ad ≤ 127) ∧ (0 ≤ g.tot ∧ g.tot ≤ 512) ∧ (0 ≤ g.d.se ∧ g.d.se ≤ 255) ∧ (0 ≤ g.c.va ∧ g.c.va ≤ 255) := by
 simp [okG, inS]
def askK (g : Gr) : Int := if g.st = 2 then 4 else if g.st = 7 then 6 else 5
def askV (g : Gr) : Int := if g.st = 1 then 256 else if g.st = 2 then g.ad else if g.st = 3 then 256 else if g.st = 4 then 512 else if g.st = 5 then 512 else if g.st = 6 then 768 + g.d.se else g.c.va
def askL (g : Gr) : Int := if g.st = 1 then 8 else if g.st = 3 then 18 else if g.st = 4 then 9 else if g.st = 5 then g.tot else if g.st = 6 then 255 else 0
theorem st_seven {g : Gr} (h : okG g = true) (h8 : ¬ 8 ≤ g.st) : g.st = 1 ∨ g.st = 2 ∨ g.st = 3 ∨ g.st = 4 ∨ g.st = 5 ∨ g.st = 6 ∨ g.st = 7 := by
 have := (okG_iff g).1 h
 omega
theorem ask_good {g : Gr} (h : okG g = true) (h8 : ¬ 8 ≤ g.st) : good (askK g) (askV g) 0 (askL g) = true := by
 obtain ⟨_, _, h1, h2, h3, h4⟩ := (okG_iff g).1 h
 rcases st_seven h h8 with e | e | e | e | e | e | e <;>
 ·simp [good, setup.isK, setup.fitB, setup.te, setup.col, setup.row, askK, askV, askL, e, inS]
  try omega
def nxE (g : Gr) : Int := if okG g = false then 1 else if 8 ≤ g.st then 12 else 0
def nxT (g : Gr) : ByteArray := if okG g = false then ⟨#[]⟩ else if 8 ≤ g.st then ⟨#[]⟩ else wrT (askK g) (askV g) 0 (askL g)
def w2 (s : ByteArray) : Int := bt s 2 + 256 * bt s 3
def rcO (s : ByteArray) : Option Cf :=
 if splC (nums s) = 0 then (match confO (splitL (nums s)).2 with | some c => if chkC c = 0 ∧ confL c = nums s then some c else none | none => none) else none
theorem rcO_some {s : ByteArray} {c : Cf} (h : splC (nums s) = 0) (hc : isT (nums s) c) : rcO s = some c := by
 unfold rcO
 rw [if_pos h, isT_conf hc]
 exact if_pos hc
theorem rcO_is {s : ByteArray} {c : Cf} (h : rcO s = some c) : splC (nums s) = 0 ∧ isT (nums s) c := by
 unfold rcO at h
 split at h
 ·rename_i h1
  split at h
  ·split at h
   ·rename_i h2; injection h with h; subst h; exact ⟨h1, h2⟩
   ·cases h
  ·cases h
 ·cases h
theorem rcO_none {s : ByteArray} (h : splC (nums s) ≠ 0 ∨ ∀ c, ¬ isT (nums s) c) : rcO s = none := by
 cases q : rcO s with
 | none => rfl
 | some c =>
  obtain ⟨h1, h2⟩ := rcO_is q
  rcases h with h | h
  ·exact absurd h1 h
  ·exact absurd h2 (h c)
def hdD (s : ByteArray) : Bool := decide (s.size = 8) && (bt s 0 == 18 && (bt s 1 == 1 && m0B (bt s 7)))
def hdC (s : ByteArray) : Bool := decide (s.size = 9) && (bt s 0 == 9 && (bt s 1 == 2 && inS 9 512 (w2 s)))
def okD (s : ByteArray) (m : Int) : Bool := rdE s == 0 && ((rdD s).m0 == m && (rdD s).cf == 1)
def keepV (g : Gr) (s : ByteArray) : Option Gr :=
 if g.st = 1 then (if hdD s = true then some { g with m0 := bt s 7 } else none)
 else if g.st = 3 then (if okD s g.m0 = true then some { g with d := rdD s } else none)
 else if g.st = 4 then (if hdC s = true then some { g with tot := w2 s } else none)
 else if g.st = 5 then (match rcO s with | some c => if (s.size : Int) = g.tot then some { g with c := c } else none | none => none)
 else if g.st = 6 then (if rdC s = 0 then some { g with sr := rdT s } else none)
 else if s.size = 0 then some g else none
def stepB (g : Gr) : Int := if g.st = 5 ∧ g.d.se = 0 then 7 else g.st + 1
def missG (g : Gr) (e : Int) : Gr := if g.tr = 2 then { g with tr := 0, st := 9, er := e } else { g with tr := g.tr + 1 }
def tlG (g : Gr) (s : ByteArray) (e : Int) : Gr :=
 if nxE g ≠ 0 then g else if e ≠ 0 then missG g e else match keepV g s with | none => missG g 4 | some k => { k with tr := 0, st := stepB k }
structure Wt (c : Cf) : Prop where
 fs : c.fs.length * 80 ≤ 140737488351232
 each : ∀ f ∈ c.fs, f.ex.length * 16 ≤ 140737488351232 ∧ f.en.length * 40 ≤ 140737488351232
theorem wt_ok {c : Cf} (h : chkC c = 0) : Wt c := by
 have hc := chkC_ok h
 refine ⟨?_, fun f hf => ?_⟩
 ·have := hc.len; omega
 ·have h1 := (hc.fs f hf).exl
  have h2 := (hc.fs f hf).enl
  omega
theorem keep_c {g k : Gr} {s : ByteArray} (h : keepV g s = some k) : k.c = g.c ∨ ∃ c, rcO s = some c ∧ k.c = c := by
 unfold keepV at h
 split at h
 ·split at h
  ·injection h with h; subst h; exact .inl rfl
  ·cases h
 split at h
 ·split at h
  ·injection h with h; subst h; exact .inl rfl
  ·cases h
 split at h
 ·split at h
  ·injection h with h; subst h; exact .inl rfl
  ·cases h
 split at h
 ·split at h
  ·rename_i c hc
   split at h
   ·injection h with h; subst h; exact .inr ⟨c, hc, rfl⟩
   ·cases h
  ·cases h
 split at h
 ·split at h
  ·injection h with h; subst h; exact .inl rfl
  ·cases h
 split at h
 ·injection h with h; subst h; exact .inl rfl
 ·cases h
theorem miss_c (g : Gr) (e : Int) : (missG g e).c = g.c := by unfold missG; split <;> rfl
theorem wt_tl {g : Gr} (h : Wt g.c) (s : ByteArray) (e : Int) : Wt (tlG g s e).c := by
 unfold tlG
 split
 ·exact h
 split
 ·rw [miss_c]; exact h
 split
 ·rw [miss_c]; exact h
 ·rename_i k hk
  show Wt k.c
  rcases keep_c hk with e | ⟨c, h1, e⟩
  ·rw [e]; exact h
  ·rw [e]; exact wt_ok (rcO_is h1).2.1
end Go.Proofs.YtonheibhbilhhaaGreat.greet
namespace Go.Proofs.YtonheibhbilhhaaGreat.greet
open Go Go.RowKit Go.Proofs.YtonheibhbilhhaaGreat.desc Go.Proofs.YtonheibhbilhhaaGreat.lane
set_option linter.unusedVariables false
set_option linter.unusedSimpArgs false
set_option maxRecDepth 100000
theorem keep {w u : World} {X : Nat} {o : Obj} (h : w.heap[X]? = some o) (hb : Below w.heap.size w u) : u.heap[X]? = some o := (hb.block X (Array.getElem?_eq_some_iff.1 h).1).trans h
def ag (l : List Value) : Value := .agg l.toArray
def bx (T : TypeId) (l : List Value) : Obj := .cells l.toArray T (0, 0)
def ivs (l : List Int) : List Value := l.map (Value.int .i64)
theorem bx_cell {w : World} {B j : Nat} {T : TypeId} {l : List Value} {x : Value} (h : w.heap[B]? = some (bx T l)) (hx : l[j]? = some x) : w.cell? ⟨B, j, none⟩ = some x := by
 rw [cell_of_row w B j _ _ (0, 0) h]; simpa using hx
theorem bx_free {w : World} {B : Nat} {T : TypeId} {l : List Value} (h : w.heap[B]? = some (bx T l)) (j : Nat) : w.frozen? ⟨B, j, none⟩ = false := frozen_of_row w B j _ _ h
theorem bx_lt {w : World} {B : Nat} {o : Obj} (h : w.heap[B]? = some o) : B < w.heap.size := (Array.getElem?_eq_some_iff.1 h).1
structure Chg (B : Nat) (w u : World) : Prop where
 size : u.heap.size = w.heap.size
 other : ∀ X, X ≠ B → u.heap[X]? = w.heap[X]?
 below : ∀ (b : Nat) (w0 : World), b ≤ B → Below b w0 w → Below b w0 u
theorem Chg.refl (B : Nat) (w : World) : Chg B w w := ⟨rfl, fun _ _ => rfl, fun _ _ _ h => h⟩
theorem Chg.trans {B : Nat} {w u v : World} (h : Chg B w u) (g : Chg B u v) : Chg B w v := ⟨g.size.trans h.size, fun X hX => (g.other X hX).trans (h.other X hX), fun b w0 hb q => g.below b w0 hb (h.below b w0 hb q)⟩
theorem Chg.drew {B : Nat} {w u : World} (h : Chg B w u) : Chg B w u.drew := ⟨h.size, h.other, fun b w0 hb q => (h.below b w0 hb q).drew⟩
theorem setRow_chg {w : World} {B : Nat} {T : TypeId} {l : List Value} (cs : Array Value) (h : w.heap[B]? = some (bx T l)) : Chg B w (w.setRow B cs) where
 size := by simp
 other := fun X hX => setRow_other w B X cs hX
 below := fun b w0 hb h => ⟨h.os, h.tape, h.output, by simp; exact h.size, fun X hX => (setRow_other w B X cs (by omega)).trans (h.block X hX)⟩
theorem set_bx {w : World} {B j : Nat} {T : TypeId} {l : List Value} {x : Value} (h : w.heap[B]? = some (bx T l)) : (w.setCell ⟨B, j, none⟩ x).heap[B]? = some (bx T (l.set j x)) ∧ Chg B w (w.setCell ⟨B, j, none⟩ x) := by
 have e : (w.setCell ⟨B, j, none⟩ x) = w.setRow B (l.set j x).toArray := by
  rw [setCell_eq_setRow w B j _ T (0, 0) _ h]; simp
 rw [e]
 exact ⟨setRow_heap w B _ _ T _ h, setRow_chg _ h⟩
structure Vs (l : List Value) (n : Nat) : Prop where
 len : l.length = n
 one : ∀ v ∈ l, v.oneCell' = true
def cut (l : List Value) (k n : Nat) : List Value := (l.drop k).take n
theorem cut_all {l : List Value} {n : Nat} (h : l.length = n) : cut l 0 n = l := by unfold cut; rw [List.drop_zero, List.take_of_length_le (by omega)]
def putL (l : List Value) (k : Nat) (r : List Value) : List Value := l.take k ++ r ++ l.drop (k + r.length)
theorem putL_all {l r : List Value} (h : r.length = l.length) : putL l 0 r = r := by unfold putL; rw [List.take_zero, List.nil_append, List.drop_eq_nil_of_le (by omega), List.append_nil]
theorem bx_range {w : World} {B k n : Nat} {T : TypeId} {l : List Value} (h : w.heap[B]? = some (bx T l)) : w.rangeAt B k (cut l k n) := fun j v hv => by
 unfold cut at hv
 rw [List.getElem?_take] at hv
 split at hv
 ·rw [List.getElem?_drop] at hv
  exact bx_cell h hv
 ·simp at hv
theorem cut_length {l : List Value} {k n : Nat} (h : k + n ≤ l.length) : (cut l k n).length = n := by simp [cut]; omega
structure Row (t : TypeId) (n : Nat) : Prop where
 ex : ∃ d, Tryz.prog.underlying t = some d ∧ d.isRow = true ∧ (Tryz.prog.info? t).map (·.size) = some n
theorem run_loadv {w : World} {B k n : Nat} {T t : TypeId} {l : List Value} (hT : Row t n) (h : w.heap[B]? = some (bx T l)) (hle : k + n ≤ l.length) :
  (Instr.loadAt t (.pointer (some ⟨B, k, none⟩))).run Tryz.prog w = .ok (ag (cut l k n)) w := by
 obtain ⟨d, h1, h2, h3⟩ := hT.ex
 exact run_loadAt_mid w B k t _ d (bx_range (n := n) h) h1 h2 (by rw [h3]; exact congrArg some (cut_length hle).symm)
theorem run_storev {w : World} {B k n : Nat} {T t : TypeId} {l r : List Value} (hT : Row t n) (h : w.heap[B]? = some (bx T l)) (hr : Vs r n) (hle : k + n ≤ l.length) :
  (Instr.storeAt t (.pointer (some ⟨B, k, none⟩)) (ag r)).run Tryz.prog w = .ok () (w.setRow B (putL l k r).toArray) := by
 obtain ⟨d, h1, h2, h3⟩ := hT.ex
 have hst := run_storeCells_at Tryz.prog B k T r 0 l.toArray w h (by have := hr.len; simp; omega) hr.one
 rw [Nat.add_zero] at hst
 cases hq : Tryz.prog.info? t with
 | none => simp [hq] at h3
 | some i =>
  have hs : r.toArray.size = i.size := by have := hr.len; simp [hq] at h3; simp; omega
  simp only [Instr.storeAt, Instr.sureAddr, Sem.run_bind, Sem.run_pure, Result.andThen_ok]
  have hs' : r.length = i.size := by simpa using hs
  simp [storeVar, sizeOf, typeInfo, hq, ag, Value.cells, hs', hst, putL]
structure Lod (t : TypeId) : Prop where
 ld : ∀ (w : World) (p : Addr) (v : Value), w.cell? p = some v → (Instr.loadAt t (.pointer (some p))).run Tryz.prog w = .ok v w
structure One (t : TypeId) (v : Value) : Prop where
 st : ∀ (w : World) (p : Addr) (x : Value), w.cell? p = some x → w.frozen? p = false → (Instr.storeAt t (.pointer (some p)) v).run Tryz.prog w = .ok () (w.setCell p v)
theorem lod_int : Lod 3 := ⟨fun w p v h => by simp [go_sem, h]⟩
theorem lod_err : Lod 31 := ⟨fun w p v h => by simp [go_sem, h]⟩
theorem lod_str : Lod 9 := ⟨fun w p v h => by simp [go_sem, h]⟩
theorem lod_fcs : Lod 24 := ⟨fun w p v h => by simp [go_sem, h]⟩
theorem lod_txs : Lod 27 := ⟨fun w p v h => by simp [go_sem, h]⟩
theorem lod_ens : Lod 72 := ⟨fun w p v h => by simp [go_sem, h]⟩
theorem one_txs (a : Option Addr) (n c : Nat) : One 27 (.slice a n c) := ⟨fun w p v h f => by simp [go_sem, h, f]⟩
theorem one_ens (a : Option Addr) (n c : Nat) : One 72 (.slice a n c) := ⟨fun w p v h f => by simp [go_sem, h, f]⟩
theorem one_int (n : Int) : One 3 (.int .i64 n) := ⟨fun w p v h f => by simp [go_sem, h, f]⟩
theorem one_err (n : Int) : One 31 (.int .i64 n) := ⟨fun w p v h f => by simp [go_sem, h, f]⟩
theorem one_str (s : ByteArray) : One 9 (.string s) := ⟨fun w p v h f => by simp [go_sem, h, f]⟩
theorem one_fcs (a : Option Addr) (n c : Nat) : One 24 (.slice a n c) := ⟨fun w p v h f => by simp [go_sem, h, f]⟩
section
variable {ops : Array Oper} {rest : List Oper} {o : Oper} {a : Act} {w : World} {Q : Exit → Act → World → Prop}
theorem v_load (hgd : Region.wanted o (yielded ops a.tmps) = true) {t : TypeId} {x : Operand} (ho : o.op = .load t x)
  {B k n : Nat} (hT : Row t n) (hx : a.eval x = .pointer (some ⟨B, k, none⟩)) {T : TypeId} {l r : List Value} (hB : w.heap[B]? = some (bx T l)) (hle : k + n ≤ l.length) (hr : cut l k n = r)
  (h : wpList Tryz.prog ops Q rest (a.put o.dst (ag r)) w) : wpList Tryz.prog ops Q (o :: rest) a w := by
 subst hr
 refine wpList_step fun K hK' => ?_
 rw [if_pos hgd]
 unfold Oper.wp execOp
 simp only [ho, hx, Sem.run_bind, run_loadv hT hB hle, Result.andThen_ok, Sem.run_pure]
 exact hK' _ _ h
theorem v_store (hgd : Region.wanted o (yielded ops a.tmps) = true) {t : TypeId} {x y : Operand} (ho : o.op = .store t x y)
  {B k n : Nat} (hT : Row t n) {T : TypeId} {l r l' : List Value} (hx : a.eval x = .pointer (some ⟨B, k, none⟩)) (hy : a.eval y = ag r) (hB : w.heap[B]? = some (bx T l)) (hr : Vs r n) (hle : k + n ≤ l.length) (hl : putL l k r = l')
  (h : ∀ u, u.heap[B]? = some (bx T l') → Chg B w u → wpList Tryz.prog ops Q rest (a.put o.dst undef) u) : wpList Tryz.prog ops Q (o :: rest) a w := by
 subst hl
 refine wpList_step fun K hK' => ?_
 rw [if_pos hgd]
 unfold Oper.wp execOp
 simp only [ho, hx, hy, Sem.run_bind, run_storev hT hB hr hle, Result.andThen_ok, Sem.run_pure]
 exact hK' _ _ (h _ (setRow_heap w B _ _ T _ hB) (setRow_chg _ hB))
theorem v_fill (hgd : Region.wanted o (yielded ops a.tmps) = true) {t : TypeId} {x y : Operand} (ho : o.op = .store t x y)
  {B n : Nat} (hT : Row t n) {T : TypeId} {l r : List Value} (hx : a.eval x = .pointer (some ⟨B, 0, none⟩)) (hy : a.eval y = ag r) (hB : w.heap[B]? = some (bx T l)) (hr : Vs r n) (hl : l.length = n)
  (h : ∀ u, u.heap[B]? = some (bx T r) → Chg B w u → wpList Tryz.prog ops Q rest (a.put o.dst undef) u) : wpList Tryz.prog ops Q (o :: rest) a w :=
 v_store hgd ho hT hx hy hB hr (by omega) (putL_all (by rw [hr.len, hl])) h
theorem v_put (hgd : Region.wanted o (yielded ops a.tmps) = true) {t : TypeId} {x y : Operand} (ho : o.op = .store t x y) {v : Value} (ht : One t v)
  {B j : Nat} {T : TypeId} {l : List Value} (hx : a.eval x = .pointer (some ⟨B, j, none⟩)) (hy : a.eval y = v) (hB : w.heap[B]? = some (bx T l)) (hle : j < l.length)
  (h : ∀ u, u.heap[B]? = some (bx T (l.set j v)) → Chg B w u → wpList Tryz.prog ops Q rest (a.put o.dst undef) u) : wpList Tryz.prog ops Q (o :: rest) a w := by
 refine wpList_step fun K hK' => ?_
 rw [if_pos hgd]
 have hs := ht.st w ⟨B, j, none⟩ _ (bx_cell hB (List.getElem?_eq_getElem hle)) (bx_free hB j)
 unfold Oper.wp execOp
 simp only [ho, hx, hy, Sem.run_bind, hs, Result.andThen_ok, Sem.run_pure]
 exact hK' _ _ (h _ (set_bx hB).1 (set_bx hB).2)
theorem v_get (hgd : Region.wanted o (yielded ops a.tmps) = true) {t : TypeId} {x : Operand} (ho : o.op = .load t x) (ht : Lod t)
  {B j : Nat} {T : TypeId} {l : List Value} {v : Value} (hx : a.eval x = .pointer (some ⟨B, j, none⟩)) (hB : w.heap[B]? = some (bx T l)) (hv : l[j]? = some v)
  (h : wpList Tryz.prog ops Q rest (a.put o.dst v) w) : wpList Tryz.prog ops Q (o :: rest) a w := by
 refine wpList_step fun K hK' => ?_
 rw [if_pos hgd]
 have hs := ht.ld w ⟨B, j, none⟩ _ (bx_cell hB hv)
 unfold Oper.wp execOp
 simp only [ho, hx, Sem.run_bind, hs, Result.andThen_ok, Sem.run_pure]
 exact hK' _ _ h
structure New (w u : World) (B : Nat) (T : TypeId) (l : List Value) : Prop where
 lies : u.heap[B]? = some (bx T l)
 at' : B = w.heap.size
 size : u.heap.size = w.heap.size + 1
 below : Below w.heap.size w u
theorem New.alloc (w : World) (T : TypeId) (l : List Value) : New w (w.alloc (bx T l)) w.heap.size T l := ⟨(MapKept.heap_alloc w _).1, rfl, Array.size_push _, balloc _ _⟩
theorem v_box (hgd : Region.wanted o (yielded ops a.tmps) = true) {t : TypeId} {x : Operand} (ho : o.op = .box t x)
  {l : List Value} (hx : a.eval x = ag l) (h : ∀ u B, New w u B t l → wpList Tryz.prog ops Q rest (a.put o.dst (.pointer (some ⟨B, 0, none⟩))) u) : wpList Tryz.prog ops Q (o :: rest) a w := by
 refine wpList_step fun K hK' => ?_
 rw [if_pos hgd]
 unfold Oper.wp execOp
 simp only [ho, hx]
 simp only [go_sem, ag]
 exact hK' _ _ (h _ _ (New.alloc w t l))
structure Zer (t : TypeId) (l : List Value) : Prop where
 eq : (Tryz.prog.info? t).map (·.zero) = some (some (ag l))
theorem v_alloc (hgd : Region.wanted o (yielded ops a.tmps) = true) {t : TypeId} {l : List Value} (hz : Zer t l) (ho : o.op = .alloc t)
  (h : ∀ u B, New w u B t l → wpList Tryz.prog ops Q rest (a.put o.dst (.pointer (some ⟨B, 0, none⟩))) u) : wpList Tryz.prog ops Q (o :: rest) a w := by
 refine wpList_step fun K hK' => ?_
 rw [if_pos hgd]
 unfold Oper.wp execOp
 simp only [ho]
 cases hq : Tryz.prog.info? t with
 | none => have := hz.eq; simp [hq] at this
 | some i =>
  have hz' : i.zero = some (ag l) := by simpa [hq] using hz.eq
  simp [go_sem, zeroValue, typeInfo, hq, hz', ag]
  exact hK' _ _ (h _ _ (New.alloc w t _))
theorem v_build (hgd : Region.wanted o (yielded ops a.tmps) = true) {t : TypeId} {ps : Array (Nat × Operand)} (ho : o.op = .build t ps)
  {vs : Array (Nat × Value)} {v : Value} (hb : ∀ w, (Instr.build t vs).run Tryz.prog w = .ok v w) (hv : ps.map (fun q => (q.1, a.eval q.2)) = vs)
  (h : wpList Tryz.prog ops Q rest (a.put o.dst v) w) : wpList Tryz.prog ops Q (o :: rest) a w := by
 refine wpList_step fun K hK' => ?_
 rw [if_pos hgd]
 unfold Oper.wp execOp
 simp only [ho, hv, Sem.run_bind, hb, Result.andThen_ok, Sem.run_pure]
 exact hK' _ _ h
end
abbrev Bk := Nat × TypeId × List Value
structure Mm (w u : World) (L : List Bk) : Prop where
 lies : ∀ x ∈ L, u.heap[x.1]? = some (bx x.2.1 x.2.2)
 own : ∀ x ∈ L, w.heap.size ≤ x.1
 ap : (L.map (·.1)).Nodup
 below : Below w.heap.size w u
theorem Mm.nil (w : World) : Mm w w [] := ⟨fun x h => absurd h (by simp), fun x h => absurd h (by simp), List.nodup_nil, Below.refl _ _⟩
section
variable {w u v : World} {L : List Bk} {B : Nat} {T : TypeId} {l l' : List Value}
theorem Mm.new (h : Mm w u L) (n : New u v B T l) : Mm w v ((B, T, l) :: L) where
 lies := fun x hx => by
  rcases List.mem_cons.1 hx with rfl | q
  ·exact n.lies
  ·exact keep (h.lies x q) n.below
 own := fun x hx => by
  rcases List.mem_cons.1 hx with rfl | q
  ·show w.heap.size ≤ B; rw [n.at']; exact h.below.size
  ·exact h.own x q
 ap := by
  rw [List.map_cons, List.nodup_cons]
  refine ⟨fun q => ?_, h.ap⟩
  obtain ⟨y, hy, e⟩ := List.mem_map.1 q
  have h1 := bx_lt (h.lies y hy)
  have h2 : y.1 = u.heap.size := e.trans n.at'
  omega
 below := bsq h.below n.below
theorem Mm.call (h : Mm w u L) (hb : Below u.heap.size u v) : Mm w v L := ⟨fun x hx => keep (h.lies x hx) hb, h.own, h.ap, bsq h.below hb⟩
theorem Mm.put {pre post : List Bk} (h : Mm w u (pre ++ (B, T, l) :: post)) (hc : Chg B u v) (hl : v.heap[B]? = some (bx T l')) : Mm w v (pre ++ (B, T, l') :: post) := by
 have hap := h.ap
 rw [List.map_append, List.map_cons, List.nodup_append] at hap
 obtain ⟨hp, hq, hpq⟩ := hap
 rw [List.nodup_cons] at hq
 refine ⟨fun x hx => ?_, fun x hx => ?_, ?_, hc.below _ _ (h.own (B, T, l) (by simp)) h.below⟩
 ·rcases List.mem_append.1 hx with q | q
  ·rw [hc.other x.1 (fun e => hpq x.1 (List.mem_map.2 ⟨x, q, rfl⟩) B (by simp) e)]
   exact h.lies x (List.mem_append.2 (.inl q))
  ·rcases List.mem_cons.1 q with rfl | q
   ·exact hl
   ·rw [hc.other x.1 (fun e => hq.1 (List.mem_map.2 ⟨x, q, e⟩))]
    exact h.lies x (List.mem_append.2 (.inr (List.mem_cons_of_mem _ q)))
 ·rcases List.mem_append.1 hx with q | q
  ·exact h.own x (List.mem_append.2 (.inl q))
  ·rcases List.mem_cons.1 q with rfl | q
   ·exact h.own (B, T, l) (by simp)
   ·exact h.own x (List.mem_append.2 (.inr (List.mem_cons_of_mem _ q)))
 ·have := h.ap
  rw [List.map_append, List.map_cons] at this ⊢
  exact this
variable {a b c d f g : Bk}
theorem Mm.at0 (h : Mm w u ((B, T, l) :: L)) : u.heap[B]? = some (bx T l) := h.lies (B, T, l) (by simp)
theorem Mm.at1 (h : Mm w u (a :: (B, T, l) :: L)) : u.heap[B]? = some (bx T l) := h.lies (B, T, l) (by simp)
theorem Mm.at2 (h : Mm w u (a :: b :: (B, T, l) :: L)) : u.heap[B]? = some (bx T l) := h.lies (B, T, l) (by simp)
theorem Mm.at3 (h : Mm w u (a :: b :: c :: (B, T, l) :: L)) : u.heap[B]? = some (bx T l) := h.lies (B, T, l) (by simp)
theorem Mm.at4 (h : Mm w u (a :: b :: c :: d :: (B, T, l) :: L)) : u.heap[B]? = some (bx T l) := h.lies (B, T, l) (by simp)
theorem Mm.put0 (h : Mm w u ((B, T, l) :: L)) (hc : Chg B u v) (hl : v.heap[B]? = some (bx T l')) : Mm w v ((B, T, l') :: L) := Mm.put (pre := []) h hc hl
theorem Mm.put1 (h : Mm w u (a :: (B, T, l) :: L)) (hc : Chg B u v) (hl : v.heap[B]? = some (bx T l')) : Mm w v (a :: (B, T, l') :: L) := Mm.put (pre := [a]) h hc hl
theorem Mm.put2 (h : Mm w u (a :: b :: (B, T, l) :: L)) (hc : Chg B u v) (hl : v.heap[B]? = some (bx T l')) : Mm w v (a :: b :: (B, T, l') :: L) := Mm.put (pre := [a, b]) h hc hl
theorem Mm.put3 (h : Mm w u (a :: b :: c :: (B, T, l) :: L)) (hc : Chg B u v) (hl : v.heap[B]? = some (bx T l')) : Mm w v (a :: b :: c :: (B, T, l') :: L) := Mm.put (pre := [a, b, c]) h hc hl
theorem Mm.put4 (h : Mm w u (a :: b :: c :: d :: (B, T, l) :: L)) (hc : Chg B u v) (hl : v.heap[B]? = some (bx T l')) : Mm w v (a :: b :: c :: d :: (B, T, l') :: L) := Mm.put (pre := [a, b, c, d]) h hc hl
theorem Mm.put5 (h : Mm w u (a :: b :: c :: d :: f :: (B, T, l) :: L)) (hc : Chg B u v) (hl : v.heap[B]? = some (bx T l')) : Mm w v (a :: b :: c :: d :: f :: (B, T, l') :: L) := Mm.put (pre := [a, b, c, d, f]) h hc hl
theorem Mm.drew (h : Mm w u L) : Mm w u.drew L := ⟨h.lies, h.own, h.ap, h.below.drew⟩
theorem Mm.drewN (h : Mm w u L) (n : Nat) : Mm w (u.drewN n) L := ⟨h.lies, h.own, h.ap, ⟨h.below.os, h.below.tape, h.below.output, h.below.size, h.below.block⟩⟩
end
theorem ld_var {w : World} {B n : Nat} {T t : TypeId} {l : List Value} (hT : Row t n) (h : w.heap[B]? = some (bx T l)) (hl : l.length = n) : (loadVar t ⟨B, 0, none⟩).run Tryz.prog w = .ok (ag l) w := by
 have := run_loadv (k := 0) hT h (by omega)
 rw [cut_all hl] at this
 simpa only [Instr.loadAt, Instr.sureAddr, Sem.run_bind, Sem.run_pure, Result.andThen_ok] using this
theorem ret_1 {fn : Func} {p : Tmp} {t : TypeId} {tmps : Array Value} {w : World} {B : Nat} {v : Value} (h : fn.results = #[.cell p t]) (hp : tmps.getD p undef = .pointer (some ⟨B, 0, none⟩)) (hl : (loadVar t ⟨B, 0, none⟩).run Tryz.prog w = .ok v w) :
  (results fn tmps).run Tryz.prog w = .ok v w := by
 have hp' : tmps[p]?.getD undef = .pointer (some ⟨B, 0, none⟩) := by simpa using hp
 simp [results, h, hp', asAddr, hl]
theorem ret_2 {fn : Func} {p i : Tmp} {t : TypeId} {tmps : Array Value} {w : World} {B : Nat} {v v1 : Value} (h : fn.results = #[.cell p t, .tmp i]) (hp : tmps.getD p undef = .pointer (some ⟨B, 0, none⟩)) (hl : (loadVar t ⟨B, 0, none⟩).run Tryz.prog w = .ok v w)
  (h1 : tmps.getD i undef = v1) : (results fn tmps).run Tryz.prog w = .ok (.tuple #[v, v1]) w := by
 have hp' : tmps[p]?.getD undef = .pointer (some ⟨B, 0, none⟩) := by simpa using hp
 have h1' : tmps[i]?.getD undef = v1 := by simpa using h1
 simp [results, h, hp', asAddr, hl, h1']
theorem v_ldR {ops : Array Oper} {rest : List Oper} {o : Oper} {a : Act} {w : World} {Q : Exit → Act → World → Prop} (hgd : Region.wanted o (yielded ops a.tmps) = true) {t : TypeId} {x : Operand} (ho : o.op = .load t x)
  {g off n : Nat} (hT : Row t n) (hx : a.eval x = .pointer (some ⟨g, off, none⟩)) {r : List Value} (hr : w.rangeAt g off r) (hl : r.length = n)
  (h : wpList Tryz.prog ops Q rest (a.put o.dst (ag r)) w) : wpList Tryz.prog ops Q (o :: rest) a w := by
 obtain ⟨d, h1, h2, h3⟩ := hT.ex
 refine wpList_step fun K hK' => ?_
 rw [if_pos hgd]
 unfold Oper.wp execOp
 simp only [ho, hx, Sem.run_bind, run_loadAt_mid w g off t r d hr h1 h2 (by rw [h3, hl]), Result.andThen_ok, Sem.run_pure]
 exact hK' _ _ h
theorem ret_3 {fn : Func} {p i j : Tmp} {t : TypeId} {tmps : Array Value} {w : World} {B : Nat} {v v1 v2 : Value} (h : fn.results = #[.cell p t, .tmp i, .tmp j]) (hp : tmps.getD p undef = .pointer (some ⟨B, 0, none⟩)) (hl : (loadVar t ⟨B, 0, none⟩).run Tryz.prog w = .ok v w)
  (h1 : tmps.getD i undef = v1) (h2 : tmps.getD j undef = v2) : (results fn tmps).run Tryz.prog w = .ok (.tuple #[v, v1, v2]) w := by
 have hp' : tmps[p]?.getD undef = .pointer (some ⟨B, 0, none⟩) := by simpa using hp
 have h1' : tmps[i]?.getD undef = v1 := by simpa using h1
 have h2' : tmps[j]?.getD undef = v2 := by simpa using h2
 simp [results, h, hp', asAddr, hl, h1', h2']
structure Ls (u : World) (L : List Bk) : Prop where
 lies : ∀ x ∈ L, u.heap[x.1]? = some (bx x.2.1 x.2.2)
theorem Mm.ls {w u : World} {L L' : List Bk} (h : Mm w u L) (hs : ∀ x ∈ L', x ∈ L) : Ls u L' := ⟨fun x hx => h.lies x (hs x hx)⟩
section
variable {u : World} {a b c d f : Bk} {L : List Bk} {B : Nat} {T : TypeId} {l : List Value}
theorem Ls.at0 (h : Ls u ((B, T, l) :: L)) : u.heap[B]? = some (bx T l) := h.lies (B, T, l) (by simp)
theorem Ls.at1 (h : Ls u (a :: (B, T, l) :: L)) : u.heap[B]? = some (bx T l) := h.lies (B, T, l) (by simp)
theorem Ls.at2 (h : Ls u (a :: b :: (B, T, l) :: L)) : u.heap[B]? = some (bx T l) := h.lies (B, T, l) (by simp)
theorem Ls.at3 (h : Ls u (a :: b :: c :: (B, T, l) :: L)) : u.heap[B]? = some (bx T l) := h.lies (B, T, l) (by simp)
theorem Ls.at4 (h : Ls u (a :: b :: c :: d :: (B, T, l) :: L)) : u.heap[B]? = some (bx T l) := h.lies (B, T, l) (by simp)
end
theorem Mm.tail {w u : World} {x : Bk} {L : List Bk} (h : Mm w u (x :: L)) : Mm w u L := ⟨fun y hy => h.lies y (List.mem_cons_of_mem _ hy), fun y hy => h.own y (List.mem_cons_of_mem _ hy), by have := h.ap; rw [List.map_cons, List.nodup_cons] at this; exact this.2, h.below⟩
def dvl (d : Dv) : List Value := [.int .i64 d.us, .int .i64 d.cl, .int .i64 d.su, .int .i64 d.pr, .int .i64 d.m0, .int .i64 d.ve, .int .i64 d.pd, .int .i64 d.re, .int .i64 d.ma, .int .i64 d.nm, .int .i64 d.se, .int .i64 d.cf]
def cfl (c : Cf) (u : Value) : List Value := [.int .i64 c.va, .int .i64 c.na, .int .i64 c.atr, .int .i64 c.po, u]
def grl (g : Gr) (u : Value) : List Value := [.int .i64 g.st, .int .i64 g.tr, .int .i64 g.ad, .int .i64 g.m0, .int .i64 g.tot, .int .i64 g.d.us, .int .i64 g.d.cl, .int .i64 g.d.su, .int .i64 g.d.pr, .int .i64 g.d.m0, .int .i64 g.d.ve, .int .i64 g.d.pd, .int .i64 g.d.re, .int .i64 g.d.ma, .int .i64 g.d.nm, .int .i64 g.d.se, .int .i64 g.d.cf, .int .i64 g.c.va, .int .i64 g.c.na, .int .i64 g.c.atr, .int .i64 g.c.po, u, .string g.sr, .int .i64 g.er]
def grV (g : Gr) (u : Value) : Value := ag (grl g u)
def gdl (s a h : Int) : List Value := [.int .i64 s, .int .i64 a, .int .i64 h]
def shl (d : Dv) (c : Cf) (u tv : Value) : List Value := dvl d ++ cfl c u ++ [tv]
def akl (k v i l : Int) : List Value := [.int .i64 k, .int .i64 v, .int .i64 i, .int .i64 l]
def fcl (f : Fc) (ve vd : Value) : List Value := [.int .i64 f.cl, .int .i64 f.su, .int .i64 f.pr, .int .i64 f.nm, ve, vd]
abbrev nilS : Value := .slice none 0 0
theorem row_greeting : Row 33 24 := ⟨⟨_, Tryz.underlying33, rfl, by kernel_rfl⟩⟩
theorem row_config : Row 26 5 := ⟨⟨_, Tryz.underlying26, rfl, by kernel_rfl⟩⟩
theorem row_device : Row 23 12 := ⟨⟨_, Tryz.underlying23, rfl, by kernel_rfl⟩⟩
theorem row_ask : Row 62 4 := ⟨⟨_, Tryz.underlying62, rfl, by kernel_rfl⟩⟩
theorem row_face : Row 74 6 := ⟨⟨_, Tryz.underlying74, rfl, by kernel_rfl⟩⟩
theorem row_gadget : Row 35 3 := ⟨⟨_, Tryz.underlying35, rfl, by kernel_rfl⟩⟩
theorem row_sheet : Row 29 18 := ⟨⟨_, Tryz.underlying29, rfl, by kernel_rfl⟩⟩
theorem zer_greeting : Zer 33 (grl noGr nilS) := ⟨by kernel_rfl⟩
theorem zer_ask : Zer 62 (akl 0 0 0 0) := ⟨by kernel_rfl⟩
theorem bld_ask3 (k v l : Int) (w : World) : (Instr.build 62 #[(0, .int .i64 k), (1, .int .i64 v), (3, .int .i64 l)]).run Tryz.prog w = .ok (ag (akl k v 0 l)) w := by kernel_rfl
theorem bld_ask2 (k v : Int) (w : World) : (Instr.build 62 #[(0, .int .i64 k), (1, .int .i64 v)]).run Tryz.prog w = .ok (ag (akl k v 0 0)) w := by kernel_rfl
theorem bld_gr0 (w : World) : (Instr.build 33 #[]).run Tryz.prog w = .ok (grV noGr nilS) w := by kernel_rfl
theorem bld_grn (a : Int) (w : World) : (Instr.build 33 #[(0, .int .i64 1), (2, .int .i64 a)]).run Tryz.prog w = .ok (grV (nwG a) nilS) w := by kernel_rfl
theorem bld_gd0 (w : World) : (Instr.build 35 #[]).run Tryz.prog w = .ok (ag (gdl 0 0 0)) w := by kernel_rfl
theorem akl_vs (k v i l : Int) : Vs (akl k v i l) 4 := ⟨rfl, fun v hv => by simp only [akl, List.mem_cons, List.not_mem_nil, or_false] at hv; rcases hv with rfl | rfl | rfl | rfl <;> rfl⟩
theorem zer_face : Zer 74 (fcl ⟨0, 0, 0, 0, [], []⟩ nilS nilS) := ⟨by kernel_rfl⟩
theorem zer_gadget : Zer 35 (gdl 0 0 0) := ⟨by kernel_rfl⟩
theorem zer_device : Zer 23 (dvl noD) := ⟨by kernel_rfl⟩
theorem zer_config : Zer 26 (cfl noC nilS) := ⟨by kernel_rfl⟩
theorem dvl_vs (d : Dv) : Vs (dvl d) 12 := ⟨rfl, fun v hv => by simp only [dvl, List.mem_cons, List.not_mem_nil, or_false] at hv; rcases hv with rfl | rfl | rfl | rfl | rfl | rfl | rfl | rfl | rfl | rfl | rfl | rfl <;> rfl⟩
theorem cfl_vs (c : Cf) {u : Value} (h : u.oneCell' = true) : Vs (cfl c u) 5 := ⟨rfl, fun v hv => by
 simp only [cfl, List.mem_cons, List.not_mem_nil, or_false] at hv
 rcases hv with rfl | rfl | rfl | rfl | rfl
 iterate 4 rfl
 exact h⟩
theorem grl_vs (g : Gr) {u : Value} (h : u.oneCell' = true) : Vs (grl g u) 24 := ⟨rfl, fun v hv => by
 simp only [grl, List.mem_cons, List.not_mem_nil, or_false] at hv
 rcases hv with rfl | rfl | rfl | rfl | rfl | rfl | rfl | rfl | rfl | rfl | rfl | rfl | rfl | rfl | rfl | rfl | rfl | rfl | rfl | rfl | rfl | rfl | rfl | rfl
 iterate 21 rfl
 exact h
 iterate 2 rfl⟩
theorem gdl_vs (s a h : Int) : Vs (gdl s a h) 3 := ⟨rfl, fun v hv => by simp only [gdl, List.mem_cons, List.not_mem_nil, or_false] at hv; rcases hv with rfl | rfl | rfl <;> rfl⟩
theorem rc_one {w : World} {u : Value} {c : Cf} {L : FL} (h : Rc w u c L) : u.oneCell' = true := by obtain ⟨a, c, h, _⟩ := h.fs.row; rw [h]; rfl
end Go.Proofs.YtonheibhbilhhaaGreat.greet
namespace Go.Proofs.YtonheibhbilhhaaGreat.greet
open Go Go.RowKit Go.PlainAid Go.Proofs.YtonheibhbilhhaaGreat.lane Go.Proofs.YtonheibhbilhhaaGreat.desc
set_option linter.unusedVariables false
set_option linter.unusedSimpArgs false
set_option maxRecDepth 100000
structure Oc (w0 wr : World) (vf : Value) (L : FL) : Prop where
 row : wr.ownsRow w0.heap.size 74 6 vf L.length (fcells L)
 tx : ∀ q ∈ L, Txs wr w0.heap.size q.2.1 q.1.ex
 en : ∀ q ∈ L, Eds wr w0.heap.size q.2.2 q.1.en
 bb : ∀ q ∈ L, BB q.1.ex ∧ ∀ x ∈ q.1.ex, x.length ≤ maxLen
section
variable {w w0 wr u : World} {vf : Value} {L : FL} {c : Cf}
theorem Oc.below (h : Oc w0 wr vf L) (hb : Below wr.heap.size wr u) : Oc w0 u vf L := ⟨own_below h.row hb, fun q hq => own_below (h.tx q hq) hb, fun q hq => own_below (h.en q hq) hb, h.bb⟩
theorem Oc.base (h : Oc w0 wr vf L) (hb : w.heap.size ≤ w0.heap.size) : Oc w wr vf L := ⟨own_mono h.row hb, fun q hq => own_mono (h.tx q hq) hb, fun q hq => own_mono (h.en q hq) hb, h.bb⟩
theorem Oc.rc (h : Oc w0 wr vf L) (he : L.map Prod.fst = c.fs) : Rc wr vf c L := ⟨⟨Rdg.of h.row, fun q hq => ⟨(h.tx q hq).rts, Rdg.of (h.en q hq), (h.bb q hq).1, (h.bb q hq).2⟩⟩, he⟩
theorem Oc.form (h : Oc w0 wr vf L) : ∃ a n c, vf = .slice a n c := by obtain ⟨a, c, h1, _⟩ := own_form h.row; exact ⟨_, _, _, h1⟩
theorem Oc.one (h : Oc w0 wr vf L) : vf.oneCell' = true := by obtain ⟨a, n, c, rfl⟩ := h.form; rfl
theorem Oc.nil (w0 wr : World) : Oc w0 wr nilS [] := ⟨⟨rfl, .inl ⟨rfl, rfl⟩⟩, fun q hq => by simp at hq, fun q hq => by simp at hq, fun q hq => by simp at hq⟩
theorem inv_oc {X : Nat} {va na atr po : Int} (h : Inv w0 wr X va na atr po vf L) : Oc w0 wr vf L := ⟨h.row, h.tx, h.en, fun q hq => ⟨(h.bb q hq).1, fun x hx => Nat.le_trans ((h.bb q hq).2 x hx) (by decide)⟩⟩
end
abbrev Kd (T : TypeId) : Prop := T ≠ 74 ∧ T ≠ 9 ∧ T ≠ 89
theorem own_chg {w u : World} {B base size n : Nat} {e T : TypeId} {l : List Value} {v : Value} {xs : List Value} (h : w.ownsRow base e size v n xs) (hc : Chg B w u) (hB : w.heap[B]? = some (bx T l)) (hT : T ≠ e) : u.ownsRow base e size v n xs := by
 obtain ⟨h1, h2⟩ := h
 refine ⟨h1, ?_⟩
 rcases h2 with h2 | ⟨g, cap, cur, hv, hg, hh, r⟩
 ·exact .inl h2
 ·refine .inr ⟨g, cap, cur, hv, hg, ?_, r⟩
  rw [hc.other g (fun q => ?_)]
  ·exact hh
  ·subst q
   rw [hB] at hh
   injection hh with hh
   injection hh with _ hh _
   exact hT hh
theorem Oc.chg {w0 wr u : World} {vf : Value} {F : FL} {B : Nat} {T : TypeId} {l : List Value} (h : Oc w0 wr vf F) (hc : Chg B wr u) (hB : wr.heap[B]? = some (bx T l)) (hT : Kd T) : Oc w0 u vf F :=
 ⟨own_chg h.row hc hB hT.1, fun q hq => own_chg (h.tx q hq) hc hB hT.2.1, fun q hq => own_chg (h.en q hq) hc hB hT.2.2, h.bb⟩
structure Mo (w u : World) (L : List Bk) (vf : Value) (F : FL) : Prop where
 mm : Mm w u L
 own : Oc w u vf F
 kd : ∀ x ∈ L, Kd x.2.1
section
variable {w u v : World} {L : List Bk} {B : Nat} {T : TypeId} {l l' : List Value} {vf vf' : Value} {F F' : FL} {a b c d f g : Bk}
theorem Mo.nil (w : World) : Mo w w [] nilS [] := ⟨Mm.nil w, Oc.nil _ _, fun x h => absurd h (by simp)⟩
theorem Mo.below (h : Mo w u L vf F) : Below w.heap.size w u := h.mm.below
theorem Mo.new (h : Mo w u L vf F) (n : New u v B T l) (hT : Kd T := by decide) : Mo w v ((B, T, l) :: L) vf F := ⟨h.mm.new n, h.own.below n.below, fun x hx => by
 rcases List.mem_cons.1 hx with rfl | q
 ·exact hT
 ·exact h.kd x q⟩
theorem Mo.call (h : Mo w u L vf F) (hb : Below u.heap.size u v) : Mo w v L vf F := ⟨h.mm.call hb, h.own.below hb, h.kd⟩
theorem Mo.take (h : Mo w u L vf F) (hb : Below u.heap.size u v) (ho : Oc u v vf' F') : Mo w v L vf' F' := ⟨h.mm.call hb, ho.base h.mm.below.size, h.kd⟩
theorem Mo.put {pre post : List Bk} (h : Mo w u (pre ++ (B, T, l) :: post) vf F) (hc : Chg B u v) (hl : v.heap[B]? = some (bx T l')) : Mo w v (pre ++ (B, T, l') :: post) vf F :=
 ⟨h.mm.put hc hl, h.own.chg hc (h.mm.lies (B, T, l) (by simp)) (h.kd (B, T, l) (by simp)), fun x hx => by
  rcases List.mem_append.1 hx with q | q
  ·exact h.kd x (List.mem_append.2 (.inl q))
  ·rcases List.mem_cons.1 q with rfl | q
   ·exact h.kd (B, T, l) (by simp)
   ·exact h.kd x (List.mem_append.2 (.inr (List.mem_cons_of_mem _ q)))⟩
theorem Mo.drew (h : Mo w u L vf F) : Mo w u.drew L vf F := ⟨h.mm.drew, ⟨h.own.row, h.own.tx, h.own.en, h.own.bb⟩, h.kd⟩
theorem Mo.drewN (h : Mo w u L vf F) (n : Nat) : Mo w (u.drewN n) L vf F := ⟨h.mm.drewN n, ⟨h.own.row, h.own.tx, h.own.en, h.own.bb⟩, h.kd⟩
theorem Mo.tail (h : Mo w u (a :: L) vf F) : Mo w u L vf F := ⟨h.mm.tail, h.own, fun x hx => h.kd x (List.mem_cons_of_mem _ hx)⟩
theorem Mo.ls {L' : List Bk} (h : Mo w u L vf F) (hs : ∀ x ∈ L', x ∈ L) : Ls u L' := h.mm.ls hs
theorem Mo.at0 (h : Mo w u ((B, T, l) :: L) vf F) : u.heap[B]? = some (bx T l) := h.mm.at0
theorem Mo.at1 (h : Mo w u (a :: (B, T, l) :: L) vf F) : u.heap[B]? = some (bx T l) := h.mm.at1
theorem Mo.at2 (h : Mo w u (a :: b :: (B, T, l) :: L) vf F) : u.heap[B]? = some (bx T l) := h.mm.at2
theorem Mo.at3 (h : Mo w u (a :: b :: c :: (B, T, l) :: L) vf F) : u.heap[B]? = some (bx T l) := h.mm.at3
theorem Mo.at4 (h : Mo w u (a :: b :: c :: d :: (B, T, l) :: L) vf F) : u.heap[B]? = some (bx T l) := h.mm.at4
theorem Mo.put0 (h : Mo w u ((B, T, l) :: L) vf F) (hc : Chg B u v) (hl : v.heap[B]? = some (bx T l')) : Mo w v ((B, T, l') :: L) vf F := Mo.put (pre := []) h hc hl
theorem Mo.put1 (h : Mo w u (a :: (B, T, l) :: L) vf F) (hc : Chg B u v) (hl : v.heap[B]? = some (bx T l')) : Mo w v (a :: (B, T, l') :: L) vf F := Mo.put (pre := [a]) h hc hl
theorem Mo.put2 (h : Mo w u (a :: b :: (B, T, l) :: L) vf F) (hc : Chg B u v) (hl : v.heap[B]? = some (bx T l')) : Mo w v (a :: b :: (B, T, l') :: L) vf F := Mo.put (pre := [a, b]) h hc hl
theorem Mo.put3 (h : Mo w u (a :: b :: c :: (B, T, l) :: L) vf F) (hc : Chg B u v) (hl : v.heap[B]? = some (bx T l')) : Mo w v (a :: b :: c :: (B, T, l') :: L) vf F := Mo.put (pre := [a, b, c]) h hc hl
theorem Mo.put4 (h : Mo w u (a :: b :: c :: d :: (B, T, l) :: L) vf F) (hc : Chg B u v) (hl : v.heap[B]? = some (bx T l')) : Mo w v (a :: b :: c :: d :: (B, T, l') :: L) vf F := Mo.put (pre := [a, b, c, d]) h hc hl
theorem Mo.put5 (h : Mo w u (a :: b :: c :: d :: f :: (B, T, l) :: L) vf F) (hc : Chg B u v) (hl : v.heap[B]? = some (bx T l')) : Mo w v (a :: b :: c :: d :: f :: (B, T, l') :: L) vf F := Mo.put (pre := [a, b, c, d, f]) h hc hl
end
end Go.Proofs.YtonheibhbilhhaaGreat.greet
namespace Go.Proofs.YtonheibhbilhhaaGreat.greet
open Go.RowKit
set_option linter.unusedVariables false
set_option linter.unusedSimpArgs false
set_option maxRecDepth 100000
def fateB (n : Int) : Bool := n == 1 || n == 2 || n == 3 || n == 4 || n == 5
theorem fate_iff (f : Int) : fateB f = true ↔ 1 ≤ f ∧ f ≤ 5 := by
 unfold fateB
 simp only [Bool.or_eq_true, beq_iff_eq]
 omega
theorem isFate_any (n : Int) (w : World) : Calls Tryz.prog 54 #[.int .i64 n] w fun e w' => e = .returned (.bool (fateB n)) ∧ w = w' := by
 unfold fateB
 cases h1 : (n == 1)
 case true => go_enter Tryz.func54, Tryz.ntmps54; go_wp2; go_ret; exact ⟨rfl, rfl⟩
 cases h2 : (n == 2)
 case true => go_enter Tryz.func54, Tryz.ntmps54; go_wp2; go_ret; exact ⟨rfl, rfl⟩
 cases h3 : (n == 3)
 case true => go_enter Tryz.func54, Tryz.ntmps54; go_wp2; go_ret; exact ⟨rfl, rfl⟩
 cases h4 : (n == 4)
 case true => go_enter Tryz.func54, Tryz.ntmps54; go_wp2; go_ret; exact ⟨rfl, rfl⟩
 cases h5 : (n == 5)
 case true => go_enter Tryz.func54, Tryz.ntmps54; go_wp2; go_ret; exact ⟨rfl, rfl⟩
 go_enter Tryz.func54, Tryz.ntmps54; go_wp2; go_ret; exact ⟨rfl, rfl⟩
def Ris (w : World) (v : Value) (l : List Int) : Prop :=
 ∃ a c, v = .slice a l.length c ∧ l.length ≤ c ∧ c ≤ maxLen ∧ (0 < l.length → ∃ g off, a = some ⟨g, off, none⟩ ∧ g < w.heap.size ∧ ∀ j x, l[j]? = some x → w.cell? ⟨g, off + j, none⟩ = some (.int .i64 x))
theorem Ris.below {w u : World} {v : Value} {l : List Int} (h : Ris w v l) (hb : Below w.heap.size w u) : Ris u v l := by
 obtain ⟨a, c, hv, h1, h2, h4⟩ := h
 refine ⟨a, c, hv, h1, h2, fun hn => ?_⟩
 obtain ⟨g, off, ha, hg, hc⟩ := h4 hn
 exact ⟨g, off, ha, Nat.lt_of_lt_of_le hg hb.size, fun j x hx => (hb.cell (p := ⟨g, off + j, none⟩) hg).trans (hc j x hx)⟩
theorem Ris.at {w : World} {a : Option Addr} {n c : Nat} {l : List Int} (h : Ris w (.slice a n c) l) (k : Nat) (x : Int) (hk : l[k]? = some x) : ∃ g off, a = some ⟨g, off, none⟩ ∧ ∀ u, Below w.heap.size w u → u.cell? ⟨g, off + k, none⟩ = some (.int .i64 x) := by
 obtain ⟨a', c', hv, h1, h2, h4⟩ := h
 have hl := (List.getElem?_eq_some_iff.1 hk).1
 obtain ⟨g, off, ha, hg, hc⟩ := h4 (by omega)
 have : a = a' := by injection hv
 exact ⟨g, off, this.trans ha, fun u hu => (hu.cell (p := ⟨g, off + k, none⟩) hg).trans (hc k x hk)⟩
theorem all_drop {F : List Int} {k : Nat} (h : k < F.length) : (F.drop k).all fateB = (fateB F[k] && (F.drop (k + 1)).all fateB) := by
 rw [List.drop_eq_getElem_cons h, List.all_cons]
def ckF (F : List Int) : Int := if 1000 < F.length then 2 else if F.all fateB = false then 1 else 0
set_option maxHeartbeats 2000000 in
theorem fates_any (vF : Value) (F : List Int) (w : World) (hF : Ris w vF F) : Calls Tryz.prog 23 #[vF] w fun e w' => e = .returned (.int .i64 (ckF F)) ∧ w = w' := by
 obtain ⟨fa, fc, hv, _, hfm, _⟩ := id hF
 subst hv
 obtain ⟨fn, hfn⟩ : ∃ n, F.length = n := ⟨_, rfl⟩
 have HFN : Hid (F.length = fn) := hfn
 rw [hfn] at hF ⊢
 have HF : Hid (Ris w (.slice fa fn fc) F) := hF
 have HIF : Hid (∀ (x : Int) (u : World), Calls Tryz.prog 54 #[.int .i64 x] u fun e w' => e = .returned (.bool (fateB x)) ∧ u = w') := fun x u => isFate_any x u
 obtain ⟨z, hz⟩ : ∃ z, ckF F = z := ⟨_, rfl⟩
 have HZ : Hid ((if 1000 < fn then 2 else if F.all fateB = false then 1 else 0) = z) := by show _ = _; rw [← hz, ← hfn]; rfl
 rw [hz]
 unfold maxLen at hfm
 clear hF hfn hz
 by_cases hf : 1000 < fn
 ·have HZ2 : Hid ((2 : Int) = z) := by have := HZ.out; rw [if_pos hf] at this; exact this
  have e1 : decide ((fn : Int) > 1000) = true := by rw [decide_eq_true_eq]; omega
  clear HZ hf
  go_enter Tryz.func23, Tryz.ntmps23
  go_wp2
  go_ret
  rw [← HZ2.out]
  exact ⟨rfl, rfl⟩
 have HZ2 : Hid ((if F.all fateB = false then (1 : Int) else 0) = z) := by have := HZ.out; rw [if_neg hf] at this; exact this
 have e1 : decide ((fn : Int) > 1000) = false := by rw [decide_eq_false_iff_not]; omega
 have hfn : fn ≤ 1000 := by omega
 clear hf HZ hfm
 go_enter Tryz.func23, Tryz.ntmps23
 go_wp2
 go_loopw [10] (fun i wr => ∃ k : Nat, k ≤ fn ∧ i = .int .i64 (k : Int) ∧ w = wr ∧ Hid ((F.drop k).all fateB = F.all fateB)) (fun i _ => fn - (intOf i).toNat)
 case atStart => exact ⟨0, Nat.zero_le _, rfl, rfl, rfl⟩
 case round =>
  obtain ⟨k, hk, rfl, rfl, HA⟩ := hrel
  by_cases hlt : ¬ k < fn
  ·have HAll : Hid (F.all fateB = true) := by have := HA.out; rw [List.drop_eq_nil_of_le (by have := HFN.out; omega)] at this; exact this.symm
   have HZ3 : Hid ((0 : Int) = z) := by have := HZ2.out; rw [HAll.out, if_neg (by decide)] at this; exact this
   clear HA HAll HZ2
   go_wp2
   go_ret
   rw [← HZ3.out]
   exact ⟨rfl, rfl⟩
  ·have hlt : k < fn := by omega
   have hkF : k < F.length := by have := HFN.out; omega
   obtain ⟨x, hx⟩ : ∃ x, F[k]? = some x := ⟨F[k], List.getElem?_eq_getElem hkF⟩
   have hxk : F[k] = x := (List.getElem?_eq_some_iff.1 hx).2
   obtain ⟨g, off, rfl, hcell⟩ := HF.out.at k x hx
   have cF := hcell w (Below.refl _ _)
   have HA2 : Hid ((fateB x && (F.drop (k + 1)).all fateB) = F.all fateB) := by have := HA.out; rw [all_drop hkF, hxk] at this; exact this
   have HI : Hid (∀ (u : World), Calls Tryz.prog 54 #[.int .i64 x] u fun e w' => e = .returned (.bool (fateB x)) ∧ u = w') := HIF.out x
   clear hcell hx hxk hkF HA
   cases hb : fateB x
   ·rw [hb] at HI HA2
    have HZ3 : Hid ((1 : Int) = z) := by
     have h0 : F.all fateB = false := by have := HA2.out; rw [Bool.false_and] at this; exact this.symm
     have := HZ2.out; rw [if_pos h0] at this; exact this
    clear HA2 hb HZ2
    go_wp2_with fail
    refine (HI.out _).mono ?_
    rintro e u ⟨rfl, rfl⟩
    go_wp2
    go_ret
    rw [← HZ3.out]
    exact ⟨rfl, rfl⟩
   ·rw [hb] at HI HA2
    have HA3 : Hid ((F.drop (k + 1)).all fateB = F.all fateB) := by have := HA2.out; rw [Bool.true_and] at this; exact this
    clear HA2 hb
    go_wp2_with fail
    refine (HI.out _).mono ?_
    rintro e u ⟨rfl, rfl⟩
    go_wp2
    go_roundw
    case rel => exact ⟨k + 1, by omega, by go_num, trivial, HA3.out⟩
    case measure => simp [intOf]; omega
theorem between_any (a lo hi : Int) (w : World) : Calls Tryz.prog 13 #[.int .i64 a, .int .i64 lo, .int .i64 hi] w fun e w' => e = .returned (.bool (decide (lo ≤ a) && decide (a ≤ hi))) ∧ w = w' := by
 cases h1 : decide (lo ≤ a) <;> cases h2 : decide (a ≤ hi) <;> (go_enter Tryz.func13, Tryz.ntmps13; go_wp2; go_ret; exact ⟨rfl, rfl⟩)
theorem fate_between (f : Int) : (decide (1 ≤ f) && decide (f ≤ 5)) = fateB f := by
 rw [Bool.eq_iff_iff, fate_iff]; simp
theorem refFate_any (f : Int) (w : World) : Calls Tryz.prog 16 #[.int .i64 f] w fun e w' => e = .returned (.bool (fateB f)) ∧ w = w' := by
 have HB : Hid (Calls Tryz.prog 13 #[.int .i64 f, .int .i64 1, .int .i64 5] w fun e w' => e = .returned (.bool (fateB f)) ∧ w = w') := by
  have := between_any f 1 5 w
  rw [fate_between] at this
  exact this
 go_enter Tryz.func16, Tryz.ntmps16
 go_wp2_with fail
 refine HB.out.mono ?_
 rintro e u ⟨rfl, rfl⟩
 go_wp2
 go_ret
 exact ⟨rfl, rfl⟩
end Go.Proofs.YtonheibhbilhhaaGreat.greet
namespace Go.Proofs.YtonheibhbilhhaaGreat.greet
open Go Go.RowKit Go.PlainAid Go.Proofs.YtonheibhbilhhaaGreat.lane Go.Proofs.YtonheibhbilhhaaGreat.desc
open Go.Proofs.YtonheibhbilhhaaGreat.setup (inS inS_iff wrT wrC good txt)
set_option linter.unusedVariables false
set_option linter.unusedSimpArgs false
set_option maxRecDepth 100000
theorem isAddr_any (n : Int) (w : World) : Calls Tryz.prog 53 #[.int .i64 n] w fun e w' => e = .returned (.bool (adB n)) ∧ w = w' := by
 unfold adB inS
 cases h1 : decide (1 ≤ n) <;> cases h2 : decide (n ≤ 127) <;> (go_enter Tryz.func53, Tryz.ntmps53; go_wp2; go_ret; exact ⟨rfl, rfl⟩)
theorem isByte_any (n : Int) (w : World) : Calls Tryz.prog 55 #[.int .i64 n] w fun e w' => e = .returned (.bool (byB n)) ∧ w = w' := by
 unfold byB inS
 cases h1 : decide (0 ≤ n) <;> cases h2 : decide (n ≤ 255) <;> (go_enter Tryz.func55, Tryz.ntmps55; go_wp2; go_ret; exact ⟨rfl, rfl⟩)
theorem okG_parts (g : Gr) : okG g = (decide (1 ≤ g.st) && (decide (g.st ≤ 9) && (decide (0 ≤ g.tr) && (decide (g.tr < 3) && (adB g.ad && (decide (0 ≤ g.tot) && (decide (g.tot ≤ 512) && (byB g.d.se && byB g.c.va)))))))) := by
 rw [Bool.eq_iff_iff, okG_iff]
 simp [adB, byB, inS]
 omega
set_option maxHeartbeats 4000000 in
theorem isRight_any (g : Gr) (u : Value) (w : World) : Calls Tryz.prog 24 #[grV g u] w fun e w' => e = .returned (.bool (okG g)) ∧ Below w.heap.size w w' := by
 have HA : Hid (∀ w, Calls Tryz.prog 53 #[.int .i64 g.ad] w fun e w' => e = .returned (.bool (adB g.ad)) ∧ w = w') := fun w => isAddr_any _ w
 have HB : Hid (∀ w, Calls Tryz.prog 55 #[.int .i64 g.d.se] w fun e w' => e = .returned (.bool (byB g.d.se)) ∧ w = w') := fun w => isByte_any _ w
 have HC : Hid (∀ w, Calls Tryz.prog 55 #[.int .i64 g.c.va] w fun e w' => e = .returned (.bool (byB g.c.va)) ∧ w = w') := fun w => isByte_any _ w
 have hM := Mm.nil w
 rw [okG_parts]
 by_cases h1 : 1 ≤ g.st
 case neg =>
  rw [decide_eq_false h1, Bool.false_and]
  go_enter Tryz.func24, Tryz.ntmps24
  repeat' (first | (go_big_may; first | (refine v_box rfl rfl rfl ?_; intro u zg hN; replace hM := hM.new hN; clear hN) | (refine v_get rfl rfl (by first | exact lod_int | exact lod_str | exact lod_fcs | exact lod_err) rfl hM.at0 rfl ?_)) | go_values | go_skip | go_guarded | go_step | go_upon | (simp only [Int.not_lt, Int.not_le] at *; go_simp))
  go_ret
  exact ⟨rfl, hM.below⟩
 rw [decide_eq_true h1, Bool.true_and]
 by_cases h2 : g.st ≤ 9
 case neg =>
  rw [decide_eq_false h2, Bool.false_and]
  go_enter Tryz.func24, Tryz.ntmps24
  repeat' (first | (go_big_may; first | (refine v_box rfl rfl rfl ?_; intro u zg hN; replace hM := hM.new hN; clear hN) | (refine v_get rfl rfl (by first | exact lod_int | exact lod_str | exact lod_fcs | exact lod_err) rfl hM.at0 rfl ?_)) | go_values | go_skip | go_guarded | go_step | go_upon | (simp only [Int.not_lt, Int.not_le] at *; go_simp))
  go_ret
  exact ⟨rfl, hM.below⟩
 rw [decide_eq_true h2, Bool.true_and]
 by_cases h3 : 0 ≤ g.tr
 case neg =>
  rw [decide_eq_false h3, Bool.false_and]
  go_enter Tryz.func24, Tryz.ntmps24
  repeat' (first | (go_big_may; first | (refine v_box rfl rfl rfl ?_; intro u zg hN; replace hM := hM.new hN; clear hN) | (refine v_get rfl rfl (by first | exact lod_int | exact lod_str | exact lod_fcs | exact lod_err) rfl hM.at0 rfl ?_)) | go_values | go_skip | go_guarded | go_step | go_upon | (simp only [Int.not_lt, Int.not_le] at *; go_simp))
  go_ret
  exact ⟨rfl, hM.below⟩
 rw [decide_eq_true h3, Bool.true_and]
 by_cases h4 : g.tr < 3
 case neg =>
  rw [decide_eq_false h4, Bool.false_and]
  go_enter Tryz.func24, Tryz.ntmps24
  repeat' (first | (go_big_may; first | (refine v_box rfl rfl rfl ?_; intro u zg hN; replace hM := hM.new hN; clear hN) | (refine v_get rfl rfl (by first | exact lod_int | exact lod_str | exact lod_fcs | exact lod_err) rfl hM.at0 rfl ?_)) | go_values | go_skip | go_guarded | go_step | go_upon | (simp only [Int.not_lt, Int.not_le] at *; go_simp))
  go_ret
  exact ⟨rfl, hM.below⟩
 rw [decide_eq_true h4, Bool.true_and]
 cases zA : adB g.ad
 case false =>
  rw [zA] at HA
  rw [Bool.false_and]
  go_enter Tryz.func24, Tryz.ntmps24
  repeat' (first | (go_big_may; first | (refine v_box rfl rfl rfl ?_; intro u zg hN; replace hM := hM.new hN; clear hN) | (refine v_get rfl rfl (by first | exact lod_int | exact lod_str | exact lod_fcs | exact lod_err) rfl hM.at0 rfl ?_)) | go_values | go_skip | go_guarded | go_step | go_upon | (simp only [Int.not_lt, Int.not_le] at *; go_simp))
  refine (HA.out _).mono ?_
  rintro e u1 ⟨rfl, rfl⟩
  repeat' (first | (go_big_may; first | (refine v_get rfl rfl (by first | exact lod_int | exact lod_str | exact lod_fcs | exact lod_err) rfl hM.at0 rfl ?_)) | go_values | go_skip | go_guarded | go_step | go_upon | (simp only [Int.not_lt, Int.not_le] at *; go_simp))
  go_ret
  exact ⟨rfl, hM.below⟩
 rw [zA] at HA
 rw [Bool.true_and]
 by_cases h5 : 0 ≤ g.tot
 case neg =>
  rw [decide_eq_false h5, Bool.false_and]
  go_enter Tryz.func24, Tryz.ntmps24
  repeat' (first | (go_big_may; first | (refine v_box rfl rfl rfl ?_; intro u zg hN; replace hM := hM.new hN; clear hN) | (refine v_get rfl rfl (by first | exact lod_int | exact lod_str | exact lod_fcs | exact lod_err) rfl hM.at0 rfl ?_)) | go_values | go_skip | go_guarded | go_step | go_upon | (simp only [Int.not_lt, Int.not_le] at *; go_simp))
  refine (HA.out _).mono ?_
  rintro e u1 ⟨rfl, rfl⟩
  repeat' (first | (go_big_may; first | (refine v_get rfl rfl (by first | exact lod_int | exact lod_str | exact lod_fcs | exact lod_err) rfl hM.at0 rfl ?_)) | go_values | go_skip | go_guarded | go_step | go_upon | (simp only [Int.not_lt, Int.not_le] at *; go_simp))
  go_ret
  exact ⟨rfl, hM.below⟩
 rw [decide_eq_true h5, Bool.true_and]
 by_cases h6 : g.tot ≤ 512
 case neg =>
  rw [decide_eq_false h6, Bool.false_and]
  go_enter Tryz.func24, Tryz.ntmps24
  repeat' (first | (go_big_may; first | (refine v_box rfl rfl rfl ?_; intro u zg hN; replace hM := hM.new hN; clear hN) | (refine v_get rfl rfl (by first | exact lod_int | exact lod_str | exact lod_fcs | exact lod_err) rfl hM.at0 rfl ?_)) | go_values | go_skip | go_guarded | go_step | go_upon | (simp only [Int.not_lt, Int.not_le] at *; go_simp))
  refine (HA.out _).mono ?_
  rintro e u1 ⟨rfl, rfl⟩
  repeat' (first | (go_big_may; first | (refine v_get rfl rfl (by first | exact lod_int | exact lod_str | exact lod_fcs | exact lod_err) rfl hM.at0 rfl ?_)) | go_values | go_skip | go_guarded | go_step | go_upon | (simp only [Int.not_lt, Int.not_le] at *; go_simp))
  go_ret
  exact ⟨rfl, hM.below⟩
 rw [decide_eq_true h6, Bool.true_and]
 cases zB : byB g.d.se
 case false =>
  rw [zB] at HB
  rw [Bool.false_and]
  go_enter Tryz.func24, Tryz.ntmps24
  repeat' (first | (go_big_may; first | (refine v_box rfl rfl rfl ?_; intro u zg hN; replace hM := hM.new hN; clear hN) | (refine v_get rfl rfl (by first | exact lod_int | exact lod_str | exact lod_fcs | exact lod_err) rfl hM.at0 rfl ?_)) | go_values | go_skip | go_guarded | go_step | go_upon | (simp only [Int.not_lt, Int.not_le] at *; go_simp))
  refine (HA.out _).mono ?_
  rintro e u1 ⟨rfl, rfl⟩
  repeat' (first | (go_big_may; first | (refine v_get rfl rfl (by first | exact lod_int | exact lod_str | exact lod_fcs | exact lod_err) rfl hM.at0 rfl ?_)) | go_values | go_skip | go_guarded | go_step | go_upon | (simp only [Int.not_lt, Int.not_le] at *; go_simp))
  refine (HB.out _).mono ?_
  rintro e u1 ⟨rfl, rfl⟩
  repeat' (first | (go_big_may; first | (refine v_get rfl rfl (by first | exact lod_int | exact lod_str | exact lod_fcs | exact lod_err) rfl hM.at0 rfl ?_)) | go_values | go_skip | go_guarded | go_step | go_upon | (simp only [Int.not_lt, Int.not_le] at *; go_simp))
  go_ret
  exact ⟨rfl, hM.below⟩
 rw [zB] at HB
 rw [Bool.true_and]
 cases zC : byB g.c.va
 case false =>
  rw [zC] at HC
  skip
  go_enter Tryz.func24, Tryz.ntmps24
  repeat' (first | (go_big_may; first | (refine v_box rfl rfl rfl ?_; intro u zg hN; replace hM := hM.new hN; clear hN) | (refine v_get rfl rfl (by first | exact lod_int | exact lod_str | exact lod_fcs | exact lod_err) rfl hM.at0 rfl ?_)) | go_values | go_skip | go_guarded | go_step | go_upon | (simp only [Int.not_lt, Int.not_le] at *; go_simp))
  refine (HA.out _).mono ?_
  rintro e u1 ⟨rfl, rfl⟩
  repeat' (first | (go_big_may; first | (refine v_get rfl rfl (by first | exact lod_int | exact lod_str | exact lod_fcs | exact lod_err) rfl hM.at0 rfl ?_)) | go_values | go_skip | go_guarded | go_step | go_upon | (simp only [Int.not_lt, Int.not_le] at *; go_simp))
  refine (HB.out _).mono ?_
  rintro e u1 ⟨rfl, rfl⟩
  repeat' (first | (go_big_may; first | (refine v_get rfl rfl (by first | exact lod_int | exact lod_str | exact lod_fcs | exact lod_err) rfl hM.at0 rfl ?_)) | go_values | go_skip | go_guarded | go_step | go_upon | (simp only [Int.not_lt, Int.not_le] at *; go_simp))
  refine (HC.out _).mono ?_
  rintro e u1 ⟨rfl, rfl⟩
  repeat' (first | (go_big_may; first | (refine v_get rfl rfl (by first | exact lod_int | exact lod_str | exact lod_fcs | exact lod_err) rfl hM.at0 rfl ?_)) | go_values | go_skip | go_guarded | go_step | go_upon | (simp only [Int.not_lt, Int.not_le] at *; go_simp))
  go_ret
  exact ⟨rfl, hM.below⟩
 rw [zC] at HC
 go_enter Tryz.func24, Tryz.ntmps24
 repeat' (first | (go_big_may; first | (refine v_box rfl rfl rfl ?_; intro u zg hN; replace hM := hM.new hN; clear hN) | (refine v_get rfl rfl (by first | exact lod_int | exact lod_str | exact lod_fcs | exact lod_err) rfl hM.at0 rfl ?_)) | go_values | go_skip | go_guarded | go_step | go_upon | (simp only [Int.not_lt, Int.not_le] at *; go_simp))
 refine (HA.out _).mono ?_
 rintro e u1 ⟨rfl, rfl⟩
 repeat' (first | (go_big_may; first | (refine v_get rfl rfl (by first | exact lod_int | exact lod_str | exact lod_fcs | exact lod_err) rfl hM.at0 rfl ?_)) | go_values | go_skip | go_guarded | go_step | go_upon | (simp only [Int.not_lt, Int.not_le] at *; go_simp))
 refine (HB.out _).mono ?_
 rintro e u1 ⟨rfl, rfl⟩
 repeat' (first | (go_big_may; first | (refine v_get rfl rfl (by first | exact lod_int | exact lod_str | exact lod_fcs | exact lod_err) rfl hM.at0 rfl ?_)) | go_values | go_skip | go_guarded | go_step | go_upon | (simp only [Int.not_lt, Int.not_le] at *; go_simp))
 refine (HC.out _).mono ?_
 rintro e u1 ⟨rfl, rfl⟩
 repeat' (first | (go_big_may; first | (refine v_get rfl rfl (by first | exact lod_int | exact lod_str | exact lod_fcs | exact lod_err) rfl hM.at0 rfl ?_)) | go_values | go_skip | go_guarded | go_step | go_upon | (simp only [Int.not_lt, Int.not_le] at *; go_simp))
 go_ret
 exact ⟨rfl, hM.below⟩
theorem describe_any (v l : Int) (w : World) : Calls Tryz.prog 59 #[.int .i64 v, .int .i64 l] w fun e w' => e = .returned (ag (akl 5 v 0 l)) ∧ Below w.heap.size w w' := by
 have hM := Mm.nil w
 go_enter Tryz.func59, Tryz.ntmps59
 repeat' (first | (go_big_may; first | (refine v_alloc rfl zer_ask rfl ?_; intro u za hN; replace hM := hM.new hN; clear hN) | (refine v_build rfl rfl (bld_ask3 5 v l) ?hbv ?_; (case hbv => simp [Act.eval, Act.put])) | (refine v_fill rfl rfl row_ask rfl rfl hM.at0 (akl_vs _ _ _ _) rfl ?_; intro u hv hc; replace hM := hM.put0 hc hv; clear hv hc)) | go_values | go_skip | go_guarded | go_step | go_upon | (simp only [Int.not_lt, Int.not_le] at *; go_simp))
 first
 | (refine bodyPost_ret (ret_1 rfl rfl (ld_var row_ask hM.at0 rfl)) rfl ⟨rfl, hM.below⟩)
 | (go_ret; exact ⟨rfl, hM.below⟩)
theorem askG (g : Gr) (k : Int) (h : g.st = k) : akl (askK g) (askV g) 0 (askL g) = akl (if k = 2 then 4 else if k = 7 then 6 else 5) (if k = 1 then 256 else if k = 2 then g.ad else if k = 3 then 256 else if k = 4 then 512 else if k = 5 then 512 else if k = 6 then 768 + g.d.se else g.c.va) 0 (if k = 1 then 8 else if k = 3 then 18 else if k = 4 then 9 else if k = 5 then g.tot else if k = 6 then 255 else 0) := by
 subst h; rfl
set_option maxHeartbeats 4000000 in
theorem askAt_any (g : Gr) (u : Value) (w : World) (h : okG g = true) (h8 : ¬ 8 ≤ g.st) : Calls Tryz.prog 26 #[grV g u] w fun e w' => e = .returned (ag (akl (askK g) (askV g) 0 (askL g))) ∧ Below w.heap.size w w' := by
 have HD : Hid (∀ v l w, Calls Tryz.prog 59 #[.int .i64 v, .int .i64 l] w fun e w' => e = .returned (ag (akl 5 v 0 l)) ∧ Below w.heap.size w w') := describe_any
 have hse := ((okG_iff g).1 h).2.2.2.2.1
 have hwr : IntKind.i64.wrap (768 + g.d.se) = 768 + g.d.se := by rw [IntKind.wrap_i64]; omega
 have hM := Mm.nil w
 have h7 := st_seven h h8
 clear h h8 hse
 rcases h7 with h7 | h7
 ·rw [askG g 1 h7]
  go_enter Tryz.func26, Tryz.ntmps26
  repeat' (first | (go_big_may; first | (refine v_box rfl rfl rfl ?_; intro u zg hN; replace hM := hM.new hN; clear hN) | (refine v_alloc rfl zer_ask rfl ?_; intro u za hN; replace hM := hM.new hN; clear hN) | (refine v_get rfl rfl lod_int rfl hM.at1 (v := .int .i64 1) (by rw [← h7]; rfl) ?_) | (refine v_get rfl rfl (by first | exact lod_int | exact lod_str | exact lod_fcs | exact lod_err) rfl hM.at1 rfl ?_) | (refine v_build rfl rfl (bld_ask2 4 g.ad) ?hbv ?_; (case hbv => simp [Act.eval, Act.put])) | (refine v_build rfl rfl (bld_ask2 6 g.c.va) ?hbv ?_; (case hbv => simp [Act.eval, Act.put])) | (refine v_fill rfl rfl row_ask rfl rfl hM.at0 (akl_vs _ _ _ _) rfl ?_; intro u hv hc; replace hM := hM.put0 hc hv; clear hv hc)) | go_values | go_skip | go_guarded | go_step | go_upon | (simp only [Int.not_lt, Int.not_le] at *; go_simp))
  refine (HD.out _ _ _).mono ?_
  rintro e u1 ⟨rfl, hb⟩
  replace hM := hM.call hb
  repeat' (first | (go_big_may; first | (refine v_fill rfl rfl row_ask rfl rfl hM.at0 (akl_vs _ _ _ _) rfl ?_; intro u hv hc; replace hM := hM.put0 hc hv; clear hv hc)) | go_values | go_skip | go_guarded | go_step | go_upon | (simp only [Int.not_lt, Int.not_le] at *; go_simp))
  exact bodyPost_ret (ret_1 rfl rfl (ld_var row_ask hM.at0 rfl)) rfl ⟨rfl, hM.below⟩
 rcases h7 with h7 | h7
 ·rw [askG g 2 h7]
  go_enter Tryz.func26, Tryz.ntmps26
  repeat' (first | (go_big_may; first | (refine v_box rfl rfl rfl ?_; intro u zg hN; replace hM := hM.new hN; clear hN) | (refine v_alloc rfl zer_ask rfl ?_; intro u za hN; replace hM := hM.new hN; clear hN) | (refine v_get rfl rfl lod_int rfl hM.at1 (v := .int .i64 2) (by rw [← h7]; rfl) ?_) | (refine v_get rfl rfl (by first | exact lod_int | exact lod_str | exact lod_fcs | exact lod_err) rfl hM.at1 rfl ?_) | (refine v_build rfl rfl (bld_ask2 4 g.ad) ?hbv ?_; (case hbv => simp [Act.eval, Act.put])) | (refine v_build rfl rfl (bld_ask2 6 g.c.va) ?hbv ?_; (case hbv => simp [Act.eval, Act.put])) | (refine v_fill rfl rfl row_ask rfl rfl hM.at0 (akl_vs _ _ _ _) rfl ?_; intro u hv hc; replace hM := hM.put0 hc hv; clear hv hc)) | go_values | go_skip | go_guarded | go_step | go_upon | (simp only [Int.not_lt, Int.not_le] at *; go_simp))
  exact bodyPost_ret (ret_1 rfl rfl (ld_var row_ask hM.at0 rfl)) rfl ⟨rfl, hM.below⟩
 rcases h7 with h7 | h7
 ·rw [askG g 3 h7]
  go_enter Tryz.func26, Tryz.ntmps26
  repeat' (first | (go_big_may; first | (refine v_box rfl rfl rfl ?_; intro u zg hN; replace hM := hM.new hN; clear hN) | (refine v_alloc rfl zer_ask rfl ?_; intro u za hN; replace hM := hM.new hN; clear hN) | (refine v_get rfl rfl lod_int rfl hM.at1 (v := .int .i64 3) (by rw [← h7]; rfl) ?_) | (refine v_get rfl rfl (by first | exact lod_int | exact lod_str | exact lod_fcs | exact lod_err) rfl hM.at1 rfl ?_) | (refine v_build rfl rfl (bld_ask2 4 g.ad) ?hbv ?_; (case hbv => simp [Act.eval, Act.put])) | (refine v_build rfl rfl (bld_ask2 6 g.c.va) ?hbv ?_; (case hbv => simp [Act.eval, Act.put])) | (refine v_fill rfl rfl row_ask rfl rfl hM.at0 (akl_vs _ _ _ _) rfl ?_; intro u hv hc; replace hM := hM.put0 hc hv; clear hv hc)) | go_values | go_skip | go_guarded | go_step | go_upon | (simp only [Int.not_lt, Int.not_le] at *; go_simp))
  refine (HD.out _ _ _).mono ?_
  rintro e u1 ⟨rfl, hb⟩
  replace hM := hM.call hb
  repeat' (first | (go_big_may; first | (refine v_fill rfl rfl row_ask rfl rfl hM.at0 (akl_vs _ _ _ _) rfl ?_; intro u hv hc; replace hM := hM.put0 hc hv; clear hv hc)) | go_values | go_skip | go_guarded | go_step | go_upon | (simp only [Int.not_lt, Int.not_le] at *; go_simp))
  exact bodyPost_ret (ret_1 rfl rfl (ld_var row_ask hM.at0 rfl)) rfl ⟨rfl, hM.below⟩
 rcases h7 with h7 | h7
 ·rw [askG g 4 h7]
  go_enter Tryz.func26, Tryz.ntmps26
  repeat' (first | (go_big_may; first | (refine v_box rfl rfl rfl ?_; intro u zg hN; replace hM := hM.new hN; clear hN) | (refine v_alloc rfl zer_ask rfl ?_; intro u za hN; replace hM := hM.new hN; clear hN) | (refine v_get rfl rfl lod_int rfl hM.at1 (v := .int .i64 4) (by rw [← h7]; rfl) ?_) | (refine v_get rfl rfl (by first | exact lod_int | exact lod_str | exact lod_fcs | exact lod_err) rfl hM.at1 rfl ?_) | (refine v_build rfl rfl (bld_ask2 4 g.ad) ?hbv ?_; (case hbv => simp [Act.eval, Act.put])) | (refine v_build rfl rfl (bld_ask2 6 g.c.va) ?hbv ?_; (case hbv => simp [Act.eval, Act.put])) | (refine v_fill rfl rfl row_ask rfl rfl hM.at0 (akl_vs _ _ _ _) rfl ?_; intro u hv hc; replace hM := hM.put0 hc hv; clear hv hc)) | go_values | go_skip | go_guarded | go_step | go_upon | (simp only [Int.not_lt, Int.not_le] at *; go_simp))
  refine (HD.out _ _ _).mono ?_
  rintro e u1 ⟨rfl, hb⟩
  replace hM := hM.call hb
  repeat' (first | (go_big_may; first | (refine v_fill rfl rfl row_ask rfl rfl hM.at0 (akl_vs _ _ _ _) rfl ?_; intro u hv hc; replace hM := hM.put0 hc hv; clear hv hc)) | go_values | go_skip | go_guarded | go_step | go_upon | (simp only [Int.not_lt, Int.not_le] at *; go_simp))
  exact bodyPost_ret (ret_1 rfl rfl (ld_var row_ask hM.at0 rfl)) rfl ⟨rfl, hM.below⟩
 rcases h7 with h7 | h7
 ·rw [askG g 5 h7]
  go_enter Tryz.func26, Tryz.ntmps26
  repeat' (first | (go_big_may; first | (refine v_box rfl rfl rfl ?_; intro u zg hN; replace hM := hM.new hN; clear hN) | (refine v_alloc rfl zer_ask rfl ?_; intro u za hN; replace hM := hM.new hN; clear hN) | (refine v_get rfl rfl lod_int rfl hM.at1 (v := .int .i64 5) (by rw [← h7]; rfl) ?_) | (refine v_get rfl rfl (by first | exact lod_int | exact lod_str | exact lod_fcs | exact lod_err) rfl hM.at1 rfl ?_) | (refine v_build rfl rfl (bld_ask2 4 g.ad) ?hbv ?_; (case hbv => simp [Act.eval, Act.put])) | (refine v_build rfl rfl (bld_ask2 6 g.c.va) ?hbv ?_; (case hbv => simp [Act.eval, Act.put])) | (refine v_fill rfl rfl row_ask rfl rfl hM.at0 (akl_vs _ _ _ _) rfl ?_; intro u hv hc; replace hM := hM.put0 hc hv; clear hv hc)) | go_values | go_skip | go_guarded | go_step | go_upon | (simp only [Int.not_lt, Int.not_le] at *; go_simp))
  refine (HD.out _ _ _).mono ?_
  rintro e u1 ⟨rfl, hb⟩
  replace hM := hM.call hb
  repeat' (first | (go_big_may; first | (refine v_fill rfl rfl row_ask rfl rfl hM.at0 (akl_vs _ _ _ _) rfl ?_; intro u hv hc; replace hM := hM.put0 hc hv; clear hv hc)) | go_values | go_skip | go_guarded | go_step | go_upon | (simp only [Int.not_lt, Int.not_le] at *; go_simp))
  exact bodyPost_ret (ret_1 rfl rfl (ld_var row_ask hM.at0 rfl)) rfl ⟨rfl, hM.below⟩
 rcases h7 with h7 | h7
 ·rw [askG g 6 h7]
  go_enter Tryz.func26, Tryz.ntmps26
  repeat' (first | (go_big_may; first | (refine v_box rfl rfl rfl ?_; intro u zg hN; replace hM := hM.new hN; clear hN) | (refine v_alloc rfl zer_ask rfl ?_; intro u za hN; replace hM := hM.new hN; clear hN) | (refine v_get rfl rfl lod_int rfl hM.at1 (v := .int .i64 6) (by rw [← h7]; rfl) ?_) | (refine v_get rfl rfl (by first | exact lod_int | exact lod_str | exact lod_fcs | exact lod_err) rfl hM.at1 rfl ?_) | (refine v_build rfl rfl (bld_ask2 4 g.ad) ?hbv ?_; (case hbv => simp [Act.eval, Act.put])) | (refine v_build rfl rfl (bld_ask2 6 g.c.va) ?hbv ?_; (case hbv => simp [Act.eval, Act.put])) | (refine v_fill rfl rfl row_ask rfl rfl hM.at0 (akl_vs _ _ _ _) rfl ?_; intro u hv hc; replace hM := hM.put0 hc hv; clear hv hc)) | go_values | go_skip | go_guarded | go_step | go_upon | (simp only [Int.not_lt, Int.not_le] at *; go_simp))
  refine (HD.out _ _ _).mono ?_
  rintro e u1 ⟨rfl, hb⟩
  replace hM := hM.call hb
  repeat' (first | (go_big_may; first | (refine v_fill rfl rfl row_ask rfl rfl hM.at0 (akl_vs _ _ _ _) rfl ?_; intro u hv hc; replace hM := hM.put0 hc hv; clear hv hc)) | go_values | go_skip | go_guarded | go_step | go_upon | (simp only [Int.not_lt, Int.not_le] at *; go_simp))
  exact bodyPost_ret (ret_1 rfl rfl (ld_var row_ask hM.at0 rfl)) rfl ⟨rfl, hM.below⟩
 skip
 rw [askG g 7 h7]
 go_enter Tryz.func26, Tryz.ntmps26
 repeat' (first | (go_big_may; first | (refine v_box rfl rfl rfl ?_; intro u zg hN; replace hM := hM.new hN; clear hN) | (refine v_alloc rfl zer_ask rfl ?_; intro u za hN; replace hM := hM.new hN; clear hN) | (refine v_get rfl rfl lod_int rfl hM.at1 (v := .int .i64 7) (by rw [← h7]; rfl) ?_) | (refine v_get rfl rfl (by first | exact lod_int | exact lod_str | exact lod_fcs | exact lod_err) rfl hM.at1 rfl ?_) | (refine v_build rfl rfl (bld_ask2 4 g.ad) ?hbv ?_; (case hbv => simp [Act.eval, Act.put])) | (refine v_build rfl rfl (bld_ask2 6 g.c.va) ?hbv ?_; (case hbv => simp [Act.eval, Act.put])) | (refine v_fill rfl rfl row_ask rfl rfl hM.at0 (akl_vs _ _ _ _) rfl ?_; intro u hv hc; replace hM := hM.put0 hc hv; clear hv hc)) | go_values | go_skip | go_guarded | go_step | go_upon | (simp only [Int.not_lt, Int.not_le] at *; go_simp))
 exact bodyPost_ret (ret_1 rfl rfl (ld_var row_ask hM.at0 rfl)) rfl ⟨rfl, hM.below⟩
end Go.Proofs.YtonheibhbilhhaaGreat.greet
namespace Go.Proofs.YtonheibhbilhhaaGreat.greet
open Go Go.RowKit Go.PlainAid Go.Proofs.YtonheibhbilhhaaGreat.lane Go.Proofs.YtonheibhbilhhaaGreat.desc
open Go.Proofs.YtonheibhbilhhaaGreat.setup (inS inS_iff wrT wrC good txt)
set_option linter.unusedVariables false
set_option linter.unusedSimpArgs false
set_option maxRecDepth 100000
set_option maxHeartbeats 4000000 in
theorem next_any (g : Gr) (u : Value) (w : World) : Calls Tryz.prog 8 #[grV g u] w fun e w' => e = .returned (.tuple #[.string (nxT g), .int .i64 (nxE g)]) ∧ Below w.heap.size w w' := by
 have HR : Hid (∀ w, Calls Tryz.prog 24 #[grV g u] w fun e w' => e = .returned (.bool (okG g)) ∧ Below w.heap.size w w') := fun w => isRight_any g u w
 have hM := Mm.nil w
 unfold nxT nxE
 by_cases h : okG g = false
 ·rw [h] at HR
  rw [if_pos h, if_pos h]
  go_enter Tryz.func8, Tryz.ntmps8
  repeat' (first | (go_big_may; first | (refine v_box rfl rfl rfl ?_; intro u zg hN; replace hM := hM.new hN; clear hN) | (refine v_load rfl rfl row_greeting rfl hM.at0 (Nat.le_refl _) (cut_all rfl) ?_)) | go_values | go_skip | go_guarded | go_step | go_upon | (simp only [Int.not_lt, Int.not_le] at *; go_simp))
  refine (HR.out _).mono ?_
  rintro e u1 ⟨rfl, hb⟩
  replace hM := hM.call hb
  repeat' (first | go_values | go_skip | go_guarded | go_step | go_upon | (simp only [Int.not_lt, Int.not_le] at *; go_simp))
  go_ret2
  exact ⟨rfl, hM.below⟩
 have h1 : okG g = true := by simpa using h
 rw [h1] at HR
 rw [if_neg h, if_neg h]
 by_cases h8 : 8 ≤ g.st
 ·rw [if_pos h8, if_pos h8]
  have h9 := ((okG_iff g).1 h1).1.2
  have h89 : g.st = 8 ∨ g.st = 9 := by omega
  clear h h1 h8 h9
  rcases h89 with h89 | h89
  all_goals
   go_enter Tryz.func8, Tryz.ntmps8
   repeat' (first | (go_big_may; first | (refine v_box rfl rfl rfl ?_; intro u zg hN; replace hM := hM.new hN; clear hN) | (refine v_load rfl rfl row_greeting rfl hM.at0 (Nat.le_refl _) (cut_all rfl) ?_)) | go_values | go_skip | go_guarded | go_step | go_upon | (simp only [Int.not_lt, Int.not_le] at *; go_simp))
   refine (HR.out _).mono ?_
   rintro e u1 ⟨rfl, hb⟩
   replace hM := hM.call hb
   repeat' (first | (go_big_may; first | (refine v_get rfl rfl lod_int rfl hM.at0 (v := .int .i64 8) (by rw [← h89]; rfl) ?_) | (refine v_get rfl rfl lod_int rfl hM.at0 (v := .int .i64 9) (by rw [← h89]; rfl) ?_)) | go_values | go_skip | go_guarded | go_step | go_upon | (simp only [Int.not_lt, Int.not_le] at *; go_simp))
   go_ret2
   exact ⟨rfl, hM.below⟩
 ·rw [if_neg h8, if_neg h8]
  have HK : Hid (∀ w, Calls Tryz.prog 26 #[grV g u] w fun e w' => e = .returned (ag (akl (askK g) (askV g) 0 (askL g))) ∧ Below w.heap.size w w') := fun w => askAt_any g u w h1 h8
  have HW : Hid (∀ w, Calls Tryz.prog 25 #[ag (akl (askK g) (askV g) 0 (askL g))] w fun e w' => e = .returned (.tuple #[.string (wrT (askK g) (askV g) 0 (askL g)), .int .i64 0]) ∧ Below w.heap.size w w') := fun w => by
   have := setup.write_any (askK g) (askV g) 0 (askL g) (by omega) w
   have hg := ask_good h1 h8
   unfold wrC at this
   rw [if_pos hg] at this
   exact this
  have e8 : (g.st == 8) = false := by simp; omega
  have e9 : (g.st == 9) = false := by simp; have := st_seven h1 h8; omega
  clear h h1 h8
  go_enter Tryz.func8, Tryz.ntmps8
  repeat' (first | (go_big_may; first | (refine v_box rfl rfl rfl ?_; intro u zg hN; replace hM := hM.new hN; clear hN) | (refine v_load rfl rfl row_greeting rfl hM.at0 (Nat.le_refl _) (cut_all rfl) ?_)) | go_values | go_skip | go_guarded | go_step | go_upon | (simp only [Int.not_lt, Int.not_le] at *; go_simp))
  refine (HR.out _).mono ?_
  rintro e u1 ⟨rfl, hb⟩
  replace hM := hM.call hb
  repeat' (first | (go_big_may; first | (refine v_get rfl rfl (by first | exact lod_int | exact lod_str | exact lod_fcs | exact lod_err) rfl hM.at0 rfl ?_) | (refine v_load rfl rfl row_greeting rfl hM.at0 (Nat.le_refl _) (cut_all rfl) ?_)) | go_values | go_skip | go_guarded | go_step | go_upon | (simp only [Int.not_lt, Int.not_le] at *; go_simp))
  refine (HK.out _).mono ?_
  rintro e u2 ⟨rfl, hb⟩
  replace hM := hM.call hb
  repeat' (first | go_values | go_skip | go_guarded | go_step | go_upon | (simp only [Int.not_lt, Int.not_le] at *; go_simp))
  refine (HW.out _).mono ?_
  rintro e u3 ⟨rfl, hb⟩
  replace hM := hM.call hb
  repeat' (first | go_values | go_skip | go_guarded | go_step | go_upon | (simp only [Int.not_lt, Int.not_le] at *; go_simp))
  go_ret2
  exact ⟨rfl, hM.below⟩
set_option maxHeartbeats 1000000 in
theorem new_any (a : Int) (w : World) : Calls Tryz.prog 22 #[.int .i64 a] w fun e w' => e = .returned (.tuple #[grV (if adB a = true then nwG a else noGr) nilS, .int .i64 (if adB a = true then 0 else 1)]) ∧ Below w.heap.size w w' := by
 have HA : Hid (∀ w, Calls Tryz.prog 53 #[.int .i64 a] w fun e w' => e = .returned (.bool (adB a)) ∧ w = w') := fun w => isAddr_any _ w
 have hM := Mm.nil w
 cases h : adB a
 all_goals
  rw [h] at HA
  go_enter Tryz.func22, Tryz.ntmps22
  repeat' (first | (go_big_may; first | (refine v_alloc rfl zer_greeting rfl ?_; intro u zg hN; replace hM := hM.new hN; clear hN)) | go_values | go_skip | go_guarded | go_step | go_upon | (simp only [Int.not_lt, Int.not_le] at *; go_simp))
  refine (HA.out _).mono ?_
  rintro e u1 ⟨rfl, rfl⟩
  repeat' (first | (go_big_may; first | (refine v_build rfl rfl (bld_gr0) ?hbv ?_; (case hbv => simp [Act.eval, Act.put])) | (refine v_build rfl rfl (bld_grn a) ?hbv ?_; (case hbv => simp [Act.eval, Act.put])) | (refine v_fill rfl rfl row_greeting rfl rfl hM.at0 (grl_vs _ rfl) rfl ?_; intro u hv hc; replace hM := hM.put0 hc hv; clear hv hc)) | go_values | go_skip | go_guarded | go_step | go_upon | (simp only [Int.not_lt, Int.not_le] at *; go_simp))
  exact bodyPost_ret (ret_2 rfl rfl (ld_var row_greeting hM.at0 rfl) rfl) rfl ⟨rfl, hM.below⟩
end Go.Proofs.YtonheibhbilhhaaGreat.greet
