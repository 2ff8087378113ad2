/- desc: what configOf answers. -/
import Derived.Test.YtebaepkghbihkaaDescW
import Derived.Deep.RegionHeld3
import Derived.Deep.AppendLies
import Derived.Deep.RegionLaw
namespace Go.Proofs.Ytebaepkghbihkaa.desc
open Go.RowKit Go.PlainAid Go.Proofs.Ytebaepkghbihkaa.lane
set_option linter.unusedVariables false
set_option linter.unusedSimpArgs false

abbrev cfO (a b c d : Int) (v : Value) : Obj := .cells #[.int .i64 a, .int .i64 b, .int .i64 c, .int .i64 d, v] 26
theorem csetX {v : World} {R : Nat} {cs cs' : Array Value} {T : TypeId} (k : Nat) (x : Value) (h : v.heap[R]? = some (.cells cs T)) (hk : cs.setIfInBounds k x = cs') : (v.setCell ⟨R, k, none⟩ x).heap[R]? = some (.cells cs' T) := by
  rw [← hk]; exact heap_setCell_same v R k cs T x h
theorem Inv.setR {w0 wr : World} {X R k : Nat} {va na atr po : Int} {vf u : Value} {L : FL} {cs : Array Value} (h : Inv w0 wr X va na atr po vf L) (hR : wr.heap[R]? = some (.cells cs 26)) (hne : X ≠ R) (hB : w0.heap.size ≤ R) :
    Inv w0 (wr.setCell ⟨R, k, none⟩ u) X va na atr po vf L :=
  ⟨(Below.heap_setCell _ _ _ _ hne).trans h.box, h.hX, ownsRow_setCell_other h.row (box_ne h.row hR (by decide)) u, fun q hq => ownsRow_setCell_other (h.tx q hq) (box_ne (h.tx q hq) hR (by decide)) u,
    fun q hq => ownsRow_setCell_other (h.en q hq) (box_ne (h.en q hq) hR (by decide)) u, h.sx, h.sn, h.bb, h.bel.setCell hB u⟩
/-- a whole configuration is put in the place R -/
theorem ch5 (W : World) (R : Nat) (e0 e1 e2 e3 : Int) (e4 : Value) (a b c d : Int) (v : Value) (h : W.heap[R]? = some (cfO e0 e1 e2 e3 e4)) :
    ∃ wf, (((((W.setCell ⟨R, 0, none⟩ (.int .i64 a)).setCell ⟨R, 1, none⟩ (.int .i64 b)).setCell ⟨R, 2, none⟩ (.int .i64 c)).setCell ⟨R, 3, none⟩ (.int .i64 d)).setCell ⟨R, 4, none⟩ v) = wf ∧ wf.heap[R]? = some (cfO a b c d v) ∧
      (∀ w0 : World, w0.heap.size ≤ R → Below w0.heap.size w0 W → Below w0.heap.size w0 wf) ∧
      (∀ (w0 : World) (X : Nat) (va na atr po : Int) (vf : Value) (L : FL), w0.heap.size ≤ R → X ≠ R → Inv w0 W X va na atr po vf L → Inv w0 wf X va na atr po vf L) := by
  have h0 := csetX (cs' := #[.int .i64 a, .int .i64 e1, .int .i64 e2, .int .i64 e3, e4]) 0 (.int .i64 a) h rfl
  have h1 := csetX (cs' := #[.int .i64 a, .int .i64 b, .int .i64 e2, .int .i64 e3, e4]) 1 (.int .i64 b) h0 rfl
  have h2 := csetX (cs' := #[.int .i64 a, .int .i64 b, .int .i64 c, .int .i64 e3, e4]) 2 (.int .i64 c) h1 rfl
  have h3 := csetX (cs' := #[.int .i64 a, .int .i64 b, .int .i64 c, .int .i64 d, e4]) 3 (.int .i64 d) h2 rfl
  have h4 := csetX (cs' := #[.int .i64 a, .int .i64 b, .int .i64 c, .int .i64 d, v]) 4 v h3 rfl
  exact ⟨_, rfl, h4, fun w0 hR hb => ((((hb.setCell hR _).setCell hR _).setCell hR _).setCell hR _).setCell hR _,
    fun w0 X va na atr po vf L hR hne hI => ((((hI.setR h hne hR).setR h0 hne hR).setR h1 hne hR).setR h2 hne hR).setR h3 hne hR⟩
theorem box5f {u : World} {X : Nat} {a b c d : Int} {v : Value} (h : u.heap[X]? = some (cfO a b c d v)) :
    (X < u.heap.size ∧ u.cell? ⟨X, 0, none⟩ = some (.int .i64 a) ∧ u.cell? ⟨X, 1, none⟩ = some (.int .i64 b) ∧ u.cell? ⟨X, 2, none⟩ = some (.int .i64 c) ∧ u.cell? ⟨X, 3, none⟩ = some (.int .i64 d) ∧ u.cell? ⟨X, 4, none⟩ = some v) ∧
    u.frozen? ⟨X, 0, none⟩ = false ∧ u.frozen? ⟨X, 1, none⟩ = false ∧ u.frozen? ⟨X, 2, none⟩ = false ∧ u.frozen? ⟨X, 3, none⟩ = false ∧ u.frozen? ⟨X, 4, none⟩ = false := by
  have hlt := (Array.getElem?_eq_some_iff.1 h).1
  have hf : ∀ i, u.frozen? ⟨X, i, none⟩ = false := fun i => frozen_of_row u X i _ _ h
  refine ⟨⟨hlt, ?_, ?_, ?_, ?_, ?_⟩, hf 0, hf 1, hf 2, hf 3, hf 4⟩ <;> (rw [cell_of_row u X _ _ _ (0, 0) h]; rfl)
theorem res_grow {wr w' : World} {B R s n : Nat} {e : TypeId} {v : Value} {xs : List Value} {cs : Array Value} (own : wr.ownsRow B e s v n xs) (hR : wr.heap[R]? = some (.cells cs 26)) (he : e ≠ 26) (hg : wr.grownBy w' v.ownBlock) :
    w'.heap[R]? = some (.cells cs 26) := (hg.block R (Array.getElem?_eq_some_iff.1 hR).1 (fun q => box_ne own hR he q.symm)).trans hR
theorem res_below {wr w' : World} {R : Nat} {o : Obj} (h : wr.heap[R]? = some o) (hb : Below wr.heap.size wr w') : w'.heap[R]? = some o := (hb.block R (Array.getElem?_eq_some_iff.1 h).1).trans h
theorem res_set {w : World} {R g k : Nat} {u : Value} {o : Obj} (h : w.heap[R]? = some o) (hne : R ≠ g) : (w.setCell ⟨g, k, none⟩ u).heap[R]? = some o := (Below.heap_setCell _ _ _ _ hne).trans h
set_option maxRecDepth 100000
/-- the rest of a slice of texts -/
theorem rest_texts (g off n c : Nat) (hnc : n + 1 ≤ c) : ∃ a1, (∀ W : World, (Instr.slice 27 (.slice (some ⟨g, off, none⟩) (n + 1) c) (some (.int .i64 1)) none none).run Try.prog W = .ok (.slice a1 n (c - 1)) W) ∧ (0 < n → a1 = some ⟨g, off + 1, none⟩) := by
  by_cases h : c = 1
  · refine ⟨some ⟨g, off, none⟩, fun W => ?_, fun h0 => by omega⟩
    · have := run_slice_l (P := Try.prog) (w := W) 27 (some ⟨g, off, none⟩) (n + 1) c Try.underlying27 .i64 1 (by omega) (by omega)
      simp [this, go_sem, sliced]
      subst h
      simp
  · refine ⟨some ⟨g, off + 1, none⟩, fun W => ?_, fun _ => rfl⟩
    have := run_slice_l (P := Try.prog) (w := W) 27 (some ⟨g, off, none⟩) (n + 1) c Try.underlying27 .i64 1 (by omega) (by omega)
    simp [this, go_sem, sliced]
    exact h
/-- the lists of the last face lie there, also behind a row of another kind that has grown -/
theorem Inv.last {w0 wr w' : World} {X gF cF s n : Nat} {va na atr po : Int} {D : FL} {q : Fc × Value × Value} {e : TypeId} {v : Value} {xs : List Value} (h : Inv w0 wr X va na atr po (.slice (some ⟨gF, 0, none⟩) (D.length + 1) cF) (D ++ [q]))
    (own : wr.ownsRow w0.heap.size e s v n xs) (he : e ≠ 64) (hg : wr.grownBy w' v.ownBlock) :
    (w'.cell? ⟨gF, D.length * 6 + 4, none⟩ = some q.2.1 ∧ w'.cell? ⟨gF, D.length * 6 + 5, none⟩ = some q.2.2) ∧ ∀ i, w'.frozen? ⟨gF, i, none⟩ = false := by
  have row0 := h.row
  rw [show (D ++ [q]).length = D.length + 1 by simp] at row0
  have row' : w'.ownsRow w0.heap.size 64 6 (.slice (some ⟨gF, 0, none⟩) (D.length + 1) cF) (D.length + 1) (fcells (D ++ [q])) := World.ownsRow.kept row0 hg (kind_ne row0 own (Ne.symm he))
  have hr : Rdg w' 6 (.slice (some ⟨gF, 0, none⟩) (D.length + 1) cF) (D.length + 1) (fcells (D ++ [q])) := Rdg.of row'
  obtain ⟨a, c, hv, h1, h2, h3, h4⟩ := hr
  obtain ⟨g', off, ha, hgl, hc⟩ := h4 (by omega)
  injection hv with e1 e2 e3
  rw [← e1] at ha
  injection ha with ha
  injection ha with e4 e5
  subst e4 e5
  have hat : (D ++ [q])[D.length]? = some q := by simp
  refine ⟨⟨?_, ?_⟩, fun i => World.ownsRow.frozenAt row' i⟩
  · have := hc _ _ (fcells_at _ _ _ hat 4 q.2.1 rfl); rwa [Nat.zero_add] at this
  · have := hc _ _ (fcells_at _ _ _ hat 5 q.2.2 rfl); rwa [Nat.zero_add] at this
theorem toFs_nil {st : Option (List Fc × Fc)} (h : toFs st = []) : st = none := by
  cases st with
  | none => rfl
  | some p => obtain ⟨d, f⟩ := p; simp [toFs] at h
theorem toFs_last {st : Option (List Fc × Fc)} {D : List Fc} {f : Fc} (h : toFs st = D ++ [f]) : st = some (D, f) := by
  cases st with
  | none => simp [toFs] at h
  | some p =>
    obtain ⟨d, g⟩ := p
    have h' : d ++ [g] = D ++ [f] := h
    obtain ⟨rfl, h2⟩ := List.append_inj' h' rfl
    injection h2 with h2
    subst h2
    rfl
theorem split_last {α : Type} (L : List α) : L = [] ∨ ∃ D q, L = D ++ [q] := by
  rcases List.eq_nil_or_concat L with h | ⟨D, q, h⟩
  · exact .inl h
  · exact .inr ⟨D, q, by rw [h]; simp⟩
/-- a call of a function that comes up in a region -/
theorem step_call {P : Program} {ops : Array Oper} {o : Oper} {a : Act} {w : World} {K : Act → World → Prop} {Q : Exit → Act → World → Prop} {E : Prop} (hgd : o.guard = none) (f : Nat) (args : Array Value)
    (hx : (execOp a.eval o).run P w = .ok (.enter f args) w) (h : Calls P f args w (fun e w' => ∃ v, e = .returned v ∧ K (a.put o.dst v) w')) :
    if Region.wanted o (yielded ops a.tmps) = true then Oper.wp P o a w K Q else E := by
  have hw : Region.wanted o (yielded ops a.tmps) = true := by simp [Region.wanted, hgd]
  rw [if_pos hw]
  unfold Oper.wp
  rw [hx]
  simp only [Oper.upon]
  refine h.mono ?_
  rintro e w' ⟨v, rfl, hk⟩
  exact hk
/-- what configOf answers of these pieces -/
def CoP (ps : List (List Int)) (w : World) (e : Ending) (w' : World) : Prop :=
  (confO ps = none ∧ e = .returned (.tuple #[cfV noC (.slice none 0 0), .bool false]) ∧ Below w.heap.size w w') ∨
  (∃ c vf L X, confO ps = some c ∧ e = .returned (.tuple #[cfV c vf, .bool true]) ∧ Inv w w' X c.va c.na c.atr c.po vf L ∧ L.map Prod.fst = c.fs)
theorem fold_at {st : Option (List Fc × Fc)} {r : List (List Int)} {k : Nat} {p : List Int} (h : r[k]? = some p) : foldP st (r.drop k) = match stepP st p with | none => none | some q => foldP q (r.drop (k + 1)) := by
  obtain ⟨hk, he⟩ := List.getElem?_eq_some_iff.1 h
  rw [List.drop_eq_getElem_cons hk, he, foldP]
  rfl
set_option maxRecDepth 100000 in
set_option maxHeartbeats 4000000 in
theorem configOf_none (v : Value) (ps : List (List Int)) (w : World) (h : Rts w v ps) (hb : BB ps) (hl : ∀ p ∈ ps, p.length ≤ 512) (hn : ps.length ≤ 512) (hnot : ∀ p r, ps = p :: r → p.length ≠ 9) :
    Calls Try.prog 44 #[v] w (CoP ps w) := by
  obtain ⟨w0, hw0⟩ : ∃ w0, w.alloc (cfO 0 0 0 0 (.slice none 0 0)) = w0 := ⟨_, rfl⟩
  have hb0 : Below w.heap.size w w0 := by rw [← hw0]; exact balloc _ _
  have hR0 : w0.heap[w.heap.size]? = some (cfO 0 0 0 0 (.slice none 0 0)) := by rw [← hw0]; exact (MapKept.heap_alloc w _).1
  obtain ⟨⟨hzR, z0, z1, z2, z3, z4⟩, f0, f1, f2, f3, f4⟩ := box5f hR0
  obtain ⟨wf, hwf, hRf, hBf, _⟩ := ch5 w0 w.heap.size _ _ _ _ _ 0 0 0 0 (.slice none 0 0) hR0
  have hBf2 := hBf w (Nat.le_refl _) hb0
  have hnone : confO ps = none := by
    cases ps with
    | nil => rfl
    | cons p r => rw [confO, if_neg (hnot p r rfl)]
  have HP : Hid (∀ u, Below w0.heap.size w0 u → u = u → True) := fun _ _ _ => trivial
  obtain ⟨a, c, rfl, hlc, hcm, hc⟩ := h.cell
  unfold maxLen at hcm
  have HE : Hid (CoP ps w (.returned (.tuple #[cfV noC (.slice none 0 0), .bool false])) wf) := .inl ⟨hnone, rfl, hBf2⟩
  obtain ⟨⟨hzf, r0, r1, r2, r3, r4⟩, _⟩ := box5f hRf
  cases ps with
  | nil =>
    simp only [List.length_nil] at *
    clear hc hnone hBf hRf hR0 hb0 HP h hb hl hnot
    go_enter Try.func44, Try.ntmps44
    go_wp2
    try rw [hwf]
    exact bodyPost_ret (v := .tuple #[cfV noC (.slice none 0 0), .bool false]) (by simp [results, Try.results44, go_sem, hzf, r0, r1, r2, r3, r4, noC]) rfl HE.out
  | cons p r =>
    obtain ⟨g, off, rfl, c0⟩ := hc 0 p rfl
    have c1 := kc (show Below w.heap.size w w0 from hb0) c0
    rw [Nat.add_zero] at c1
    have hz := str_size p
    have hp9 := hnot p r rfl
    have hp512 := hl p (by simp)
    have e9 : (((strOfNums p).size : Int) != 9) = true := by simp; omega
    have hsz : (strOfNums p).size ≤ 512 := by omega
    obtain ⟨m, hm⟩ : ∃ m, r.length = m := ⟨_, rfl⟩
    simp only [List.length_cons, hm] at hlc hn
    rw [List.length_cons, hm]
    generalize strOfNums p = s at *
    clear hc hnone hBf hRf hR0 hb0 HP h hb hl hnot hp9 hp512 hz c0 hm
    go_enter Try.func44, Try.ntmps44
    go_wp2
    try rw [hwf]
    exact bodyPost_ret (v := .tuple #[cfV noC (.slice none 0 0), .bool false]) (by simp [results, Try.results44, go_sem, hzf, r0, r1, r2, r3, r4, noC]) rfl HE.out
end Go.Proofs.Ytebaepkghbihkaa.desc
