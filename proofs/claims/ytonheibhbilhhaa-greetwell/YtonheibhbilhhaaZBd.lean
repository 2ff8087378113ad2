/- desc: what configOf answers. -/
import Derived.Test.YtonheibhbilhhaaZBb
import Derived.Deep.RegionHeld3
import Derived.Deep.AppendLies
import Derived.Deep.RegionLaw
namespace Go.Proofs.Ytonheibhbilhhaa.desc
open Go.RowKit Go.PlainAid Go.Proofs.Ytonheibhbilhhaa.lane
set_option linter.unusedVariables false
set_option linter.unusedSimpArgs false

abbrev cfO (a b c d : Int) (v : Value) : Obj := .cells #[.int .i64 a, .int .i64 b, .int .i64 c, .int .i64 d, v] 26
theorem csetX {v : World} {R : Nat} {cs cs' : Array Value} {T : TypeId} (k : Nat) (x : Value) (h : v.heap[R]? = some (.cells cs T)) (hk : cs.setIfInBounds k x = cs') : (v.setCell ⟨R, k, none⟩ x).heap[R]? = some (.cells cs' T) := by
  rw [← hk]; exact heap_setCell_same v R k cs T x h
theorem Inv.setR {w0 wr : World} {X R k : Nat} {va na atr po : Int} {vf u : Value} {L : FL} {cs : Array Value} (h : Inv w0 wr X va na atr po vf L) (hR : wr.heap[R]? = some (.cells cs 26)) (hne : X ≠ R) (hB : w0.heap.size ≤ R) :
    Inv w0 (wr.setCell ⟨R, k, none⟩ u) X va na atr po vf L :=
  ⟨(Below.heap_setCell _ _ _ _ hne).trans h.box, h.hX, ownsRow_setCell_other h.row (box_ne h.row hR (by decide)) u, fun q hq => ownsRow_setCell_other (h.tx q hq) (box_ne (h.tx q hq) hR (by decide)) u,
    fun q hq => ownsRow_setCell_other (h.en q hq) (box_ne (h.en q hq) hR (by decide)) u, h.sx, h.sn, h.bb, h.bel.setCell hB u⟩
/-- a whole configuration is put in the place R -/
theorem ch5 (W : World) (R : Nat) (e0 e1 e2 e3 : Int) (e4 : Value) (a b c d : Int) (v : Value) (h : W.heap[R]? = some (cfO e0 e1 e2 e3 e4)) :
    ∃ wf, (((((W.setCell ⟨R, 0, none⟩ (.int .i64 a)).setCell ⟨R, 1, none⟩ (.int .i64 b)).setCell ⟨R, 2, none⟩ (.int .i64 c)).setCell ⟨R, 3, none⟩ (.int .i64 d)).setCell ⟨R, 4, none⟩ v) = wf ∧ wf.heap[R]? = some (cfO a b c d v) ∧
      (∀ w0 : World, w0.heap.size ≤ R → Below w0.heap.size w0 W → Below w0.heap.size w0 wf) ∧
      (∀ (w0 : World) (X : Nat) (va na atr po : Int) (vf : Value) (L : FL), w0.heap.size ≤ R → X ≠ R → Inv w0 W X va na atr po vf L → Inv w0 wf X va na atr po vf L) := by
  have h0 := csetX (cs' := #[.int .i64 a, .int .i64 e1, .int .i64 e2, .int .i64 e3, e4]) 0 (.int .i64 a) h rfl
  have h1 := csetX (cs' := #[.int .i64 a, .int .i64 b, .int .i64 e2, .int .i64 e3, e4]) 1 (.int .i64 b) h0 rfl
  have h2 := csetX (cs' := #[.int .i64 a, .int .i64 b, .int .i64 c, .int .i64 e3, e4]) 2 (.int .i64 c) h1 rfl
  have h3 := csetX (cs' := #[.int .i64 a, .int .i64 b, .int .i64 c, .int .i64 d, e4]) 3 (.int .i64 d) h2 rfl
  have h4 := csetX (cs' := #[.int .i64 a, .int .i64 b, .int .i64 c, .int .i64 d, v]) 4 v h3 rfl
  exact ⟨_, rfl, h4, fun w0 hR hb => ((((hb.setCell hR _).setCell hR _).setCell hR _).setCell hR _).setCell hR _,
    fun w0 X va na atr po vf L hR hne hI => ((((hI.setR h hne hR).setR h0 hne hR).setR h1 hne hR).setR h2 hne hR).setR h3 hne hR⟩
theorem box5f {u : World} {X : Nat} {a b c d : Int} {v : Value} (h : u.heap[X]? = some (cfO a b c d v)) :
    (X < u.heap.size ∧ u.cell? ⟨X, 0, none⟩ = some (.int .i64 a) ∧ u.cell? ⟨X, 1, none⟩ = some (.int .i64 b) ∧ u.cell? ⟨X, 2, none⟩ = some (.int .i64 c) ∧ u.cell? ⟨X, 3, none⟩ = some (.int .i64 d) ∧ u.cell? ⟨X, 4, none⟩ = some v) ∧
    u.frozen? ⟨X, 0, none⟩ = false ∧ u.frozen? ⟨X, 1, none⟩ = false ∧ u.frozen? ⟨X, 2, none⟩ = false ∧ u.frozen? ⟨X, 3, none⟩ = false ∧ u.frozen? ⟨X, 4, none⟩ = false := by
  have hlt := (Array.getElem?_eq_some_iff.1 h).1
  have hf : ∀ i, u.frozen? ⟨X, i, none⟩ = false := fun i => frozen_of_row u X i _ _ h
  refine ⟨⟨hlt, ?_, ?_, ?_, ?_, ?_⟩, hf 0, hf 1, hf 2, hf 3, hf 4⟩ <;> (rw [cell_of_row u X _ _ _ (0, 0) h]; rfl)
theorem res_grow {wr w' : World} {B R s n : Nat} {e : TypeId} {v : Value} {xs : List Value} {cs : Array Value} (own : wr.ownsRow B e s v n xs) (hR : wr.heap[R]? = some (.cells cs 26)) (he : e ≠ 26) (hg : wr.grownBy w' v.ownBlock) :
    w'.heap[R]? = some (.cells cs 26) := (hg.block R (Array.getElem?_eq_some_iff.1 hR).1 (fun q => box_ne own hR he q.symm)).trans hR
theorem res_below {wr w' : World} {R : Nat} {o : Obj} (h : wr.heap[R]? = some o) (hb : Below wr.heap.size wr w') : w'.heap[R]? = some o := (hb.block R (Array.getElem?_eq_some_iff.1 h).1).trans h
theorem res_set {w : World} {R g k : Nat} {u : Value} {o : Obj} (h : w.heap[R]? = some o) (hne : R ≠ g) : (w.setCell ⟨g, k, none⟩ u).heap[R]? = some o := (Below.heap_setCell _ _ _ _ hne).trans h
set_option maxRecDepth 100000
/-- the rest of a slice of texts -/
theorem rest_texts (g off n c : Nat) (hnc : n + 1 ≤ c) : ∃ a1, (∀ W : World, (Instr.slice 42 (.slice (some ⟨g, off, none⟩) (n + 1) c) (some (.int .i64 1)) none none).run Try.prog W = .ok (.slice a1 n (c - 1)) W) ∧ (0 < n → a1 = some ⟨g, off + 1, none⟩) := by
  by_cases h : c = 1
  · refine ⟨some ⟨g, off, none⟩, fun W => ?_, fun h0 => by omega⟩
    · have := run_slice_l (P := Try.prog) (w := W) 42 (some ⟨g, off, none⟩) (n + 1) c Try.underlying42 .i64 1 (by omega) (by omega)
      simp [this, go_sem, sliced]
      subst h
      simp
  · refine ⟨some ⟨g, off + 1, none⟩, fun W => ?_, fun _ => rfl⟩
    have := run_slice_l (P := Try.prog) (w := W) 42 (some ⟨g, off, none⟩) (n + 1) c Try.underlying42 .i64 1 (by omega) (by omega)
    simp [this, go_sem, sliced]
    exact h
/-- the lists of the last face lie there, also behind a row of another kind that has grown -/
theorem Inv.last {w0 wr w' : World} {X gF cF s n : Nat} {va na atr po : Int} {D : FL} {q : Fc × Value × Value} {e : TypeId} {v : Value} {xs : List Value} (h : Inv w0 wr X va na atr po (.slice (some ⟨gF, 0, none⟩) (D.length + 1) cF) (D ++ [q]))
    (own : wr.ownsRow w0.heap.size e s v n xs) (he : e ≠ 76) (hg : wr.grownBy w' v.ownBlock) :
    (w'.cell? ⟨gF, D.length * 6 + 4, none⟩ = some q.2.1 ∧ w'.cell? ⟨gF, D.length * 6 + 5, none⟩ = some q.2.2) ∧ ∀ i, w'.frozen? ⟨gF, i, none⟩ = false := by
  have row0 := h.row
  rw [show (D ++ [q]).length = D.length + 1 by simp] at row0
  have row' : w'.ownsRow w0.heap.size 76 6 (.slice (some ⟨gF, 0, none⟩) (D.length + 1) cF) (D.length + 1) (fcells (D ++ [q])) := World.ownsRow.kept row0 hg (kind_ne row0 own (Ne.symm he))
  have hr : Rdg w' 6 (.slice (some ⟨gF, 0, none⟩) (D.length + 1) cF) (D.length + 1) (fcells (D ++ [q])) := Rdg.of row'
  obtain ⟨a, c, hv, h1, h2, h3, h4⟩ := hr
  obtain ⟨g', off, ha, hgl, hc⟩ := h4 (by omega)
  injection hv with e1 e2 e3
  rw [← e1] at ha
  injection ha with ha
  injection ha with e4 e5
  subst e4 e5
  have hat : (D ++ [q])[D.length]? = some q := by simp
  refine ⟨⟨?_, ?_⟩, fun i => World.ownsRow.frozenAt row' i⟩
  · have := hc _ _ (fcells_at _ _ _ hat 4 q.2.1 rfl); rwa [Nat.zero_add] at this
  · have := hc _ _ (fcells_at _ _ _ hat 5 q.2.2 rfl); rwa [Nat.zero_add] at this
theorem toFs_nil {st : Option (List Fc × Fc)} (h : toFs st = []) : st = none := by
  cases st with
  | none => rfl
  | some p => obtain ⟨d, f⟩ := p; simp [toFs] at h
theorem toFs_last {st : Option (List Fc × Fc)} {D : List Fc} {f : Fc} (h : toFs st = D ++ [f]) : st = some (D, f) := by
  cases st with
  | none => simp [toFs] at h
  | some p =>
    obtain ⟨d, g⟩ := p
    have h' : d ++ [g] = D ++ [f] := h
    obtain ⟨rfl, h2⟩ := List.append_inj' h' rfl
    injection h2 with h2
    subst h2
    rfl
theorem split_last {α : Type} (L : List α) : L = [] ∨ ∃ D q, L = D ++ [q] := by
  rcases List.eq_nil_or_concat L with h | ⟨D, q, h⟩
  · exact .inl h
  · exact .inr ⟨D, q, by rw [h]; simp⟩
/-- a call of a function that comes up in a region -/
theorem step_call {P : Program} {ops : Array Oper} {o : Oper} {a : Act} {w : World} {K : Act → World → Prop} {Q : Exit → Act → World → Prop} {E : Prop} (hgd : o.guard = none) (f : Nat) (args : Array Value)
    (hx : (execOp a.eval o).run P w = .ok (.enter f args) w) (h : Calls P f args w (fun e w' => ∃ v, e = .returned v ∧ K (a.put o.dst v) w')) :
    if Region.wanted o (yielded ops a.tmps) = true then Oper.wp P o a w K Q else E := by
  have hw : Region.wanted o (yielded ops a.tmps) = true := by simp [Region.wanted, hgd]
  rw [if_pos hw]
  unfold Oper.wp
  rw [hx]
  simp only [Oper.upon]
  refine h.mono ?_
  rintro e w' ⟨v, rfl, hk⟩
  exact hk
/-- what configOf answers of these pieces -/
def CoP (ps : List (List Int)) (w : World) (e : Ending) (w' : World) : Prop :=
  (confO ps = none ∧ e = .returned (.tuple #[cfV noC (.slice none 0 0), .bool false]) ∧ Below w.heap.size w w') ∨
  (∃ c vf L X, confO ps = some c ∧ e = .returned (.tuple #[cfV c vf, .bool true]) ∧ Inv w w' X c.va c.na c.atr c.po vf L ∧ L.map Prod.fst = c.fs)
theorem fold_at {st : Option (List Fc × Fc)} {r : List (List Int)} {k : Nat} {p : List Int} (h : r[k]? = some p) : foldP st (r.drop k) = match stepP st p with | none => none | some q => foldP q (r.drop (k + 1)) := by
  obtain ⟨hk, he⟩ := List.getElem?_eq_some_iff.1 h
  rw [List.drop_eq_getElem_cons hk, he, foldP]
  rfl
set_option maxRecDepth 100000 in
set_option maxHeartbeats 4000000 in
theorem configOf_none (v : Value) (ps : List (List Int)) (w : World) (h : Rts w v ps) (hb : BB ps) (hl : ∀ p ∈ ps, p.length ≤ 512) (hn : ps.length ≤ 512) (hnot : ∀ p r, ps = p :: r → p.length ≠ 9) :
    Calls Try.prog 91 #[v] w (CoP ps w) := by
  obtain ⟨w0, hw0⟩ : ∃ w0, w.alloc (cfO 0 0 0 0 (.slice none 0 0)) = w0 := ⟨_, rfl⟩
  have hb0 : Below w.heap.size w w0 := by rw [← hw0]; exact balloc _ _
  have hR0 : w0.heap[w.heap.size]? = some (cfO 0 0 0 0 (.slice none 0 0)) := by rw [← hw0]; exact (MapKept.heap_alloc w _).1
  obtain ⟨⟨hzR, z0, z1, z2, z3, z4⟩, f0, f1, f2, f3, f4⟩ := box5f hR0
  obtain ⟨wf, hwf, hRf, hBf, _⟩ := ch5 w0 w.heap.size _ _ _ _ _ 0 0 0 0 (.slice none 0 0) hR0
  have hBf2 := hBf w (Nat.le_refl _) hb0
  have hnone : confO ps = none := by
    cases ps with
    | nil => rfl
    | cons p r => rw [confO, if_neg (hnot p r rfl)]
  have HP : Hid (∀ u, Below w0.heap.size w0 u → u = u → True) := fun _ _ _ => trivial
  obtain ⟨a, c, rfl, hlc, hcm, hc⟩ := h.cell
  unfold maxLen at hcm
  have HE : Hid (CoP ps w (.returned (.tuple #[cfV noC (.slice none 0 0), .bool false])) wf) := .inl ⟨hnone, rfl, hBf2⟩
  obtain ⟨⟨hzf, r0, r1, r2, r3, r4⟩, _⟩ := box5f hRf
  cases ps with
  | nil =>
    simp only [List.length_nil] at *
    clear hc hnone hBf hRf hR0 hb0 HP h hb hl hnot
    go_enter Try.func91, Try.ntmps91
    go_wp2
    try rw [hwf]
    exact bodyPost_ret (v := .tuple #[cfV noC (.slice none 0 0), .bool false]) (by simp [results, Try.results91, go_sem, hzf, r0, r1, r2, r3, r4, noC]) rfl HE.out
  | cons p r =>
    obtain ⟨g, off, rfl, c0⟩ := hc 0 p rfl
    have c1 := kc (show Below w.heap.size w w0 from hb0) c0
    rw [Nat.add_zero] at c1
    have hz := str_size p
    have hp9 := hnot p r rfl
    have hp512 := hl p (by simp)
    have e9 : (((strOfNums p).size : Int) != 9) = true := by simp; omega
    have hsz : (strOfNums p).size ≤ 512 := by omega
    obtain ⟨m, hm⟩ : ∃ m, r.length = m := ⟨_, rfl⟩
    simp only [List.length_cons, hm] at hlc hn
    rw [List.length_cons, hm]
    generalize strOfNums p = s at *
    clear hc hnone hBf hRf hR0 hb0 HP h hb hl hnot hp9 hp512 hz c0 hm
    go_enter Try.func91, Try.ntmps91
    go_wp2
    try rw [hwf]
    exact bodyPost_ret (v := .tuple #[cfV noC (.slice none 0 0), .bool false]) (by simp [results, Try.results91, go_sem, hzf, r0, r1, r2, r3, r4, noC]) rfl HE.out
end Go.Proofs.Ytonheibhbilhhaa.desc

/- desc: SameConfig of two configurations that are alike. -/
namespace Go.Proofs.Ytonheibhbilhhaa.desc
open Go.RowKit Go.PlainAid Go.Proofs.Ytonheibhbilhhaa.lane
set_option linter.unusedVariables false
set_option linter.unusedSimpArgs false

set_option maxRecDepth 100000 in
set_option maxHeartbeats 2000000 in
theorem equalE_same (v1 v2 : Value) (es : List En) (w : World) (h1 : Rns w v1 es) (h2 : Rns w v2 es) :
    Calls Try.prog 42 #[v1, v2] w fun e w' => e = .returned (.bool true) ∧ Below w.heap.size w w' := by
  obtain ⟨a, c, rfl, hlc, hcm, hc⟩ := h1.cell
  obtain ⟨b, d, rfl, hld, hdm, hd⟩ := h2.cell
  unfold maxLen at hcm hdm
  obtain ⟨n, hn⟩ : ∃ n, es.length = n := ⟨_, rfl⟩
  rw [hn] at hlc hld ⊢
  have HN : Hid (es.length = n) := hn
  have HA : Hid _ := hc
  have HB : Hid _ := hd
  clear h1 h2 hc hd hn
  go_enter Try.func42, Try.ntmps42
  go_wp2
  go_loopw [13] (fun i wr => ∃ (k q : Nat), k ≤ n ∧ i = .int .i64 (k : Int) ∧ wr = w.drewN q) (fun i _ => n - (intOf i).toNat)
  case atStart => exact ⟨0, 0, Nat.zero_le _, rfl, rfl⟩
  case round =>
    obtain ⟨k, q, hk, rfl, rfl⟩ := hrel
    by_cases hlt : k < n
    · have hk1 : k < es.length := by have := HN.out; omega
      obtain ⟨e, he⟩ : ∃ e, es[k]? = some e := ⟨es[k], List.getElem?_eq_getElem hk1⟩
      obtain ⟨g, off, rfl, c0, c1, c2, c3, c4⟩ := HA.out k e he
      obtain ⟨g', off', rfl, d0, d1, d2, d3, d4⟩ := HB.out k e he
      obtain ⟨ad, inw, kd, mx, iv⟩ := e
      simp only at c0 c1 c2 c3 c4 d0 d1 d2 d3 d4
      clear HA HB HN he hk1
      go_wp2
      go_region
      go_wp2
      go_roundw
      case rel => exact ⟨k + 1, q + _, by omega, by go_num, rfl⟩
      case measure => simp [intOf]; omega
    · go_wp2
      go_ret
      exact ⟨rfl, below_drewN (Below.refl _ _) q⟩
theorem box6r {u : World} {X : Nat} {a b c d : Int} {v x : Value} (h : u.heap[X]? = some (.cells #[.int .i64 a, .int .i64 b, .int .i64 c, .int .i64 d, v, x] 76)) :
    u.cell? ⟨X, 0, none⟩ = some (.int .i64 a) ∧ u.cell? ⟨X, 1, none⟩ = some (.int .i64 b) ∧ u.cell? ⟨X, 2, none⟩ = some (.int .i64 c) ∧ u.cell? ⟨X, 3, none⟩ = some (.int .i64 d) ∧ u.cell? ⟨X, 4, none⟩ = some v ∧ u.cell? ⟨X, 5, none⟩ = some x := by
  refine ⟨?_, ?_, ?_, ?_, ?_, ?_⟩ <;> (rw [cell_of_row u X _ _ _ (0, 0) h]; rfl)
set_option maxRecDepth 100000 in
set_option maxHeartbeats 2000000 in
theorem sameFace_any (f : Fc) (ve vd ve' vd' : Value) (w : World) (h1 : Rf w (f, ve, vd)) (h2 : Rf w (f, ve', vd')) :
    Calls Try.prog 40 #[fcV f ve vd, fcV f ve' vd'] w fun e w' => e = .returned (.bool true) ∧ Below w.heap.size w w' := by
  obtain ⟨cl, su, pr, nm, ex, en⟩ := f
  obtain ⟨wa, hwa⟩ : ∃ wa, w.alloc (.cells #[.int .i64 cl, .int .i64 su, .int .i64 pr, .int .i64 nm, ve, vd] 76) = wa := ⟨_, rfl⟩
  obtain ⟨wb, hwb⟩ : ∃ wb, wa.alloc (.cells #[.int .i64 cl, .int .i64 su, .int .i64 pr, .int .i64 nm, ve', vd'] 76) = wb := ⟨_, rfl⟩
  have hba : Below w.heap.size w wa := by rw [← hwa]; exact balloc _ _
  have hbb : Below wa.heap.size wa wb := by rw [← hwb]; exact balloc _ _
  have HB : Hid (Below w.heap.size w wb) := bsq hba hbb
  have hA : wb.heap[w.heap.size]? = some (.cells #[.int .i64 cl, .int .i64 su, .int .i64 pr, .int .i64 nm, ve, vd] 76) := res_below (by rw [← hwa]; exact (MapKept.heap_alloc w _).1) hbb
  have hB : wb.heap[wa.heap.size]? = some (.cells #[.int .i64 cl, .int .i64 su, .int .i64 pr, .int .i64 nm, ve', vd'] 76) := by rw [← hwb]; exact (MapKept.heap_alloc wa _).1
  obtain ⟨x0, x1, x2, x3, x4, x5⟩ := box6r hA
  obtain ⟨y0, y1, y2, y3, y4, y5⟩ := box6r hB
  have hz1 : w.heap.size < wb.heap.size := (Array.getElem?_eq_some_iff.1 hA).1
  have hz2 : wa.heap.size < wb.heap.size := (Array.getElem?_eq_some_iff.1 hB).1
  have g1 := h1.below HB.out
  have g2 := h2.below HB.out
  have HEX : Hid (Calls Try.prog 41 #[ve, ve'] wb fun e w' => e = .returned (.bool true) ∧ Below wb.heap.size wb w') := by
    have := equalT_any ve ve' ex ex wb g1.ex g2.ex h1.bb h2.bb
    rw [decide_eq_true rfl] at this
    exact this
  have HEE : Hid (∀ u, Below wb.heap.size wb u → Calls Try.prog 42 #[vd, vd'] u fun e w' => e = .returned (.bool true) ∧ Below u.heap.size u w') := fun u hu => equalE_same vd vd' en u (g1.below hu).en (g2.below hu).en
  obtain ⟨ve1, ve2, ve3, rfl⟩ : ∃ a n c, ve = .slice a n c := by obtain ⟨a, c, h, _⟩ := h1.ex; exact ⟨_, _, _, h⟩
  obtain ⟨vd1, vd2, vd3, rfl⟩ : ∃ a n c, vd = .slice a n c := by obtain ⟨a, c, h, _⟩ := h1.en; exact ⟨_, _, _, h⟩
  obtain ⟨wx1, wx2, wx3, rfl⟩ : ∃ a n c, ve' = .slice a n c := by obtain ⟨a, c, h, _⟩ := h2.ex; exact ⟨_, _, _, h⟩
  obtain ⟨wy1, wy2, wy3, rfl⟩ : ∃ a n c, vd' = .slice a n c := by obtain ⟨a, c, h, _⟩ := h2.en; exact ⟨_, _, _, h⟩
  have HX5 : Hid (∀ u, Below wb.heap.size wb u → u.cell? ⟨w.heap.size, 5, none⟩ = some (.slice vd1 vd2 vd3) ∧ u.cell? ⟨wa.heap.size, 5, none⟩ = some (.slice wy1 wy2 wy3)) := fun u hu => ⟨kc hu x5, kc hu y5⟩
  clear hba hbb hA hB g1 g2 h1 h2 hz1 hz2
  go_enter Try.func40, Try.ntmps40
  go_wp2_with fail
  refine HEX.out.mono ?_
  rintro e wc ⟨rfl, hbc⟩
  obtain ⟨q1, q2⟩ := HX5.out wc hbc
  have HE2 : Hid (Calls Try.prog 42 #[.slice vd1 vd2 vd3, .slice wy1 wy2 wy3] wc fun e w' => e = .returned (.bool true) ∧ Below wc.heap.size wc w') := HEE.out wc hbc
  have HBc : Hid (Below w.heap.size w wc) := bsq HB.out hbc
  clear hbc
  go_wp2_with fail
  refine HE2.out.mono ?_
  rintro e wd ⟨rfl, hbd⟩
  have HBd : Hid (Below w.heap.size w wd) := bsq HBc.out hbd
  clear hbd
  go_wp2
  go_ret
  exact ⟨rfl, HBd.out⟩
set_option maxRecDepth 100000 in
set_option maxHeartbeats 4000000 in
theorem eqFunc_same (v1 v2 : Value) (L1 L2 : FL) (w : World) (h1 : Rfs w v1 L1) (h2 : Rfs w v2 L2) (he : L1.map Prod.fst = L2.map Prod.fst) :
    Calls Try.prog 39 #[v1, v2, .func (.func 40) #[] #[]] w fun e w' => e = .returned (.bool true) ∧ Below w.heap.size w w' := by
  have hlen : L1.length = L2.length := by have := congrArg List.length he; simpa using this
  obtain ⟨a, c, rfl, hlc, hcm, hc⟩ := h1.cell
  obtain ⟨b, d, rfl, hld, hdm, hd⟩ := h2.cell
  unfold maxLen at hcm hdm
  obtain ⟨n, hn⟩ : ∃ n, L2.length = n := ⟨_, rfl⟩
  rw [hlen, hn] at hlc ⊢
  rw [hn] at hld
  have HN : Hid (L1.length = n ∧ L2.length = n) := ⟨by omega, hn⟩
  have HA : Hid (∀ u, Below w.heap.size w u → ∀ j q, L1[j]? = some q → ∃ g off, a = some ⟨g, off, none⟩ ∧ u.cell? ⟨g, off + j * 6, none⟩ = some (.int .i64 q.1.cl) ∧ u.cell? ⟨g, off + j * 6 + 1, none⟩ = some (.int .i64 q.1.su) ∧ u.cell? ⟨g, off + j * 6 + 2, none⟩ = some (.int .i64 q.1.pr) ∧ u.cell? ⟨g, off + j * 6 + 3, none⟩ = some (.int .i64 q.1.nm) ∧ u.cell? ⟨g, off + j * 6 + 4, none⟩ = some q.2.1 ∧ u.cell? ⟨g, off + j * 6 + 5, none⟩ = some q.2.2) := by
    intro u hu j q hq
    obtain ⟨g, off, ha, k0, k1, k2, k3, k4, k5⟩ := hc j q hq
    exact ⟨g, off, ha, kc hu k0, kc hu k1, kc hu k2, kc hu k3, kc hu k4, kc hu k5⟩
  have HB : Hid (∀ u, Below w.heap.size w u → ∀ j q, L2[j]? = some q → ∃ g off, b = some ⟨g, off, none⟩ ∧ u.cell? ⟨g, off + j * 6, none⟩ = some (.int .i64 q.1.cl) ∧ u.cell? ⟨g, off + j * 6 + 1, none⟩ = some (.int .i64 q.1.su) ∧ u.cell? ⟨g, off + j * 6 + 2, none⟩ = some (.int .i64 q.1.pr) ∧ u.cell? ⟨g, off + j * 6 + 3, none⟩ = some (.int .i64 q.1.nm) ∧ u.cell? ⟨g, off + j * 6 + 4, none⟩ = some q.2.1 ∧ u.cell? ⟨g, off + j * 6 + 5, none⟩ = some q.2.2) := by
    intro u hu j q hq
    obtain ⟨g, off, ha, k0, k1, k2, k3, k4, k5⟩ := hd j q hq
    exact ⟨g, off, ha, kc hu k0, kc hu k1, kc hu k2, kc hu k3, kc hu k4, kc hu k5⟩
  have HF : Hid (∀ u, Below w.heap.size w u → ∀ (j : Nat) (q q' : Fc × Value × Value), L1[j]? = some q → L2[j]? = some q' → q.1 = q'.1 ∧ Rf u q ∧ Rf u q') := by
    intro u hu j q q' hq hq'
    refine ⟨?_, (h1.all q (List.mem_of_getElem? hq)).below hu, (h2.all q' (List.mem_of_getElem? hq')).below hu⟩
    have e1 : (L1.map Prod.fst)[j]? = some q.1 := by rw [List.getElem?_map, hq]; rfl
    have e2 : (L2.map Prod.fst)[j]? = some q'.1 := by rw [List.getElem?_map, hq']; rfl
    rw [he, e2] at e1
    injection e1 with e1
    exact e1.symm
  clear h1 h2 hc hd hn hlen he
  go_enter Try.func39, Try.ntmps39
  go_wp2
  go_loopw [17] (fun i wr => ∃ (k : Nat), k ≤ n ∧ i = .int .i64 (k : Int) ∧ Below w.heap.size w wr) (fun i _ => n - (intOf i).toNat)
  case atStart => exact ⟨0, Nat.zero_le _, rfl, Below.refl _ _⟩
  case round =>
    obtain ⟨k, hk, rfl, hbr⟩ := hrel
    by_cases hlt : k < n
    · have hk1 : k < L1.length := by have := HN.out.1; omega
      have hk2 : k < L2.length := by have := HN.out.2; omega
      obtain ⟨q, hq⟩ : ∃ q, L1[k]? = some q := ⟨L1[k], List.getElem?_eq_getElem hk1⟩
      obtain ⟨q', hq'⟩ : ∃ q, L2[k]? = some q := ⟨L2[k], List.getElem?_eq_getElem hk2⟩
      obtain ⟨g, off, rfl, c0, c1, c2, c3, c4, c5⟩ := HA.out wr hbr k q hq
      obtain ⟨hqq, hr1, hr2⟩ := HF.out wr hbr k q q' hq hq'
      obtain ⟨f, ve, vd⟩ := q
      obtain ⟨f', ve', vd'⟩ := q'
      simp only at hqq
      subst hqq
      obtain ⟨wa, hwa⟩ : ∃ wa, wr.alloc (.cells #[.int .i64 f.cl, .int .i64 f.su, .int .i64 f.pr, .int .i64 f.nm, ve, vd] 76) = wa := ⟨_, rfl⟩
      obtain ⟨wb, hwb⟩ : ∃ wb, wa.alloc (.cells #[.int .i64 f.cl, .int .i64 f.su, .int .i64 f.pr, .int .i64 f.nm, ve', vd'] 76) = wb := ⟨_, rfl⟩
      have hba : Below wr.heap.size wr wa := by rw [← hwa]; exact balloc _ _
      have hbb : Below wa.heap.size wa wb := by rw [← hwb]; exact balloc _ _
      obtain ⟨g', off', rfl, d0, d1, d2, d3, d4, d5⟩ := HB.out wa (bsq hbr hba) k _ hq'
      have HBb : Hid (Below w.heap.size w wb) := bsq (bsq hbr hba) hbb
      have hA : wb.heap[wr.heap.size]? = some (.cells #[.int .i64 f.cl, .int .i64 f.su, .int .i64 f.pr, .int .i64 f.nm, ve, vd] 76) := res_below (by rw [← hwa]; exact (MapKept.heap_alloc wr _).1) hbb
      have hB : wb.heap[wa.heap.size]? = some (.cells #[.int .i64 f.cl, .int .i64 f.su, .int .i64 f.pr, .int .i64 f.nm, ve', vd'] 76) := by rw [← hwb]; exact (MapKept.heap_alloc wa _).1
      obtain ⟨x0, x1, x2, x3, x4, x5⟩ := box6r hA
      obtain ⟨y0, y1, y2, y3, y4, y5⟩ := box6r hB
      have HS : Hid (Calls Try.prog 40 #[fcV f ve vd, fcV f ve' vd'] wb fun e w' => e = .returned (.bool true) ∧ Below wb.heap.size wb w') := sameFace_any f ve vd ve' vd' wb (hr1.below (bsq hba hbb)) (hr2.below (bsq hba hbb))
      obtain ⟨ve1, ve2, ve3, rfl⟩ : ∃ a n c, ve = .slice a n c := by obtain ⟨a, c, h, _⟩ := hr1.ex; exact ⟨_, _, _, h⟩
      obtain ⟨vd1, vd2, vd3, rfl⟩ : ∃ a n c, vd = .slice a n c := by obtain ⟨a, c, h, _⟩ := hr1.en; exact ⟨_, _, _, h⟩
      obtain ⟨wx1, wx2, wx3, rfl⟩ : ∃ a n c, ve' = .slice a n c := by obtain ⟨a, c, h, _⟩ := hr2.ex; exact ⟨_, _, _, h⟩
      obtain ⟨wy1, wy2, wy3, rfl⟩ : ∃ a n c, vd' = .slice a n c := by obtain ⟨a, c, h, _⟩ := hr2.en; exact ⟨_, _, _, h⟩
      obtain ⟨cl, su, pr, nm, ex, en⟩ := f
      simp only at *
      clear HA HB HF hba hbb hA hB hr1 hr2 hq hq' hk1 hk2 hbr
      go_wp2_with fail
      refine HS.out.mono ?_
      rintro e wc ⟨rfl, hbc⟩
      have HBc : Hid (Below w.heap.size w wc) := bsq HBb.out hbc
      clear hbc
      go_wp2
      go_roundw
      case rel => exact ⟨k + 1, by omega, by go_num, HBc.out⟩
      case measure => simp [intOf]; omega
    · go_wp2
      go_ret
      exact ⟨rfl, hbr⟩
set_option maxRecDepth 100000 in
set_option maxHeartbeats 2000000 in
theorem sameConfig_same (c : Cf) (v1 v2 : Value) (L1 L2 : FL) (w : World) (h1 : Rc w v1 c L1) (h2 : Rc w v2 c L2) :
    Calls Try.prog 20 #[cfV c v1, cfV c v2] w fun e w' => e = .returned (.bool true) ∧ Below w.heap.size w w' := by
  have he : L1.map Prod.fst = L2.map Prod.fst := h1.eq.trans h2.eq.symm
  obtain ⟨va, na, atr, po, fs⟩ := c
  obtain ⟨wa, hwa⟩ : ∃ wa, w.alloc (cfO va na atr po v1) = wa := ⟨_, rfl⟩
  obtain ⟨wb, hwb⟩ : ∃ wb, wa.alloc (cfO va na atr po v2) = wb := ⟨_, rfl⟩
  have hba : Below w.heap.size w wa := by rw [← hwa]; exact balloc _ _
  have hbb : Below wa.heap.size wa wb := by rw [← hwb]; exact balloc _ _
  have HB : Hid (Below w.heap.size w wb) := bsq hba hbb
  have hA : wb.heap[w.heap.size]? = some (cfO va na atr po v1) := res_below (by rw [← hwa]; exact (MapKept.heap_alloc w _).1) hbb
  have hB : wb.heap[wa.heap.size]? = some (cfO va na atr po v2) := by rw [← hwb]; exact (MapKept.heap_alloc wa _).1
  obtain ⟨⟨_, x0, x1, x2, x3, x4⟩, _⟩ := box5f hA
  obtain ⟨⟨_, y0, y1, y2, y3, y4⟩, _⟩ := box5f hB
  have HE : Hid (Calls Try.prog 39 #[v1, v2, .func (.func 40) #[] #[]] wb fun e w' => e = .returned (.bool true) ∧ Below wb.heap.size wb w') := eqFunc_same v1 v2 L1 L2 wb (h1.below HB.out).fs (h2.below HB.out).fs he
  obtain ⟨a1, n1, c1, rfl⟩ : ∃ a n c, v1 = .slice a n c := by obtain ⟨a, c, h, _⟩ := h1.fs.row; exact ⟨_, _, _, h⟩
  obtain ⟨a2, n2, c2, rfl⟩ : ∃ a n c, v2 = .slice a n c := by obtain ⟨a, c, h, _⟩ := h2.fs.row; exact ⟨_, _, _, h⟩
  clear hba hbb hA hB h1 h2 he
  go_enter Try.func20, Try.ntmps20
  go_wp2_with fail
  refine HE.out.mono ?_
  rintro e wc ⟨rfl, hbc⟩
  have HBc : Hid (Below w.heap.size w wc) := bsq HB.out hbc
  clear hbc
  go_wp2
  go_ret
  exact ⟨rfl, HBc.out⟩
end Go.Proofs.Ytonheibhbilhhaa.desc
