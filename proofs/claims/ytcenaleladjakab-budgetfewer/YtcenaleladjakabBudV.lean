/- budget: rows of numbers that grow beside boxes; what Load answers. -/
import Derived.Test.YtcenaleladjakabBudT
import Derived.Laws.AppendOwn
import Derived.Laws.OwnMore
import Derived.OwnWalk
import Derived.Lib.OwnKind
import Derived.Deep.Onto
namespace Go.Proofs.Ytcenaleladjakab.budget
open Go Go.RowKit
set_option linter.unusedVariables false
set_option linter.unusedSimpArgs false
set_option maxRecDepth 100000

theorem infoI : (Try.prog.info? 3).map (fun i => (i.zero, i.size, i.bytes)) = some (some (.int .i64 0), 1, 8) := by kernel_rfl
def icells (l : List Int) : List Value := l.map (Value.int .i64)
theorem icells_length (l : List Int) : (icells l).length = l.length := List.length_map ..
theorem icells_at {l : List Int} {j : Nat} {x : Int} (h : l[j]? = some x) : (icells l)[j]? = some (.int .i64 x) := by simp [icells, h]
/-- the value v owns these numbers, in a block from B on -/
def Iw (w : World) (B : Nat) (v : Value) (l : List Int) : Prop := w.ownsRow B 3 1 v l.length (icells l)
theorem Iw.nil (w : World) (B : Nat) : Iw w B (.slice none 0 0) [] := ⟨rfl, .inl ⟨rfl, rfl⟩⟩
theorem grown_below {w u : World} (hb : Below w.heap.size w u) : w.grownBy u none := ⟨hb.os, hb.tape, hb.output, hb.size, fun k hk _ => hb.block k hk⟩
theorem own_block {w : World} {B : Nat} {e : TypeId} {s : Nat} {v : Value} {n : Nat} {xs : List Value} (h : w.ownsRow B e s v n xs) : ∀ k, v.ownBlock = some k → B ≤ k := fun k hk => (World.ownsRow.lt h k hk).1
theorem Iw.below {w u : World} {B : Nat} {v : Value} {l : List Int} (h : Iw w B v l) (hb : Below w.heap.size w u) : Iw u B v l := by
  cases hv : v.ownBlock with
  | none => exact World.ownsRow.kept h (grown_below hb) (.inl hv)
  | some k => exact World.ownsRow.kept h (grown_below hb) (.inr (by rw [hv]; simp))
theorem Iw.ris {w : World} {B : Nat} {v : Value} {l : List Int} (h : Iw w B v l) : Ris w v l := by
  have h' := h
  rcases h.2 with ⟨rfl, h0⟩ | ⟨g, cap, cur, rfl, hB, hg, hnc, hcm, hs, ht⟩
  · exact ⟨none, 0, by rw [h0], by omega, Nat.zero_le _, fun q => by omega⟩
  · refine ⟨_, cap, rfl, hnc, hcm, fun _ => ⟨g, 0, rfl, (Array.getElem?_eq_some_iff.1 hg).1, fun j x hx => ?_⟩⟩
    have hj := (List.getElem?_eq_some_iff.1 hx).1
    rw [Nat.zero_add, World.ownsRow.cellAt h' j (by omega)]
    exact icells_at hx
theorem info_parts' {z : Value} {n b : Nat} {t : TypeId} (h : (Try.prog.info? t).map (fun i => (i.zero, i.size, i.bytes)) = some (some z, n, b)) : ∃ i, Try.prog.info? t = some i ∧ i.zero = some z ∧ i.size = n ∧ i.bytes = b := by
  cases hq : Try.prog.info? t with
  | none => simp [hq] at h
  | some i => simp [hq] at h; exact ⟨i, rfl, h.1, h.2.1, h.2.2⟩
/-- one number behind the others, and where they lie then -/
theorem run_ints (w : World) (B : Nat) (v : Value) (acc : List Int) (h : Iw w B v acc) (ad : Addr) (c : Nat) (x : Int) (hx : w.cell? (ad.add 0) = some (.int .i64 x)) (hl : acc.length ≤ 100000) (hB : B ≤ w.heap.size) (ty : TypeId) :
    ∃ v' w', (Builtin.append_ #[22, 22] ty #[v, .slice (some ad) 1 c]).run Try.prog w = .ok v' w' ∧ Iw w' B v' (acc ++ [x]) ∧ w.grownBy w' v.ownBlock ∧ Below B w w' ∧ (v'.ownBlock = v.ownBlock ∨ ∀ k, v'.ownBlock = some k → w.heap.size ≤ k) := by
  obtain ⟨i0, hi, hz0, hz1, hz2⟩ := info_parts' infoI
  have hnews : ∀ j u, [Value.int .i64 x][j]? = some u → w.cell? (ad.add j) = some u := fun j u hj => by
    have hj0 : j = 0 := by have := (List.getElem?_eq_some_iff.1 hj).1; simp at this; exact this
    subst hj0
    simp at hj
    subst hj
    exact hx
  have h1 : ∀ u ∈ [Value.int .i64 x], u.oneCell' = true := fun u hu => by simp at hu; subst hu; rfl
  have go : ∀ B, B ≤ w.heap.size → Iw w B v acc → ∃ v' w', (Builtin.append_ #[22, 22] ty #[v, .slice (some ad) 1 c]).run Try.prog w = .ok v' w' ∧ w'.ownsRow B 3 1 v' (acc.length + 1) (icells acc ++ [.int .i64 x]) ∧ w.grownBy w' v.ownBlock := fun B hB h => by
    obtain ⟨v', w', q1, q2, q3, _⟩ := run_append_own (P := Try.prog) w B 22 ty 3 i0 _ 1 8 Try.underlying22 hi hz0 hz1 hz2 rfl (by omega) v acc.length (icells acc) h ad 1 c [.int .i64 x] rfl hnews h1 (by unfold maxLen; omega) (by omega) hB
    exact ⟨v', w', q1, q2, q3⟩
  obtain ⟨v', w', q1, q2, q3⟩ := go B hB h
  refine ⟨v', w', q1, ?_, q3, (Below.refl _ _).grown q3 hB (own_block h), ?_⟩
  · unfold Iw
    rw [List.length_append, show icells (acc ++ [x]) = icells acc ++ [.int .i64 x] by simp [icells]]
    exact q2
  · rcases h.2 with ⟨rfl, h0⟩ | ⟨g, cap, cur, rfl, hb, hg, hnc, hcm, hcs, htake⟩
    · right
      have hacc : acc = [] := List.eq_nil_of_length_eq_zero h0
      subst hacc
      obtain ⟨v2, w2, r1, r2, _⟩ := go w.heap.size (Nat.le_refl _) ⟨rfl, .inl ⟨rfl, rfl⟩⟩
      rw [q1] at r1
      injection r1 with r1 r1'
      subst r1 r1'
      exact own_block r2
    · by_cases hroom : acc.length + 1 ≤ cap
      · left
        obtain ⟨w2, r1, _, _⟩ := run_append_fits (P := Try.prog) w B 22 ty 3 i0 1 Try.underlying22 hi hz1 g acc.length cap (icells acc) h ad 1 c [.int .i64 x] rfl hnews h1 hroom
        rw [q1] at r1
        injection r1 with r1 _
        rw [r1]
        rfl
      · right
        have hr := run_append_grow (P := Try.prog) w 22 ty 3 i0 _ Try.underlying22 hi hz0 ⟨g, 0, none⟩ acc.length cap (icells acc) (by rw [hz1, icells_length, Nat.mul_one]) (World.ownsRow.cells (g := g) h rfl) ad 1 c [.int .i64 x] (by rw [hz1]; rfl) hnews (by omega) (by omega) (growslice_fits (by omega) (by rw [hz2]; omega))
        rw [q1] at hr
        injection hr with hr _
        rw [hr]
        intro k hk
        injection hk with hk
        simp at hk
        omega
theorem Chg.grown {B : Nat} {w u : World} (h : Chg B w u) : w.grownBy u (some B) := by
  have hb := h.below 0 w (Nat.zero_le _) (Below.refl _ _)
  exact ⟨hb.os, hb.tape, hb.output, by rw [h.size]; exact Nat.le_refl _, fun k _ hk => h.other k (fun e => hk (by rw [e]))⟩
/-- boxes, and a row of numbers that grows -/
structure MI (w u : World) (L : List Bk) (v : Value) (l : List Int) : Prop where
  mm : Mm w u L
  iw : Iw u w.heap.size v l
  ab : ∀ x ∈ L, v.ownBlock ≠ some x.1
section
variable {w u x : World} {L : List Bk} {v : Value} {l : List Int}
theorem MI.call (h : MI w u L v l) (hb : Below u.heap.size u x) : MI w x L v l := ⟨h.mm.call hb, h.iw.below hb, h.ab⟩
theorem MI.new {B : Nat} {T : TypeId} {r : List Value} (h : MI w u L v l) (n : New u x B T r) : MI w x ((B, T, r) :: L) v l := ⟨h.mm.new n, h.iw.below n.below, fun y hy => by
  rcases List.mem_cons.1 hy with rfl | q
  · intro e
    have h1 : B < u.heap.size := (World.ownsRow.lt h.iw B e).2
    have h2 := n.at'
    omega
  · exact h.ab y q⟩
theorem MI.sub {M : List Bk} (h : MI w u L v l) (hs : M.Sublist L) : MI w u M v l := ⟨h.mm.sub hs, h.iw, fun y hy => h.ab y (hs.subset hy)⟩
theorem MI.put {pre post : List Bk} {B : Nat} {T : TypeId} {r r' : List Value} (h : MI w u (pre ++ (B, T, r) :: post) v l) (hc : Chg B u x) (hl : x.heap[B]? = some (bv T r')) : MI w x (pre ++ (B, T, r') :: post) v l :=
  ⟨h.mm.put hc hl, World.ownsRow.kept h.iw hc.grown (.inr (h.ab (B, T, r) (by simp))), fun y hy => by
    rcases List.mem_append.1 hy with q | q
    · exact h.ab y (List.mem_append.2 (.inl q))
    · rcases List.mem_cons.1 q with rfl | q
      · exact h.ab (B, T, r) (by simp)
      · exact h.ab y (List.mem_append.2 (.inr (List.mem_cons_of_mem _ q)))⟩
theorem MI.put0 {B : Nat} {T : TypeId} {r r' : List Value} (h : MI w u ((B, T, r) :: L) v l) (hc : Chg B u x) (hl : x.heap[B]? = some (bv T r')) : MI w x ((B, T, r') :: L) v l := MI.put (pre := []) h hc hl
theorem MI.put1 {a : Bk} {B : Nat} {T : TypeId} {r r' : List Value} (h : MI w u (a :: (B, T, r) :: L) v l) (hc : Chg B u x) (hl : x.heap[B]? = some (bv T r')) : MI w x (a :: (B, T, r') :: L) v l := MI.put (pre := [a]) h hc hl
theorem MI.at0 {B : Nat} {T : TypeId} {r : List Value} (h : MI w u ((B, T, r) :: L) v l) : u.heap[B]? = some (bv T r) := h.mm.at0
theorem MI.at1 {a : Bk} {B : Nat} {T : TypeId} {r : List Value} (h : MI w u (a :: (B, T, r) :: L) v l) : u.heap[B]? = some (bv T r) := h.mm.at1
theorem MI.below (h : MI w u L v l) : Below w.heap.size w u := h.mm.below
theorem MI.drew (h : MI w u L v l) : MI w u.drew L v l := h.call (Below.refl _ _).drew
theorem MI.nil (h : Mm w u L) : MI w u L (.slice none 0 0) [] := ⟨h, Iw.nil _ _, fun y hy => by simp [Value.ownBlock]⟩
end
/-- one number in a new row -/
theorem a_bs {ops : Array Oper} {rest : List Oper} {o : Oper} {a : Act} {w : World} {Q : Exit → Act → World → Prop} (hgd : Region.wanted o (yielded ops a.tmps) = true) {x : Operand} (ho : o.op = .buildSlice 22 1 #[(0, x)]) {v : Int} (hx : a.eval x = .int .i64 v)
    (h : ∀ u g, Below w.heap.size w u → u.cell? ⟨g, 0, none⟩ = some (.int .i64 v) → wpList Try.prog ops Q rest (a.put o.dst (.slice (some ⟨g, 0, none⟩) 1 1)) u) : wpList Try.prog ops Q (o :: rest) a w := by
  refine wpList_step fun K hK' => ?_
  rw [if_pos hgd]
  have hr : (Instr.buildSlice 22 1 #[(0, .int .i64 v)]).run Try.prog w = .ok (.slice (some ⟨w.heap.size, 0, none⟩) 1 1) (w.alloc (.cells #[.int .i64 v] 3)) := by kernel_rfl
  unfold Oper.wp execOp
  simp only [ho, List.map_toArray, List.map_cons, List.map_nil, hx, Sem.run_bind, hr, Result.andThen_ok, Sem.run_pure]
  refine hK' _ _ (h _ _ (balloc _ _) ?_)
  rw [cell_of_row _ _ _ _ _ (0, 0) (MapKept.heap_alloc w _).1]
  rfl
theorem run_append_op {P : Program} {o : Oper} {a : Act} {w w' : World} (s x : Operand) (t : TypeId) (ho : o.op = .call { callee := .builtin .append, args := #[s, x], argTypes := #[t, t] }) (v1 v2 v : Value) (hs : a.eval s = v1) (hx : a.eval x = v2)
    (hr : (Builtin.append_ #[t, t] o.type #[v1, v2]).run P w = .ok v w') : (execOp a.eval o).run P w = .ok (.value v) w' := by
  unfold execOp
  simp only [ho, resolve, invoke, builtin, Sem.run_bind, Sem.run_pure, Result.andThen_ok, List.map_toArray, List.map_cons, List.map_nil, hs, hx, hr]
theorem a_app {ops : Array Oper} {rest : List Oper} {o : Oper} {a : Act} {w0 w : World} {Q : Exit → Act → World → Prop} (hgd : Region.wanted o (yielded ops a.tmps) = true) {s x : Operand} (ho : o.op = .call { callee := .builtin .append, args := #[s, x], argTypes := #[22, 22] })
    {L : List Bk} {v1 : Value} {l1 : List Int} {g : Nat} {v : Int} (hs : a.eval s = v1) (hx : a.eval x = .slice (some ⟨g, 0, none⟩) 1 1) (hI : MI w0 w L v1 l1) (hc : w.cell? ⟨g, 0, none⟩ = some (.int .i64 v)) (hl : l1.length ≤ 1000)
    (h : ∀ u v', MI w0 u L v' (l1 ++ [v]) → wpList Try.prog ops Q rest (a.put o.dst v') u) : wpList Try.prog ops Q (o :: rest) a w := by
  refine wpList_step fun K hK' => ?_
  rw [if_pos hgd]
  obtain ⟨v', w', hr, h1, h2, h3, h4⟩ := run_ints w w0.heap.size v1 l1 hI.iw ⟨g, 0, none⟩ 1 v (by simpa [Addr.add] using hc) (by omega) hI.mm.below.size o.type
  unfold Oper.wp
  rw [run_append_op s x _ ho _ _ v' hs hx hr]
  refine hK' _ _ (h w' v' ⟨⟨fun y hy => ?_, hI.mm.own, hI.mm.ap, hI.mm.below.trans h3⟩, h1, fun y hy => ?_⟩)
  · have hl := hI.mm.lies y hy
    exact (h2.block y.1 (bx_lt hl) (fun e => hI.ab y hy e.symm)).trans hl
  · rcases h4 with q | q
    · rw [q]; exact hI.ab y hy
    · intro e
      have := q _ e
      have := bx_lt (hI.mm.lies y hy)
      omega
/-- who comes to a lane in a frame, of the first k tasks -/
def ldR (E : List En) (F l k : Nat) : List Int := ((List.range k).filter fun i => has l F (E.getD i (0, 0, 0))).map Int.ofNat
def ldA (E : List En) (F l : Nat) : List Int := (List.range l).flatMap fun j => ldR E F j E.length
theorem ldR_next (E : List En) (F l k : Nat) : ldR E F l (k + 1) = ldR E F l k ++ (if has l F (E.getD k (0, 0, 0)) = true then [(k : Int)] else []) := by
  unfold ldR
  rw [List.range_succ, List.filter_append, List.map_append]
  congr 1
  by_cases h : has l F (E.getD k (0, 0, 0)) = true
  · rw [if_pos h, List.filter_cons_of_pos (p := fun i => has l F (E.getD i (0, 0, 0))) h]
    rfl
  · rw [if_neg h, List.filter_cons_of_neg (p := fun i => has l F (E.getD i (0, 0, 0))) h]
    rfl
theorem ldA_next (E : List En) (F l : Nat) : ldA E F (l + 1) = ldA E F l ++ ldR E F l E.length := by
  unfold ldA
  rw [List.range_succ, List.flatMap_append]
  simp
theorem ldR_len (E : List En) (F l k : Nat) : (ldR E F l k).length ≤ k := by
  unfold ldR
  rw [List.length_map]
  exact Nat.le_trans (List.length_filter_le ..) (by simp)
theorem ldA_len (E : List En) (F : Nat) : ∀ l, (ldA E F l).length ≤ l * E.length
  | 0 => by simp [ldA]
  | l + 1 => by
    rw [ldA_next, List.length_append, Nat.succ_mul]
    have := ldA_len E F l
    have := ldR_len E F l E.length
    omega
/-- where a right plan's numbers lie -/
theorem pl_cells {w : World} {a a2 : Option Addr} {c c2 : Nat} {P : List Int} {T : List Bi} {m : Nat} (hv : Ris w (.slice a P.length c) P) (hp : Rbs w (.slice a2 P.length c2) T) (hl : T.length = P.length) (hP : okP P) (hg : areB P T (m : Int) = true) : ∀ k, k < P.length → ∃ x : En, (ensI P T)[k]? = some x ∧ Ve m x ∧ (∃ g off, a = some ⟨g, off, none⟩ ∧ ∀ u, Below w.heap.size w u → u.cell? ⟨g, off + k, none⟩ = some (.int .i64 (x.1 : Int))) ∧ (∃ g off, a2 = some ⟨g, off, none⟩ ∧ ∀ u, Below w.heap.size w u → u.rangeAt g (off + k * 2) (ivs [(x.2.1 : Int), (x.2.2 : Int)])) := fun k hk => by
  have e1 := List.getElem?_eq_getElem hk
  have e2 := List.getElem?_eq_getElem (l := T) (i := k) (by omega)
  have ez := zip_at e1 e2
  have hgd := goodB_iff.1 (List.all_eq_true.1 hg _ (List.mem_of_getElem? ez))
  simp only at hgd
  have hpp := hP P[k] (List.getElem_mem _)
  have q1 : ((P[k].toNat : Nat) : Int) = P[k] := by omega
  have q2 : (((T[k]'(by omega)).1.toNat : Nat) : Int) = (T[k]'(by omega)).1 := by omega
  have q3 : (((T[k]'(by omega)).2.toNat : Nat) : Int) = (T[k]'(by omega)).2 := by omega
  have ex : (ensI P T)[k]? = some (enI (P[k], T[k]'(by omega))) := by unfold ensI; rw [List.getElem?_map, ez]; rfl
  refine ⟨enI (P[k], T[k]'(by omega)), ex, ensI_ve hP hg _ (List.mem_of_getElem? ex), ?_, ?_⟩
  · obtain ⟨g, off, h1, h2⟩ := hv.at k _ e1
    refine ⟨g, off, h1, fun u hb => ?_⟩
    obtain ⟨g', off', h1', h2'⟩ := (hv.below hb).at k _ e1
    rw [h1] at h1'
    injection h1' with h1'
    injection h1' with z1 z2 _
    subst z1 z2
    show _ = some (Value.int .i64 ((P[k].toNat : Nat) : Int))
    rw [q1]
    exact h2'
  · obtain ⟨g, off, h1, h2, h3⟩ := hp.at k _ e2
    refine ⟨g, off, h1, fun u hb => ?_⟩
    obtain ⟨g', off', h1', h2', h3'⟩ := (hp.below hb).at k _ e2
    rw [h1] at h1'
    injection h1' with h1'
    injection h1' with z1 z2 _
    subst z1 z2
    show u.rangeAt g (off + k * 2) (ivs [(((T[k]'(by omega)).1.toNat : Nat) : Int), (((T[k]'(by omega)).2.toNat : Nat) : Int)])
    rw [q2, q3]
    exact two_range h2' h3'
theorem chkP_ok {P : List Int} {T : List Bi} {m : Int} (h : chkP P T m = 0) : ∃ M : Nat, m = (M : Int) ∧ 1 ≤ M ∧ M ≤ 8 ∧ P.length ≤ 64 ∧ okP P ∧ T.length = P.length ∧ areB P T m = true ∧ Apart (ensI P T) ∧ (ensI P T).length = P.length := by
  unfold chkP at h
  split at h
  · rename_i h0
    split at h
    · rename_i h1
      split at h
      · rename_i h2
        split at h
        · omega
        · rename_i h3
          obtain ⟨q1, q2, q3, q4⟩ := chk_ok h0
          obtain ⟨M, rfl⟩ := Int.eq_ofNat_of_zero_le (show 0 ≤ m by omega)
          refine ⟨M, rfl, by omega, by omega, q3, q4, h1, h2, ?_, ?_⟩
          · have := (dcl_iff (ensI P T) [] List.Pairwise.nil).1 (by simpa using h3)
            simpa using this
          · unfold ensI; rw [List.length_map, List.length_zip]; omega
      · omega
    · omega
  · rename_i h0
    exact absurd h h0
end Go.Proofs.Ytcenaleladjakab.budget
