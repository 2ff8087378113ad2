/- slots, the document's answer: rows of numbers beside boxes; what Contains and leastFree answer. -/
import Derived.Test.YtfhlbndilkidhaaSltT
import Derived.Laws.AppendOwn
import Derived.Laws.OwnMore
import Derived.OwnWalk
import Derived.Lib.OwnKind
import Derived.Deep.Onto
namespace Go.Proofs.Ytfhlbndilkidhaa.slots
open Go Go.RowKit
set_option linter.unusedVariables false
set_option linter.unusedSimpArgs false
set_option maxRecDepth 100000

/-- a slice that reads as these numbers -/
def Ris (w : World) (v : Value) (l : List Int) : Prop :=
  ∃ a c, v = .slice a l.length c ∧ l.length ≤ c ∧ c ≤ maxLen ∧ (0 < l.length → ∃ g off, a = some ⟨g, off, none⟩ ∧ g < w.heap.size ∧ ∀ j x, l[j]? = some x → w.cell? ⟨g, off + j, none⟩ = some (.int .i64 x))
theorem Ris.below {w u : World} {v : Value} {l : List Int} (h : Ris w v l) (hb : Below w.heap.size w u) : Ris u v l := by
  obtain ⟨a, c, hv, h1, h2, h4⟩ := h
  refine ⟨a, c, hv, h1, h2, fun hn => ?_⟩
  obtain ⟨g, off, ha, hg, hc⟩ := h4 hn
  exact ⟨g, off, ha, Nat.lt_of_lt_of_le hg hb.size, fun j x hx => (hb.cell (p := ⟨g, off + j, none⟩) hg).trans (hc j x hx)⟩
theorem Ris.form {w : World} {v : Value} {l : List Int} (h : Ris w v l) : ∃ a c, v = .slice a l.length c ∧ l.length ≤ c ∧ c ≤ maxLen := by
  obtain ⟨a, c, h, h1, h2, _⟩ := h; exact ⟨_, _, h, h1, h2⟩
theorem Ris.at {w : World} {a : Option Addr} {n c : Nat} {l : List Int} (h : Ris w (.slice a n c) l) (k : Nat) (x : Int) (hk : l[k]? = some x) : ∃ g off, a = some ⟨g, off, none⟩ ∧ w.cell? ⟨g, off + k, none⟩ = some (.int .i64 x) := by
  obtain ⟨a', c', hv, h1, h2, h4⟩ := h
  have hl := (List.getElem?_eq_some_iff.1 hk).1
  obtain ⟨g, off, ha, hg, hc⟩ := h4 (by omega)
  have : a = a' := by injection hv
  exact ⟨g, off, this.trans ha, hc k x hk⟩
theorem infoI : (Try.prog.info? 3).map (fun i => (i.zero, i.size, i.bytes)) = some (some (.int .i64 0), 1, 8) := by kernel_rfl
def icells (l : List Int) : List Value := l.map (Value.int .i64)
theorem icells_length (l : List Int) : (icells l).length = l.length := List.length_map ..
theorem icells_at {l : List Int} {j : Nat} {x : Int} (h : l[j]? = some x) : (icells l)[j]? = some (.int .i64 x) := by simp [icells, h]
/-- the value v owns these numbers, in a block from B on -/
def Iw (w : World) (B : Nat) (v : Value) (l : List Int) : Prop := w.ownsRow B 3 1 v l.length (icells l)
theorem Iw.nil (w : World) (B : Nat) : Iw w B (.slice none 0 0) [] := ⟨rfl, .inl ⟨rfl, rfl⟩⟩
theorem grown_below {w u : World} (hb : Below w.heap.size w u) : w.grownBy u none := ⟨hb.os, hb.tape, hb.output, hb.size, fun k hk _ => hb.block k hk⟩
theorem own_block {w : World} {B : Nat} {e : TypeId} {s : Nat} {v : Value} {n : Nat} {xs : List Value} (h : w.ownsRow B e s v n xs) : ∀ k, v.ownBlock = some k → B ≤ k := fun k hk => (World.ownsRow.lt h k hk).1
theorem Iw.below {w u : World} {B : Nat} {v : Value} {l : List Int} (h : Iw w B v l) (hb : Below w.heap.size w u) : Iw u B v l := by
  cases hv : v.ownBlock with
  | none => exact World.ownsRow.kept h (grown_below hb) (.inl hv)
  | some k => exact World.ownsRow.kept h (grown_below hb) (.inr (by rw [hv]; simp))
theorem Iw.ris {w : World} {B : Nat} {v : Value} {l : List Int} (h : Iw w B v l) : Ris w v l := by
  have h' := h
  rcases h.2 with ⟨rfl, h0⟩ | ⟨g, cap, cur, rfl, hB, hg, hnc, hcm, hs, ht⟩
  · exact ⟨none, 0, by rw [h0], by omega, Nat.zero_le _, fun q => by omega⟩
  · refine ⟨_, cap, rfl, hnc, hcm, fun _ => ⟨g, 0, rfl, (Array.getElem?_eq_some_iff.1 hg).1, fun j x hx => ?_⟩⟩
    have hj := (List.getElem?_eq_some_iff.1 hx).1
    rw [Nat.zero_add, World.ownsRow.cellAt h' j (by omega)]
    exact icells_at hx
theorem info_parts' {z : Value} {n b : Nat} {t : TypeId} (h : (Try.prog.info? t).map (fun i => (i.zero, i.size, i.bytes)) = some (some z, n, b)) : ∃ i, Try.prog.info? t = some i ∧ i.zero = some z ∧ i.size = n ∧ i.bytes = b := by
  cases hq : Try.prog.info? t with
  | none => simp [hq] at h
  | some i => simp [hq] at h; exact ⟨i, rfl, h.1, h.2.1, h.2.2⟩
/-- one number behind the others, and where they lie then -/
theorem run_ints (w : World) (B : Nat) (v : Value) (acc : List Int) (h : Iw w B v acc) (ad : Addr) (c : Nat) (x : Int) (hx : w.cell? (ad.add 0) = some (.int .i64 x)) (hl : acc.length ≤ 100000) (hB : B ≤ w.heap.size) (ty : TypeId) :
    ∃ v' w', (Builtin.append_ #[55, 55] ty #[v, .slice (some ad) 1 c]).run Try.prog w = .ok v' w' ∧ Iw w' B v' (acc ++ [x]) ∧ w.grownBy w' v.ownBlock ∧ Below B w w' ∧ (v'.ownBlock = v.ownBlock ∨ ∀ k, v'.ownBlock = some k → w.heap.size ≤ k) := by
  obtain ⟨i0, hi, hz0, hz1, hz2⟩ := info_parts' infoI
  have hnews : ∀ j u, [Value.int .i64 x][j]? = some u → w.cell? (ad.add j) = some u := fun j u hj => by
    have hj0 : j = 0 := by have := (List.getElem?_eq_some_iff.1 hj).1; simp at this; exact this
    subst hj0
    simp at hj
    subst hj
    exact hx
  have h1 : ∀ u ∈ [Value.int .i64 x], u.oneCell' = true := fun u hu => by simp at hu; subst hu; rfl
  have go : ∀ B, B ≤ w.heap.size → Iw w B v acc → ∃ v' w', (Builtin.append_ #[55, 55] ty #[v, .slice (some ad) 1 c]).run Try.prog w = .ok v' w' ∧ w'.ownsRow B 3 1 v' (acc.length + 1) (icells acc ++ [.int .i64 x]) ∧ w.grownBy w' v.ownBlock := fun B hB h => by
    obtain ⟨v', w', q1, q2, q3, _⟩ := run_append_own (P := Try.prog) w B 55 ty 3 i0 _ 1 8 Try.underlying55 hi hz0 hz1 hz2 rfl (by omega) v acc.length (icells acc) h ad 1 c [.int .i64 x] rfl hnews h1 (by unfold maxLen; omega) (by omega) hB
    exact ⟨v', w', q1, q2, q3⟩
  obtain ⟨v', w', q1, q2, q3⟩ := go B hB h
  refine ⟨v', w', q1, ?_, q3, (Below.refl _ _).grown q3 hB (own_block h), ?_⟩
  · unfold Iw
    rw [List.length_append, show icells (acc ++ [x]) = icells acc ++ [.int .i64 x] by simp [icells]]
    exact q2
  · rcases h.2 with ⟨rfl, h0⟩ | ⟨g, cap, cur, rfl, hb, hg, hnc, hcm, hcs, htake⟩
    · right
      have hacc : acc = [] := List.eq_nil_of_length_eq_zero h0
      subst hacc
      obtain ⟨v2, w2, r1, r2, _⟩ := go w.heap.size (Nat.le_refl _) ⟨rfl, .inl ⟨rfl, rfl⟩⟩
      rw [q1] at r1
      injection r1 with r1 r1'
      subst r1 r1'
      exact own_block r2
    · by_cases hroom : acc.length + 1 ≤ cap
      · left
        obtain ⟨w2, r1, _, _⟩ := run_append_fits (P := Try.prog) w B 55 ty 3 i0 1 Try.underlying55 hi hz1 g acc.length cap (icells acc) h ad 1 c [.int .i64 x] rfl hnews h1 hroom
        rw [q1] at r1
        injection r1 with r1 _
        rw [r1]
        rfl
      · right
        have hr := run_append_grow (P := Try.prog) w 55 ty 3 i0 _ Try.underlying55 hi hz0 ⟨g, 0, none⟩ acc.length cap (icells acc) (by rw [hz1, icells_length, Nat.mul_one]) (World.ownsRow.cells (g := g) h rfl) ad 1 c [.int .i64 x] (by rw [hz1]; rfl) hnews (by omega) (by omega) (growslice_fits (by omega) (by rw [hz2]; omega))
        rw [q1] at hr
        injection hr with hr _
        rw [hr]
        intro k hk
        injection hk with hk
        simp at hk
        omega
/-- boxes, and two rows of numbers -/
structure CI (w u : World) (L : List Bk) (v1 v2 : Value) (l1 l2 : List Int) : Prop where
  mm : Mm w u L
  i1 : Iw u w.heap.size v1 l1
  i2 : Iw u w.heap.size v2 l2
  ap : ∀ k, v1.ownBlock = some k → v2.ownBlock ≠ some k
  ty : ∀ x ∈ L, x.2.1 ≠ 3
theorem Chg.grown {B : Nat} {w u : World} (h : Chg B w u) : w.grownBy u (some B) := by
  have hb := h.below 0 w (Nat.zero_le _) (Below.refl _ _)
  exact ⟨hb.os, hb.tape, hb.output, by rw [h.size]; exact Nat.le_refl _, fun k _ hk => h.other k (fun e => hk (by rw [e]))⟩
theorem own_bx {w : World} {B X : Nat} {v : Value} {l : List Int} {T : TypeId} {r : List Int} (h : Iw w B v l) (hX : w.heap[X]? = some (bx T r)) (hT : T ≠ 3) : v.ownBlock ≠ some X := by
  intro q
  obtain ⟨c, fz, h1⟩ := Lib.ownsRow_kind h X q
  rw [hX] at h1
  injection h1 with h1
  injection h1 with _ h1 _
  exact hT h1
theorem Iw.chg {w u : World} {B X : Nat} {v : Value} {l : List Int} {T : TypeId} {r : List Int} (h : Iw w B v l) (hX : w.heap[X]? = some (bx T r)) (hT : T ≠ 3) (hc : Chg X w u) : Iw u B v l :=
  World.ownsRow.kept h hc.grown (.inr (own_bx h hX hT))
theorem Mm.grown {w u x : World} {L : List Bk} {v : Value} {l : List Int} (h : Mm w u L) (hi : Iw u w.heap.size v l) (ht : ∀ x ∈ L, x.2.1 ≠ 3) (hg : u.grownBy x v.ownBlock) (hB : Below w.heap.size u x) : Mm w x L := by
  refine ⟨fun y hy => ?_, h.own, h.ap, h.below.trans hB⟩
  have hl := h.lies y hy
  exact (hg.block y.1 (bx_lt hl) (fun e => own_bx hi hl (ht y hy) e.symm)).trans hl
section
variable {w u x : World} {L : List Bk} {v1 v2 : Value} {l1 l2 : List Int}
theorem CI.call (h : CI w u L v1 v2 l1 l2) (hb : Below u.heap.size u x) : CI w x L v1 v2 l1 l2 := ⟨h.mm.call hb, h.i1.below hb, h.i2.below hb, h.ap, h.ty⟩
theorem CI.new {B : Nat} {T : TypeId} {l : List Int} (h : CI w u L v1 v2 l1 l2) (n : New u x B T l) (hT : T ≠ 3) : CI w x ((B, T, l) :: L) v1 v2 l1 l2 := ⟨h.mm.new n, h.i1.below n.below, h.i2.below n.below, h.ap, fun y hy => by
  rcases List.mem_cons.1 hy with rfl | q
  · exact hT
  · exact h.ty y q⟩
theorem CI.tail {a : Bk} (h : CI w u (a :: L) v1 v2 l1 l2) : CI w u L v1 v2 l1 l2 := ⟨h.mm.tail, h.i1, h.i2, h.ap, fun y hy => h.ty y (List.mem_cons_of_mem _ hy)⟩
theorem CI.put0 {B : Nat} {T : TypeId} {l l' : List Int} (h : CI w u ((B, T, l) :: L) v1 v2 l1 l2) (hc : Chg B u x) (hl : x.heap[B]? = some (bx T l')) : CI w x ((B, T, l') :: L) v1 v2 l1 l2 :=
  have hT : T ≠ 3 := h.ty (B, T, l) (by simp)
  ⟨h.mm.put0 hc hl, h.i1.chg h.mm.at0 hT hc, h.i2.chg h.mm.at0 hT hc, h.ap, fun y hy => by
    rcases List.mem_cons.1 hy with rfl | q
    · exact hT
    · exact h.ty y (List.mem_cons_of_mem _ q)⟩
end
/-- one number in a new row -/
theorem a_bs {ops : Array Oper} {rest : List Oper} {o : Oper} {a : Act} {w : World} {Q : Exit → Act → World → Prop} (hgd : Region.wanted o (yielded ops a.tmps) = true) {x : Operand} (ho : o.op = .buildSlice 55 1 #[(0, x)]) {v : Int} (hx : a.eval x = .int .i64 v)
    (h : ∀ u g, Below w.heap.size w u → u.cell? ⟨g, 0, none⟩ = some (.int .i64 v) → wpList Try.prog ops Q rest (a.put o.dst (.slice (some ⟨g, 0, none⟩) 1 1)) u) : wpList Try.prog ops Q (o :: rest) a w := by
  refine wpList_step fun K hK' => ?_
  rw [if_pos hgd]
  have hr : (Instr.buildSlice 55 1 #[(0, .int .i64 v)]).run Try.prog w = .ok (.slice (some ⟨w.heap.size, 0, none⟩) 1 1) (w.alloc (.cells #[.int .i64 v] 3)) := by kernel_rfl
  unfold Oper.wp execOp
  simp only [ho, List.map_toArray, List.map_cons, List.map_nil, hx, Sem.run_bind, hr, Result.andThen_ok, Sem.run_pure]
  refine hK' _ _ (h _ _ (balloc _ _) ?_)
  rw [cell_of_row _ _ _ _ _ (0, 0) (MapKept.heap_alloc w _).1]
  rfl
theorem run_append_op {P : Program} {o : Oper} {a : Act} {w w' : World} (s x : Operand) (t : TypeId) (ho : o.op = .call { callee := .builtin .append, args := #[s, x], argTypes := #[t, t] }) (v1 v2 v : Value) (hs : a.eval s = v1) (hx : a.eval x = v2)
    (hr : (Builtin.append_ #[t, t] o.type #[v1, v2]).run P w = .ok v w') : (execOp a.eval o).run P w = .ok (.value v) w' := by
  unfold execOp
  simp only [ho, resolve, invoke, builtin, Sem.run_bind, Sem.run_pure, Result.andThen_ok, List.map_toArray, List.map_cons, List.map_nil, hs, hx, hr]
theorem a_app1 {ops : Array Oper} {rest : List Oper} {o : Oper} {a : Act} {w0 w : World} {Q : Exit → Act → World → Prop} (hgd : Region.wanted o (yielded ops a.tmps) = true) {s x : Operand} (ho : o.op = .call { callee := .builtin .append, args := #[s, x], argTypes := #[55, 55] })
    {L : List Bk} {v1 v2 : Value} {l1 l2 : List Int} {g : Nat} {v : Int} (hs : a.eval s = v1) (hx : a.eval x = .slice (some ⟨g, 0, none⟩) 1 1) (hI : CI w0 w L v1 v2 l1 l2) (hc : w.cell? ⟨g, 0, none⟩ = some (.int .i64 v)) (hl : l1.length ≤ 100)
    (h : ∀ u v', CI w0 u L v' v2 (l1 ++ [v]) l2 → wpList Try.prog ops Q rest (a.put o.dst v') u) : wpList Try.prog ops Q (o :: rest) a w := by
  refine wpList_step fun K hK' => ?_
  rw [if_pos hgd]
  obtain ⟨v', w', hr, h1, h2, h3, h4⟩ := run_ints w w0.heap.size v1 l1 hI.i1 ⟨g, 0, none⟩ 1 v (by simpa [Addr.add] using hc) (by omega) hI.mm.below.size o.type
  unfold Oper.wp
  rw [run_append_op s x _ ho _ _ v' hs hx hr]
  refine hK' _ _ (h w' v' ⟨hI.mm.grown hI.i1 hI.ty h2 h3, h1, World.ownsRow.kept hI.i2 h2 ?_, fun k hk hk2 => ?_, hI.ty⟩)
  · cases hq : v2.ownBlock with
    | none => exact .inl rfl
    | some k => exact .inr (fun q => hI.ap k q.symm hq)
  · rcases h4 with q | q
    · exact hI.ap k (by rw [← q]; exact hk) hk2
    · have := q k hk
      have := (World.ownsRow.lt hI.i2 k hk2).2
      omega
theorem a_app2 {ops : Array Oper} {rest : List Oper} {o : Oper} {a : Act} {w0 w : World} {Q : Exit → Act → World → Prop} (hgd : Region.wanted o (yielded ops a.tmps) = true) {s x : Operand} (ho : o.op = .call { callee := .builtin .append, args := #[s, x], argTypes := #[55, 55] })
    {L : List Bk} {v1 v2 : Value} {l1 l2 : List Int} {g : Nat} {v : Int} (hs : a.eval s = v2) (hx : a.eval x = .slice (some ⟨g, 0, none⟩) 1 1) (hI : CI w0 w L v1 v2 l1 l2) (hc : w.cell? ⟨g, 0, none⟩ = some (.int .i64 v)) (hl : l2.length ≤ 100)
    (h : ∀ u v', CI w0 u L v1 v' l1 (l2 ++ [v]) → wpList Try.prog ops Q rest (a.put o.dst v') u) : wpList Try.prog ops Q (o :: rest) a w := by
  refine wpList_step fun K hK' => ?_
  rw [if_pos hgd]
  obtain ⟨v', w', hr, h1, h2, h3, h4⟩ := run_ints w w0.heap.size v2 l2 hI.i2 ⟨g, 0, none⟩ 1 v (by simpa [Addr.add] using hc) (by omega) hI.mm.below.size o.type
  unfold Oper.wp
  rw [run_append_op s x _ ho _ _ v' hs hx hr]
  refine hK' _ _ (h w' v' ⟨hI.mm.grown hI.i2 hI.ty h2 h3, World.ownsRow.kept hI.i1 h2 ?_, h1, fun k hk hk2 => ?_, hI.ty⟩)
  · cases hq : v1.ownBlock with
    | none => exact .inl rfl
    | some k => exact .inr (fun q => hI.ap k hq q.symm)
  · rcases h4 with q | q
    · exact hI.ap k hk (by rw [← q]; exact hk2)
    · have := q k hk2
      have := (World.ownsRow.lt hI.i1 k hk).2
      omega
theorem mem_at {l : List Int} {k : Nat} {x y : Int} (h : l[k]? = some y) : (x ∈ l.drop k) ↔ x = y ∨ x ∈ l.drop (k + 1) := by
  have hk := (List.getElem?_eq_some_iff.1 h).1
  rw [List.drop_eq_getElem_cons hk, (List.getElem?_eq_some_iff.1 h).2, List.mem_cons]
set_option maxHeartbeats 2000000 in
theorem index_any (v : Value) (l : List Int) (x : Int) (w : World) (hv : Ris w v l) (hl : l.length ≤ 1000) : Calls Try.prog 42 #[v, .int .i64 x] w fun e w' => (∃ r : Int, e = .returned (.int .i64 r) ∧ (0 ≤ r ↔ x ∈ l)) ∧ w = w' := by
  obtain ⟨a, c, rfl, hlc, hcm⟩ := hv.form
  obtain ⟨n, hn⟩ : ∃ n, l.length = n := ⟨_, rfl⟩
  have HN : Hid (l.length = n) := hn
  rw [hn] at hv hlc hl ⊢
  have HR : Hid (Ris w (.slice a n c) l) := hv
  obtain ⟨P, hP⟩ : ∃ P : Prop, P = (x ∈ l) := ⟨_, rfl⟩
  have HP : Hid (x ∈ l ↔ P) := by show _ ↔ _; rw [hP]
  rw [← hP]
  unfold maxLen at hcm
  clear hv hn hP
  go_enter Try.func42, Try.ntmps42
  go_wp2
  go_loopw [5, 8] (fun _ i wr => ∃ k : Nat, k ≤ n ∧ i = .int .i64 (k : Int) ∧ w = wr ∧ Hid (x ∈ l.drop k ↔ P)) (fun _ i _ => n - (intOf i).toNat)
  case atStart => exact ⟨0, Nat.zero_le _, rfl, rfl, HP.out⟩
  case round =>
    obtain ⟨k, hk, rfl, rfl, HA⟩ := hrel
    by_cases hlt : ¬ k < n
    · have HQ : Hid (¬ P) := by
        have := HA.out
        rw [List.drop_eq_nil_of_le (by have := HN.out; omega)] at this
        exact fun h => by simpa using this.2 h
      clear HA HP
      go_wp2
      go_ret
      exact ⟨⟨_, rfl, ⟨fun h => by omega, fun h => absurd h HQ.out⟩⟩, rfl⟩
    have hlt : k < n := by omega
    have hkL : k < l.length := by have := HN.out; omega
    obtain ⟨y, hy⟩ : ∃ y, l[k]? = some y := ⟨l[k], List.getElem?_eq_getElem hkL⟩
    obtain ⟨g, off, rfl, hcell⟩ := HR.out.at k y hy
    have HA2 : Hid ((x = y ∨ x ∈ l.drop (k + 1)) ↔ P) := by have := HA.out; rw [mem_at hy] at this; exact this
    clear HA hy hkL
    by_cases hxy : x = y
    · have HQ : Hid P := HA2.out.1 (.inl hxy)
      have e1 : (x == y) = true := by simpa using hxy
      clear HA2 hxy HP
      go_wp2
      go_ret
      exact ⟨⟨_, rfl, ⟨fun _ => HQ.out, fun _ => by omega⟩⟩, rfl⟩
    · have HQ : Hid (x ∈ l.drop (k + 1) ↔ P) := ⟨fun h => HA2.out.1 (.inr h), fun h => by rcases HA2.out.2 h with q | q; exact absurd q hxy; exact q⟩
      have e1 : (x == y) = false := by simpa using hxy
      clear HA2 hxy HP
      go_wp2
      go_roundw
      case rel => exact ⟨k + 1, by omega, by go_num, trivial, HQ.out⟩
      case measure => simp [intOf]; omega
theorem contains_any (v : Value) (l : List Int) (x : Int) (w : World) (hv : Ris w v l) (hl : l.length ≤ 1000) : Calls Try.prog 36 #[v, .int .i64 x] w fun e w' => e = .returned (.bool (decide (x ∈ l))) ∧ w = w' := by
  have HI : Hid (Calls Try.prog 42 #[v, .int .i64 x] w fun e w' => (∃ r : Int, e = .returned (.int .i64 r) ∧ (0 ≤ r ↔ x ∈ l)) ∧ w = w') := index_any v l x w hv hl
  obtain ⟨d, hd⟩ : ∃ d, decide (x ∈ l) = d := ⟨_, rfl⟩
  have HD : Hid (∀ r : Int, (0 ≤ r ↔ x ∈ l) → decide (0 ≤ r) = d) := fun r hr => by rw [← hd]; exact decide_eq_decide.2 hr
  rw [hd]
  clear hv hl hd
  go_enter Try.func36, Try.ntmps36
  go_wp2_with fail
  refine (HI.out).mono ?_
  rintro e u ⟨⟨r, rfl, hr⟩, rfl⟩
  have e1 := HD.out r hr
  clear hr
  go_wp2
  go_ret
  exact ⟨rfl, rfl⟩
set_option maxHeartbeats 2000000 in
theorem leastFree_any (v : Value) (l : List Int) (w : World) (hv : Ris w v l) (hl : l.length ≤ 100) : Calls Try.prog 26 #[v] w fun e w' => e = .returned (.int .i64 (lst l : Int)) ∧ w = w' := by
  have HC : Hid (∀ x : Int, Calls Try.prog 36 #[v, .int .i64 x] w fun e w' => e = .returned (.bool (decide (x ∈ l))) ∧ w = w') := fun x => contains_any v l x w hv (by omega)
  obtain ⟨q, hq⟩ : ∃ q, lst l = q := ⟨_, rfl⟩
  have HQ : Hid (lst l = q) := hq
  have HL : Hid (l.length ≤ 100) := hl
  rw [hq]
  clear hq hv hl
  go_enter Try.func26, Try.ntmps26
  go_wp2
  go_loopw [3] (fun i wr => ∃ k : Nat, 1 ≤ k ∧ k ≤ 101 ∧ i = .int .i64 (k : Int) ∧ w = wr ∧ Hid (∀ x : Nat, 1 ≤ x → x < k → (x : Int) ∈ l)) (fun i _ => 101 - (intOf i).toNat)
  case atStart => exact ⟨1, by omega, by omega, rfl, rfl, fun x h1 h2 => by omega⟩
  case round =>
    obtain ⟨k, hk1, hk, rfl, rfl, HA⟩ := hrel
    go_wp2_with fail
    refine (HC.out _).mono ?_
    rintro e u ⟨rfl, rfl⟩
    by_cases hm : ¬ (k : Int) ∈ l
    · have HE : Hid (k = q) := by show k = q; rw [← HQ.out]; exact (lst_eq ⟨hk1, hm, HA.out⟩).symm
      rw [decide_eq_false hm]
      clear HA HQ hm
      go_wp2
      go_ret
      rw [← HE.out]
      exact ⟨rfl, rfl⟩
    · have hm : (k : Int) ∈ l := by
        by_cases z : (k : Int) ∈ l
        · exact z
        · exact absurd z hm
      have HA2 : Hid (∀ x : Nat, 1 ≤ x → x < k + 1 → (x : Int) ∈ l) := fun x h1 h2 => by
        by_cases e : x = k
        · rw [e]; exact hm
        · exact HA.out x h1 (by omega)
      have hk9 : k + 1 ≤ 101 := by
        have := pig k l (fun x h1 h2 => HA2.out x h1 (by omega))
        have := HL.out
        omega
      rw [decide_eq_true hm]
      clear HA HQ hm
      go_wp2
      go_roundw
      case rel => exact ⟨k + 1, by omega, by omega, by go_num, trivial, HA2.out⟩
      case measure => simp [intOf]; omega
end Go.Proofs.Ytfhlbndilkidhaa.slots
