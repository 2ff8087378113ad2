/- host: boxes beside rows that grow. -/
import Derived.Test.YthjmcopknkemnaaHstI
namespace Go.Proofs.Ythjmcopknkemnaa.host
open Go Go.RowKit
open Go.Proofs.Ythjmcopknkemnaa
open Go.Proofs.Ythjmcopknkemnaa.slots (Row row_board row_cmd Chg ag fl Wf bsq balloc bx_lt)
open Go.Proofs.Ythjmcopknkemnaa.ring (Ces Rcs rgV rgW Rg Ce ceV named keep)
set_option linter.unusedVariables false
set_option linter.unusedSimpArgs false
set_option maxRecDepth 100000

/-- one element behind the others, and where they lie then -/
theorem Ows.app2 {e t : TypeId} {k : Nat} {w : World} {B : Nat} {v : Value} {L : List (List Int)} (hE : El t e k) (h : Ows e k w B v L) (ad : Addr) (c : Nat) (y : List Int) (hy : y.length = k) (hx : ∀ j z, (ivs y)[j]? = some z → w.cell? (ad.add j) = some z) (hl : L.length ≤ 100000) (hB : B ≤ w.heap.size) (ty : TypeId) :
    ∃ v' w', (Builtin.append_ #[t, t] ty #[v, .slice (some ad) 1 c]).run Try.prog w = .ok v' w' ∧ Ows e k w' B v' (L ++ [y]) ∧ w.grownBy w' v.ownBlock ∧ Below B w w' ∧ (v'.ownBlock = v.ownBlock ∨ ∀ k, v'.ownBlock = some k → w.heap.size ≤ k) := by
  obtain ⟨v', w', q1, q2, q3, q4⟩ := h.app hE ad c y hy hx hl hB ty
  refine ⟨v', w', q1, q2, q3, q4, ?_⟩
  obtain ⟨i, z, b, hi, hz0, hz1, hz2, hz3, hb⟩ := hE.i
  have h1 : ∀ u ∈ ivs y, u.oneCell' = true := fun u hu => by obtain ⟨x, _, rfl⟩ := List.mem_map.1 hu; rfl
  have hyl : (ivs y).length = 1 * k := by simp [ivs, hy]
  rcases h.o.2 with ⟨rfl, h0⟩ | ⟨g, cap, cur, rfl, hb', hg, hnc, hcm, hcs, htake⟩
  · right
    have hacc : L = [] := List.eq_nil_of_length_eq_zero h0
    subst hacc
    obtain ⟨v2, w2, r1, r2, _⟩ := (Ows.nil e k w w.heap.size).app hE ad c y hy hx (by simp) (Nat.le_refl _) ty
    rw [q1] at r1
    injection r1 with r1 r1'
    subst r1 r1'
    exact fun j hj => (r2.lt hj).1
  · by_cases hroom : L.length + 1 ≤ cap
    · left
      obtain ⟨w2, r1, _, _⟩ := run_append_fits (P := Try.prog) w B t ty e i k hE.u hi hz1 g L.length cap (cls L) h.o ad 1 c (ivs y) hyl hx h1 hroom
      rw [q1] at r1
      injection r1 with r1 _
      rw [r1]
      rfl
    · right
      have hcl := cls_len h.l
      have hr := run_append_grow (P := Try.prog) w t ty e i _ hE.u hi hz0 ⟨g, 0, none⟩ L.length cap (cls L) (by rw [hz1, hcl]) (World.ownsRow.cells (g := g) h.o rfl) ad 1 c (ivs y) (by rw [hz1]; exact hyl) hx (by omega) (by omega) (growslice_fits (by omega) (by
        rw [hz2]
        have : (L.length + 1) * b ≤ 100001 * 1000 := Nat.mul_le_mul (by omega) hb
        omega))
      rw [q1] at hr
      injection hr with hr _
      rw [hr]
      intro j hj
      injection hj with hj
      simp at hj
      omega
abbrev Ro4 := TypeId × Nat × Value × List (List Int)
/-- boxes, rows of cells, and rows that grow -/
structure Mo (w u : World) (L : List Bk) (R : List (Bool × Value × List Ce)) (O : List Ro4) : Prop where
  mv : Mv w u L R
  ow : ∀ o ∈ O, Ows o.1 o.2.1 u w.heap.size o.2.2.1 o.2.2.2
  ab : ∀ o ∈ O, ∀ x ∈ L, o.2.2.1.ownBlock ≠ some x.1
  ac : ∀ o ∈ O, o.1 ≠ 91
  ap : O.Pairwise (fun a b => ∀ k, a.2.2.1.ownBlock = some k → b.2.2.1.ownBlock ≠ some k)
section
variable {w u v : World} {L : List Bk} {R : List (Bool × Value × List Ce)} {O : List Ro4} {B : Nat} {T : TypeId} {l l' : List Value}
theorem Mo.below (h : Mo w u L R O) : Below w.heap.size w u := h.mv.below
theorem Mo.read (h : Mo w u L R O) {b : Bool} {x : Value} {C : List Ce} (hx : (b, x, C) ∈ R) : Rcs u x C := h.mv.read hx
theorem Mo.mine (h : Mo w u L R O) {x : Value} {C : List Ce} (hx : (true, x, C) ∈ R) : Ces u w.heap.size x C := h.mv.mine hx
theorem Mo.call (h : Mo w u L R O) (hb : Below u.heap.size u v) : Mo w v L R O := ⟨h.mv.call hb, fun o ho => (h.ow o ho).below hb, h.ab, h.ac, h.ap⟩
theorem Mo.add (h : Mo w u L R O) {b : Bool} {x : Value} {C : List Ce} (hx : Rw w u b x C) : Mo w u L ((b, x, C) :: R) O := ⟨h.mv.add hx, h.ow, h.ab, h.ac, h.ap⟩
theorem Mo.tel (h : Mo w u L R O) {x : Value} {C : List Ce} (hc : Ces v u.heap.size x C) (hb : Below u.heap.size u v) : Mo w v L ((true, x, C) :: R) O := ⟨h.mv.tel hc hb, (h.call hb).ow, h.ab, h.ac, h.ap⟩
theorem Mo.new (h : Mo w u L R O) (n : New u v B T l) (ht : T ≠ 91) : Mo w v ((B, T, l) :: L) R O := ⟨h.mv.new n ht, fun o ho => (h.ow o ho).below n.below, fun o ho x hx => by
  rcases List.mem_cons.1 hx with rfl | q
  · intro hq
    have := ((h.ow o ho).lt hq).2
    have := n.at'
    simp only at *
    omega
  · exact h.ab o ho x q, h.ac, h.ap⟩
theorem Mo.put {pre post : List Bk} (h : Mo w u (pre ++ (B, T, l) :: post) R O) (hc : Chg B u v) (hl : v.heap[B]? = some (bv T l')) : Mo w v (pre ++ (B, T, l') :: post) R O := ⟨h.mv.put hc hl, fun o ho => (h.ow o ho).chg (h.ab o ho (B, T, l) (by simp)) hc, fun o ho x hx => by
  rcases List.mem_append.1 hx with q | q
  · exact h.ab o ho x (List.mem_append.2 (.inl q))
  · rcases List.mem_cons.1 q with rfl | q
    · exact h.ab o ho (B, T, l) (by simp)
    · exact h.ab o ho x (List.mem_append.2 (.inr (List.mem_cons_of_mem _ q))), h.ac, h.ap⟩
theorem Mo.sub {L' : List Bk} {R' : List (Bool × Value × List Ce)} (h : Mo w u L R O) (hL : L'.Sublist L) (hR : ∀ x ∈ R', x ∈ R) : Mo w u L' R' O := ⟨h.mv.sub hL hR, h.ow, fun o ho x hx => h.ab o ho x (hL.subset hx), h.ac, h.ap⟩
variable {a b c d f g : Bk}
theorem Mo.at0 (h : Mo w u ((B, T, l) :: L) R O) : u.heap[B]? = some (bv T l) := h.mv.at0
theorem Mo.at1 (h : Mo w u (a :: (B, T, l) :: L) R O) : u.heap[B]? = some (bv T l) := h.mv.at1
theorem Mo.at2 (h : Mo w u (a :: b :: (B, T, l) :: L) R O) : u.heap[B]? = some (bv T l) := h.mv.at2
theorem Mo.at3 (h : Mo w u (a :: b :: c :: (B, T, l) :: L) R O) : u.heap[B]? = some (bv T l) := h.mv.at3
theorem Mo.at4 (h : Mo w u (a :: b :: c :: d :: (B, T, l) :: L) R O) : u.heap[B]? = some (bv T l) := h.mv.at4
theorem Mo.at5 (h : Mo w u (a :: b :: c :: d :: f :: (B, T, l) :: L) R O) : u.heap[B]? = some (bv T l) := h.mv.at5
theorem Mo.put0 (h : Mo w u ((B, T, l) :: L) R O) (hc : Chg B u v) (hl : v.heap[B]? = some (bv T l')) : Mo w v ((B, T, l') :: L) R O := Mo.put (pre := []) h hc hl
theorem Mo.put1 (h : Mo w u (a :: (B, T, l) :: L) R O) (hc : Chg B u v) (hl : v.heap[B]? = some (bv T l')) : Mo w v (a :: (B, T, l') :: L) R O := Mo.put (pre := [a]) h hc hl
theorem Mo.put2 (h : Mo w u (a :: b :: (B, T, l) :: L) R O) (hc : Chg B u v) (hl : v.heap[B]? = some (bv T l')) : Mo w v (a :: b :: (B, T, l') :: L) R O := Mo.put (pre := [a, b]) h hc hl
theorem Mo.put3 (h : Mo w u (a :: b :: c :: (B, T, l) :: L) R O) (hc : Chg B u v) (hl : v.heap[B]? = some (bv T l')) : Mo w v (a :: b :: c :: (B, T, l') :: L) R O := Mo.put (pre := [a, b, c]) h hc hl
theorem Mo.put4 (h : Mo w u (a :: b :: c :: d :: (B, T, l) :: L) R O) (hc : Chg B u v) (hl : v.heap[B]? = some (bv T l')) : Mo w v (a :: b :: c :: d :: (B, T, l') :: L) R O := Mo.put (pre := [a, b, c, d]) h hc hl
theorem Mo.put5 (h : Mo w u (a :: b :: c :: d :: f :: (B, T, l) :: L) R O) (hc : Chg B u v) (hl : v.heap[B]? = some (bv T l')) : Mo w v (a :: b :: c :: d :: f :: (B, T, l') :: L) R O := Mo.put (pre := [a, b, c, d, f]) h hc hl
theorem Mo.nil (w : World) : Mo w w [] [] [] := ⟨Mv.nil w, fun o ho => absurd ho (by simp), fun o ho => absurd ho (by simp), fun o ho => absurd ho (by simp), List.Pairwise.nil⟩
/-- a row that is nothing yet -/
theorem Mo.row (h : Mo w u L R O) (e : TypeId) (k : Nat) (he : e ≠ 91) : Mo w u L R ((e, k, .slice none 0 0, []) :: O) := ⟨h.mv, fun o ho => by
  rcases List.mem_cons.1 ho with rfl | q
  · exact Ows.nil e k u _
  · exact h.ow o q, fun o ho x hx => by
  rcases List.mem_cons.1 ho with rfl | q
  · simp [Value.ownBlock]
  · exact h.ab o q x hx, fun o ho => by
  rcases List.mem_cons.1 ho with rfl | q
  · exact he
  · exact h.ac o q, List.pairwise_cons.2 ⟨fun b _ k hk => by simp [Value.ownBlock] at hk, h.ap⟩⟩
end
/-- one of the rows has grown -/
theorem Mo.grow {w u v : World} {L : List Bk} {R : List (Bool × Value × List Ce)} {pre post : List Ro4} {e : TypeId} {k : Nat} {v1 v' : Value} {l l' : List (List Int)} (h : Mo w u L R (pre ++ (e, k, v1, l) :: post)) (h1 : Ows e k v w.heap.size v' l') (h2 : u.grownBy v v1.ownBlock) (h3 : Below w.heap.size u v) (h4 : v'.ownBlock = v1.ownBlock ∨ ∀ k, v'.ownBlock = some k → u.heap.size ≤ k) : Mo w v L R (pre ++ (e, k, v', l') :: post) := by
  have hme : (e, k, v1, l) ∈ pre ++ (e, k, v1, l) :: post := by simp
  have ho := h.ow _ hme
  have hap := h.ap
  rw [List.pairwise_append, List.pairwise_cons] at hap
  obtain ⟨hp1, ⟨hp2, hp3⟩, hp4⟩ := hap
  have old : ∀ o, o ∈ pre ∨ o ∈ post → o ∈ pre ++ (e, k, v1, l) :: post := fun o ho => by rcases ho with q | q <;> simp [q]
  have ne : ∀ o, o ∈ pre ∨ o ∈ post → o.2.2.1.ownBlock = none ∨ o.2.2.1.ownBlock ≠ v1.ownBlock := fun o hq => by
    cases hv : o.2.2.1.ownBlock with
    | none => exact .inl rfl
    | some X =>
      right
      intro hx
      rcases hq with q | q
      · exact hp4 o q (e, k, v1, l) (by simp) X hv hx.symm
      · exact hp2 o q X hx.symm hv
  have nw : ∀ o, o ∈ pre ∨ o ∈ post → ∀ X, v'.ownBlock = some X → o.2.2.1.ownBlock ≠ some X := fun o hq X hX hO => by
    rcases h4 with q | q
    · rcases ne o hq with r | r
      · rw [r] at hO; cases hO
      · exact r (by rw [hO, ← q, hX])
    · have := q X hX
      have := ((h.ow o (old o hq)).lt hO).2
      omega
  refine ⟨?_, fun o hq => ?_, fun o hq x hx => ?_, fun o hq => ?_, ?_⟩
  · -- the boxes
    refine ⟨fun y hy => ?_, h.mv.own, h.mv.ap, h.mv.ty, fun y hy => ?_, h.mv.below.trans h3⟩
    · have hl := h.mv.lies y hy
      exact (h2.block y.1 (bx_lt hl) (fun q => h.ab _ hme y hy q.symm)).trans hl
    · have q := h.mv.rows y hy
      obtain ⟨b, y, C⟩ := y
      cases b
      · exact q
      · refine World.ownsRow.kept q h2 ?_
        cases hv : y.ownBlock with
        | none => exact .inl rfl
        | some X =>
          right
          intro hq
          obtain ⟨c1, f1, g1⟩ := Lib.ownsRow_kind q X hv
          obtain ⟨c2, f2, g2⟩ := Lib.ownsRow_kind ho.o X hq.symm
          rw [g1] at g2
          injection g2 with g2
          injection g2 with _ g2 _
          exact h.ac _ hme g2.symm
  · rcases List.mem_append.1 hq with q | q
    · exact (h.ow o (old o (.inl q))).kept h2 (ne o (.inl q))
    · rcases List.mem_cons.1 q with rfl | q
      · exact h1
      · exact (h.ow o (old o (.inr q))).kept h2 (ne o (.inr q))
  · rcases List.mem_append.1 hq with q | q
    · exact h.ab o (old o (.inl q)) x hx
    · rcases List.mem_cons.1 q with rfl | q
      · intro hX
        rcases h4 with r | r
        · exact h.ab _ hme x hx (by rw [← r]; exact hX)
        · have := r x.1 hX
          have := bx_lt (h.mv.lies x hx)
          omega
      · exact h.ab o (old o (.inr q)) x hx
  · rcases List.mem_append.1 hq with q | q
    · exact h.ac o (old o (.inl q))
    · rcases List.mem_cons.1 q with rfl | q
      · exact h.ac (e, k, v1, l) hme
      · exact h.ac o (old o (.inr q))
  · rw [List.pairwise_append, List.pairwise_cons]
    refine ⟨hp1, ⟨fun b hb X hX => nw b (.inr hb) X hX, hp3⟩, fun a ha b hb => ?_⟩
    rcases List.mem_cons.1 hb with rfl | q
    · intro X hX hX2
      exact nw a (.inl ha) X hX2 hX
    · exact hp4 a ha b (by simp [q])
/-- append of one element -/
theorem v_appO {ops : Array Oper} {rest : List Oper} {o : Oper} {a : Act} {w0 w : World} {Q : Exit → Act → World → Prop} (hgd : Region.wanted o (yielded ops a.tmps) = true) {t e : TypeId} {k : Nat} {s x : Operand} (ho : o.op = .call { callee := .builtin .append, args := #[s, x], argTypes := #[t, t] }) (hE : El t e k)
    {v1 : Value} {L : List Bk} {R : List (Bool × Value × List Ce)} (pre : List Ro4) {post : List Ro4} {l : List (List Int)} {g : Nat} {y : List Int} (hs : a.eval s = v1) (hx : a.eval x = .slice (some ⟨g, 0, none⟩) 1 1) (hM : Mo w0 w L R (pre ++ (e, k, v1, l) :: post)) (hc : ∀ j z, (ivs y)[j]? = some z → w.cell? ⟨g, j, none⟩ = some z) (hy : y.length = k) (hl : l.length ≤ 100000)
    (h : ∀ u v', Mo w0 u L R (pre ++ (e, k, v', l ++ [y]) :: post) → wpList Try.prog ops Q rest (a.put o.dst v') u) : wpList Try.prog ops Q (o :: rest) a w := by
  refine wpList_step fun K hK' => ?_
  rw [if_pos hgd]
  obtain ⟨v', w', hr, h1, h2, h3, h4⟩ := Ows.app2 hE (hM.ow (e, k, v1, l) (by simp)) ⟨g, 0, none⟩ 1 y hy (fun j z hz => by rw [Addr.add_lit, Nat.zero_add]; exact hc j z hz) hl hM.below.size o.type
  have hq : (execOp a.eval o).run Try.prog w = .ok (.value v') w' := by
    unfold execOp
    simp only [ho, resolve, invoke, builtin, Sem.run_bind, Sem.run_pure, Result.andThen_ok, List.map_toArray, List.map_cons, List.map_nil, hs, hx, hr]
  unfold Oper.wp
  rw [hq]
  exact hK' _ _ (h w' v' (hM.grow h1 h2 h3 h4))
end Go.Proofs.Ythjmcopknkemnaa.host
