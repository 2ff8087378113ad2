/- topo: trees that are told and then written over; clones of numbers. -/
import Derived.Test.YtemlafdmeaobfabTopV
import Derived.Test.YtemlafdmeaobfabTopL
namespace Go.Proofs.Ytemlafdmeaobfab.topo
open Go Go.RowKit Go.Proofs.Ytemlafdmeaobfab.route
set_option linter.unusedVariables false
set_option linter.unusedSimpArgs false
set_option maxRecDepth 100000

theorem ow_open {w : World} {B : Nat} {v : Value} {M : NL} (h : Ow w B v M) (hn : 0 < M.length) : ∃ g cap rest, v = .slice (some ⟨g, 0, none⟩) M.length cap ∧ w.heap[g]? = some (bv 25 (ncs M ++ rest)) ∧ B ≤ g ∧ (ncs M ++ rest).length = cap * 4 ∧ cap ≤ maxLen := by
  rcases h.2 with ⟨_, h0⟩ | ⟨g, cap, cur, q1, q2, q3, q4, q5, q6, q7⟩
  · omega
  · refine ⟨g, cap, cur.toList.drop (M.length * 4), q1, ?_, q2, ?_, q5⟩
    · rw [q3]
      unfold bv
      congr 2
      apply Array.ext'
      show cur.toList = _
      rw [← q7, List.take_append_drop]
    · rw [← q7, List.take_append_drop]
      simpa using q6
theorem ptv_ncs_app {M : NL} {rest : List Value} {k : Nat} {q : Value × Nd} (h : k < M.length) : ptv (ncs M ++ rest) (k * 4) (ncl q.1 q.2) = ncs (M.set k q) ++ rest := by
  have hq : (ncl q.1 q.2).length = 4 := rfl
  rw [← ptv_ncs h]
  unfold ptv
  rw [hq, List.take_append_of_le_length (by rw [ncs_length]; omega), List.drop_append_of_le_length (by rw [ncs_length]; omega)]
  simp [List.append_assoc]
theorem ptv_behind {A rest r : List Value} {k : Nat} (h : A.length ≤ k) : ptv (A ++ rest) k r = A ++ ptv rest (k - A.length) r := by
  unfold ptv
  rw [List.take_append, List.take_of_length_le h, List.drop_append, List.drop_eq_nil_of_le (by omega)]
  simp [show k + r.length - A.length = k - A.length + r.length by omega]
theorem ptv_len {l r : List Value} {k : Nat} (h : k + r.length ≤ l.length) : (ptv l k r).length = l.length := by
  unfold ptv
  simp
  omega
/-- a row of nodes, of which some block's four cells are written -/
theorem Ow.wrote {w u : World} {B g i : Nat} {v : Value} {M : NL} {l : List Value} {q : Value × Nd} (h : Ow w B v M) (hg : w.heap[g]? = some (bv 25 l)) (hfit : i * 4 + 4 ≤ l.length) (hu : u.heap[g]? = some (bv 25 (ptv l (i * 4) (ncl q.1 q.2)))) (hc : Chg g w u) : ∃ M', Ow u B v M' ∧ M'.length = M.length ∧ ∀ x ∈ M', x ∈ M ∨ x = q := by
  rcases h.2 with ⟨q1, q2⟩ | ⟨b, cap, cur, q1, q2, q3, q4, q5, q6, q7⟩
  · exact ⟨M, ⟨h.1, .inl ⟨q1, q2⟩⟩, rfl, fun x hx => .inl hx⟩
  · by_cases hb : b = g
    · subst hb
      have hl : cur.toList = l := by
        rw [hg] at q3
        injection q3 with q3
        unfold bv at q3
        injection q3 with q3 _ _
        rw [← q3]
      have hle : l.length = cap * 4 := by rw [← hl]; simpa using q6
      have hlM : l = ncs M ++ l.drop (M.length * 4) := by rw [← q7, ← hl, List.take_append_drop]
      have hlen : (ptv l (i * 4) (ncl q.1 q.2)).length = cap * 4 := by rw [ptv_len (by simpa [ncl] using hfit)]; exact hle
      by_cases hi : i < M.length
      · refine ⟨M.set i q, ?_, List.length_set .., fun x hx => ?_⟩
        · have e : ptv l (i * 4) (ncl q.1 q.2) = ncs (M.set i q) ++ l.drop (M.length * 4) := by
            conv => lhs; rw [hlM]
            exact ptv_ncs_app hi
          refine ⟨ncs_length _, .inr ⟨b, cap, _, by rw [List.length_set]; exact q1, q2, hu, by rw [List.length_set]; exact q4, q5, by simpa using hlen, ?_⟩⟩
          rw [e, ← ncs_length (M.set i q)]
          simp
        · rcases List.mem_or_eq_of_mem_set hx with r | r
          · exact .inl r
          · exact .inr r
      · refine ⟨M, ?_, rfl, fun x hx => .inl hx⟩
        have e : ptv l (i * 4) (ncl q.1 q.2) = ncs M ++ ptv (l.drop (M.length * 4)) (i * 4 - (ncs M).length) (ncl q.1 q.2) := by
          conv => lhs; rw [hlM]
          exact ptv_behind (by rw [ncs_length]; omega)
        refine ⟨h.1, .inr ⟨b, cap, _, q1, q2, hu, q4, q5, by simpa using hlen, ?_⟩⟩
        rw [e, ← ncs_length M]
        simp
    · exact ⟨M, ⟨h.1, .inr ⟨b, cap, cur, q1, q2, by rw [hc.other b hb]; exact q3, q4, q5, q6, q7⟩⟩, rfl, fun x hx => .inl hx⟩
theorem Ow.chg {w u : World} {B X : Nat} {T : TypeId} {l : List Value} {v : Value} {M : NL} (h : Ow w B v M) (hl : w.heap[X]? = some (bv T l)) (ht : T ≠ 25) (hc : Chg X w u) : Ow u B v M := by
  refine ⟨h.1, ?_⟩
  rcases h.2 with ⟨q1, q2⟩ | ⟨g, cap, cur, q1, q2, q3, q4⟩
  · exact .inl ⟨q1, q2⟩
  · refine .inr ⟨g, cap, cur, q1, q2, ?_, q4⟩
    rw [hc.other g ?_]
    · exact q3
    · rintro rfl
      rw [hl] at q3
      injection q3 with q3
      injection q3 with _ q3 _
      exact ht q3
theorem iw_chg {w u : World} {B X : Nat} {T : TypeId} {l : List Value} {v : Value} {n : List Int} (h : Iw w B v n) (hl : w.heap[X]? = some (bv T l)) (ht : T ≠ 3) (hc : Chg X w u) : Iw u B v n := (On.chg (n := (n, 0, 0, 0)) ⟨h⟩ hl ht hc).pa
/-- a row of numbers, of which some block's number is written -/
theorem iw_wrote {w u : World} {B g k : Nat} {v : Value} {n : List Int} {z : Int} {l : List Value} (h : Iw w B v n) (hg : w.heap[g]? = some (bv 3 l)) (hu : u.heap[g]? = some (bv 3 (l.set k (.int .i64 z)))) (hc : Chg g w u) : ∃ n', Iw u B v n' ∧ n'.length = n.length := by
  rcases h.2 with ⟨q1, q2⟩ | ⟨b, cap, cur, q1, q2, q3, q4, q5, q6, q7⟩
  · exact ⟨n, ⟨h.1, .inl ⟨q1, q2⟩⟩, rfl⟩
  · by_cases hb : b = g
    · subst hb
      have hl : cur.toList = l := by
        rw [hg] at q3
        injection q3 with q3
        unfold bv at q3
        injection q3 with q3 _ _
        rw [← q3]
      refine ⟨n.set k z, ?_, List.length_set ..⟩
      refine ⟨by rw [icells_length, List.length_set, Nat.mul_one], .inr ⟨b, cap, _, by rw [List.length_set]; exact q1, q2, hu, by rw [List.length_set]; exact q4, q5, by rw [← hl]; simpa using q6, ?_⟩⟩
      have e : icells (n.set k z) = (icells n).set k (.int .i64 z) := by simp [icells, List.map_set]
      rw [e, ← q7, ← hl, List.length_set]
      simp [List.take_set]
    · exact ⟨n, ⟨h.1, .inr ⟨b, cap, cur, q1, q2, by rw [hc.other b hb]; exact q3, q4, q5, q6, q7⟩⟩, rfl⟩
/-- a tree that may be written over -/
def Wr (u : World) (B : Nat) (v : Value) : Prop := ∃ M, Ow u B v M ∧ ∀ q ∈ M, ∃ n, Iw u B q.1 n
theorem Wr.below {u x : World} {B : Nat} {v : Value} (h : Wr u B v) (hb : Below u.heap.size u x) : Wr x B v := by
  obtain ⟨M, h1, h2⟩ := h
  exact ⟨M, h1.below hb, fun q hq => by obtain ⟨n, hn⟩ := h2 q hq; exact ⟨n, hn.below hb⟩⟩
theorem Tt.wr {u : World} {B : Nat} {v : Value} {M : NL} (h : Tt u B v M) : Wr u B v := ⟨M, h.row, fun q hq => ⟨_, (h.on q hq).pa⟩⟩
theorem Wr.int {w u : World} {B g k : Nat} {v : Value} {z : Int} {l : List Value} (h : Wr w B v) (hg : w.heap[g]? = some (bv 3 l)) (hu : u.heap[g]? = some (bv 3 (l.set k (.int .i64 z)))) (hc : Chg g w u) : Wr u B v := by
  obtain ⟨M, h1, h2⟩ := h
  exact ⟨M, h1.chg hg (by decide) hc, fun q hq => by
    obtain ⟨n, hn⟩ := h2 q hq
    obtain ⟨n', hn', _⟩ := iw_wrote hn hg hu hc
    exact ⟨n', hn'⟩⟩
theorem Wr.node {w u : World} {B g i : Nat} {v : Value} {l : List Value} {n : Nd} (h : Wr w B v) (hg : w.heap[g]? = some (bv 25 l)) (hfit : i * 4 + 4 ≤ l.length) (hu : u.heap[g]? = some (bv 25 (ptv l (i * 4) (ncl nilS n)))) (hc : Chg g w u) : Wr u B v := by
  obtain ⟨M, h1, h2⟩ := h
  obtain ⟨M', h3, _, h4⟩ := h1.wrote (q := (nilS, n)) hg hfit hu hc
  refine ⟨M', h3, fun q hq => ?_⟩
  rcases h4 q hq with r | r
  · obtain ⟨m, hm⟩ := h2 q r
    exact ⟨m, iw_chg hm hg (by decide) hc⟩
  · rw [r]; exact ⟨[], Iw.nil _ _⟩
/-- rows that are written over, listed in a block of their own -/
structure Wo (u1 u : World) (gq : Nat) (R : List Value) : Prop where
  below : Below u1.heap.size u1 u
  lst : u.heap[gq]? = some (bv 22 R)
  rows : ∀ v ∈ R, Wr u u1.heap.size v
section
variable {u1 u x : World} {gq : Nat} {R : List Value}
theorem Wo.int {g k : Nat} {z : Int} {l : List Value} (h : Wo u1 u gq R) (hB : u1.heap.size ≤ g) (hg : u.heap[g]? = some (bv 3 l)) (hu : x.heap[g]? = some (bv 3 (l.set k (.int .i64 z)))) (hc : Chg g u x) : Wo u1 x gq R :=
  ⟨hc.below _ _ hB h.below, by
    rw [hc.other gq ?_]
    · exact h.lst
    · rintro rfl
      have := h.lst
      rw [hg] at this
      injection this with this
      unfold bv at this
      injection this with _ this _
      exact absurd this (by decide), fun v hv => (h.rows v hv).int hg hu hc⟩
theorem Wo.node {g i : Nat} {l : List Value} {n : Nd} (h : Wo u1 u gq R) (hB : u1.heap.size ≤ g) (hg : u.heap[g]? = some (bv 25 l)) (hfit : i * 4 + 4 ≤ l.length) (hu : x.heap[g]? = some (bv 25 (ptv l (i * 4) (ncl nilS n)))) (hc : Chg g u x) : Wo u1 x gq R :=
  ⟨hc.below _ _ hB h.below, by
    rw [hc.other gq ?_]
    · exact h.lst
    · rintro rfl
      have := h.lst
      rw [hg] at this
      injection this with this
      unfold bv at this
      injection this with _ this _
      exact absurd this (by decide), fun v hv => (h.rows v hv).node hg hfit hu hc⟩
end
theorem bld77 : ∀ w, (Instr.build 25 #[(3, .int .i64 77)]).run Try.prog w = .ok (agv (ncl nilS ([], 0, 0, 77))) w := fun w => by kernel_rfl
theorem bld4 (a1 a2 a3 a4 : Option Addr) (n1 n2 n3 n4 c1 c2 c3 c4 : Nat) (w : World) : (Instr.buildSlice 42 4 #[(0, .slice a1 n1 c1), (1, .slice a2 n2 c2), (2, .slice a3 n3 c3), (3, .slice a4 n4 c4)]).run Try.prog w = .ok (.slice (some ⟨w.heap.size, 0, none⟩) 4 4) (w.alloc (bv 22 [.slice a1 n1 c1, .slice a2 n2 c2, .slice a3 n3 c3, .slice a4 n4 c4])) := by kernel_rfl
theorem v_bs4 {ops : Array Oper} {rest : List Oper} {o : Oper} {a : Act} {w : World} {Q : Exit → Act → World → Prop} (hgd : Region.wanted o (yielded ops a.tmps) = true) {x1 x2 x3 x4 : Operand} (ho : o.op = .buildSlice 42 4 #[(0, x1), (1, x2), (2, x3), (3, x4)])
    {a1 a2 a3 a4 : Option Addr} {n1 n2 n3 n4 c1 c2 c3 c4 : Nat} (h1 : a.eval x1 = .slice a1 n1 c1) (h2 : a.eval x2 = .slice a2 n2 c2) (h3 : a.eval x3 = .slice a3 n3 c3) (h4 : a.eval x4 = .slice a4 n4 c4)
    (h : ∀ u B, New w u B 22 [.slice a1 n1 c1, .slice a2 n2 c2, .slice a3 n3 c3, .slice a4 n4 c4] → wpList Try.prog ops Q rest (a.put o.dst (.slice (some ⟨B, 0, none⟩) 4 4)) u) : wpList Try.prog ops Q (o :: rest) a w := by
  refine wpList_step fun K hK' => ?_
  rw [if_pos hgd]
  unfold Oper.wp execOp
  simp only [ho, List.map_toArray, List.map_cons, List.map_nil, h1, h2, h3, h4, Sem.run_bind, bld4, Result.andThen_ok, Sem.run_pure]
  exact hK' _ _ (h _ _ (New.alloc w 22 _))
/-- a cell that holds a slice of nodes is read -/
theorem v_cels {ops : Array Oper} {rest : List Oper} {o : Oper} {a : Act} {w : World} {Q : Exit → Act → World → Prop} (hgd : Region.wanted o (yielded ops a.tmps) = true) {x : Operand} (ho : o.op = .load 22 x)
    {p : Addr} {v : Value} (hx : a.eval x = .pointer (some p)) (hc : w.cell? p = some v)
    (h : wpList Try.prog ops Q rest (a.put o.dst v) w) : wpList Try.prog ops Q (o :: rest) a w := by
  refine wpList_step fun K hK' => ?_
  rw [if_pos hgd]
  have hs : (Instr.loadAt 22 (.pointer (some p))).run Try.prog w = .ok v w := by simp [go_sem, hc]
  unfold Oper.wp execOp
  simp only [ho, hx, Sem.run_bind, hs, Result.andThen_ok, Sem.run_pure]
  exact hK' _ _ h
/-- one node behind many -/
theorem run_node1 (w : World) (B : Nat) (v : Value) (acc : NL) (h : Ow w B v acc) (gb c : Nat) (q : Value × Nd) (hq : w.heap[gb]? = some (bv 25 (ncl q.1 q.2))) (h1 : q.1.oneCell' = true) (hl : (acc.length + 1) * 48 ≤ 140737488355328) (hB : B ≤ w.heap.size) (ty : TypeId) :
    ∃ v' w', (Builtin.append_ #[22, 22] ty #[v, .slice (some ⟨gb, 0, none⟩) 1 c]).run Try.prog w = .ok v' w' ∧ Ow w' B v' (acc ++ [q]) ∧ w.grownBy w' v.ownBlock ∧ Below B w w' := by
  obtain ⟨i0, hi, hz0, hz1, hz2⟩ := info_parts' infoN
  have hnews : ∀ j u, (ncl q.1 q.2)[j]? = some u → w.cell? ((⟨gb, 0, none⟩ : Addr).add j) = some u := fun j u hj => bv_src hq 0 j u (by simpa using hj)
  have hone : ∀ u ∈ ncl q.1 q.2, u.oneCell' = true := (ncl_vs q.2 h1).one
  obtain ⟨v', w', q1, q2, q3, _⟩ := run_append_own (P := Try.prog) w B 22 ty 25 i0 _ 4 48 Try.underlying22 hi hz0 hz1 hz2 rfl (by omega) v acc.length (ncs acc) h ⟨gb, 0, none⟩ 1 c (ncl q.1 q.2) rfl hnews hone (by unfold maxLen; omega) hl hB
  refine ⟨v', w', q1, ?_, q3, (Below.refl _ _).grown q3 hB (own_block h)⟩
  unfold Ow
  rw [List.length_append, ncs_append, show ncs [q] = ncl q.1 q.2 by simp [ncs]]
  exact q2
theorem On.grown {w u : World} {B B' : Nat} {v vb : Value} {n : Nd} {M : NL} (h : On w B v n) (ho : Ow w B' vb M) (hg : w.grownBy u vb.ownBlock) : On u B v n := ⟨by
  refine ⟨h.pa.1, ?_⟩
  rcases h.pa.2 with ⟨q1, q2⟩ | ⟨g, cap, cur, q1, q2, q3, q4⟩
  · exact .inl ⟨q1, q2⟩
  · refine .inr ⟨g, cap, cur, q1, q2, ?_, q4⟩
    refine (hg.block g (Array.getElem?_eq_some_iff.1 q3).1 ?_).trans q3
    intro e
    rcases ho.2 with ⟨r1, r2⟩ | ⟨g2, cap2, cur2, r1, r2, r3, r4⟩
    · rw [r1] at e; simp [Value.ownBlock] at e
    · rw [r1] at e
      have hgg : g = g2 := by injection e
      rw [← hgg, q3] at r3
      injection r3 with r3
      injection r3 with _ r3 _
      exact absurd r3 (by decide)⟩
/-- a node is appended -/
theorem a_node {ops : Array Oper} {rest : List Oper} {o : Oper} {a : Act} {w : World} {Q : Exit → Act → World → Prop} (hgd : Region.wanted o (yielded ops a.tmps) = true) {s x : Operand} (ho : o.op = .call { callee := .builtin .append, args := #[s, x], argTypes := #[22, 22] })
    {B gb : Nat} {v1 : Value} {M : NL} {q : Value × Nd} (hs : a.eval s = v1) (hx : a.eval x = .slice (some ⟨gb, 0, none⟩) 1 1) (hI : Tt w B v1 M) (hc : w.heap[gb]? = some (bv 25 (ncl q.1 q.2))) (hon : On w B q.1 q.2) (hl : (M.length + 1) * 48 ≤ 140737488355328) (hB : B ≤ w.heap.size)
    (h : ∀ u v', Tt u B v' (M ++ [q]) → Below B w u → wpList Try.prog ops Q rest (a.put o.dst v') u) : wpList Try.prog ops Q (o :: rest) a w := by
  refine wpList_step fun K hK' => ?_
  rw [if_pos hgd]
  obtain ⟨v', w', hr, q1, q2, q3⟩ := run_node1 w B v1 M hI.row gb 1 q hc (ris_one hon.ris) hl hB o.type
  unfold Oper.wp
  rw [run_append_op s x _ ho _ _ v' hs hx hr]
  refine hK' _ _ (h w' v' ⟨q1, fun y hy => ?_⟩ q3)
  rcases List.mem_append.1 hy with r | r
  · exact (hI.on y r).grown hI.row q2
  · rw [List.mem_singleton.1 r]; exact hon.grown hI.row q2
theorem cloneI_any (v : Value) (es : List Int) (w : World) (h : Ris w v es) (hl : es.length ≤ 17592186048000) :
    Calls Try.prog 14 #[v] w fun e w' => ∃ v', e = .returned v' ∧ Iw w' w.heap.size v' es ∧ Below w.heap.size w w' := by
  have HR : Hid (Ris w v es) := h
  obtain ⟨ax, cx, rfl, h1, h2, h4⟩ := h
  have HN : Hid (ax = none → es = []) := fun q => by
    subst q
    rcases Nat.eq_zero_or_pos es.length with q | q
    · exact List.eq_nil_of_length_eq_zero q
    · obtain ⟨g, off, q1, _⟩ := h4 q; cases q1
  obtain ⟨n, hn⟩ : ∃ n, es.length = n := ⟨_, rfl⟩
  rw [hn] at HR hl ⊢
  have HE : Hid (es.length = n) := hn
  clear h1 h2 h4 hn
  cases ax with
  | none =>
    have hes := HN.out rfl
    subst hes
    have hnl := fun (w : World) => Lib.run_eql_slice_nil (P := Try.prog) w 23 3 none n cx 0 0 Try.underlying23
    clear HR HN HE
    go_enter Try.func14, Try.ntmps14
    go_wp2
    go_ret
    exact ⟨_, rfl, Iw.nil _ _, Below.refl _ _⟩
  | some ad =>
    have hnl := fun (w : World) => Lib.run_eql_slice_nil (P := Try.prog) w 23 3 (some ad) n cx 0 0 Try.underlying23
    clear HN
    go_enter Try.func14, Try.ntmps14
    go_wp2_with
      (at_builtin
       refine wpList_ints _ rfl _ _ rfl w.heap.size _ [] rfl (World.ownsRow_made w #[] 0 (Nat.le_refl _) (Nat.zero_le _) rfl) _ es rfl (HR.out.below (balloc _ _)) (by have := HE.out; simp; omega) (by simp) ?_
       intro v' w' q1 q3
       have t1 : Hid (Iw w' w.heap.size v' es) := q1
       have t2 : Hid (Below w.heap.size w w') := ((Below.refl _ _).alloc (Nat.le_refl _) _).trans q3
       clear q1 q3)
    go_wp2
    go_ret
    exact ⟨_, rfl, t1.out, t2.out⟩
end Go.Proofs.Ytemlafdmeaobfab.topo
