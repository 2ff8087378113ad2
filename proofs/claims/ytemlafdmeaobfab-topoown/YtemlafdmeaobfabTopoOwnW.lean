/- TopoOwn: what is handed in stays as it was, and what is told shares nothing with it. -/
import Derived.Test.YtemlafdmeaobfabTopN
import Derived.Test.YtemlafdmeaobfabTopR
namespace Go.Proofs.Ytemlafdmeaobfab.topoOwn
open Go Go.RowKit Go.Proofs.Ytemlafdmeaobfab.route Go.Proofs.Ytemlafdmeaobfab.topo
set_option linter.unusedVariables false
set_option linter.unusedSimpArgs false
set_option maxRecDepth 100000

section
variable {P : Program} {md : Region.Mode} {ops : Array Oper} {Q : Exit → Act → World → Prop} {S : World → Prop}
theorem og_call {i : Nat} {o : Oper} (f : FuncId) (args : Array Value) {K : Act → World → Prop} {a : Act} {w : World} (hi : ops[i]? = some o) (hw : Region.wanted o (yielded ops a.tmps) = true)
    (hx : (execOp a.eval o).run P w = .ok (.enter f args) w) (hc : Calls P f args w fun e w' => ∃ v, e = .returned v ∧ K (a.put o.dst v) w') : wpOp P ops Q i K a w := by
  refine wpOp_step hi fun K' hK => ?_
  rw [if_pos hw]
  unfold Oper.wp
  rw [hx]
  simp only [Oper.upon]
  refine hc.mono ?_
  rintro e w' ⟨v, rfl, h1⟩
  exact hK _ _ h1
theorem og_value {i : Nat} {o : Oper} (v : Value) {K : Act → World → Prop} {a : Act} {w w' : World} (hi : ops[i]? = some o) (hw : Region.wanted o (yielded ops a.tmps) = true)
    (hx : (execOp a.eval o).run P w = .ok (.value v) w') (h : K (a.put o.dst v) w') : wpOp P ops Q i K a w := by
  refine wpOp_step hi fun K' hK => ?_
  rw [if_pos hw]
  unfold Oper.wp
  rw [hx]
  exact hK _ _ h
theorem g_value {i : Nat} {o : Oper} (v : Value) {fuel : Nat} {L : Array Bool} {a : Act} {w w' : World} (hi : ops[i]? = some o) (hr : Region.ready md ops L = [i]) (hw : Region.wanted o (yielded ops a.tmps) = true)
    (hx : (execOp a.eval o).run P w = .ok (.value v) w') (hS : S w') (h : wpAnyH P md ops Q S fuel (L.setIfInBounds i true) (a.put o.dst v) w') : wpAnyH P md ops Q S (fuel + 1) L a w := by
  refine wpAnyH_all hr (by simp) fun j hj => ?_
  obtain rfl : j = i := by simpa using hj
  exact og_value v hi hw hx ⟨hS, h⟩
end
theorem take_tr {L : NL} {k : Nat} {q : Value × Nd} (h : L[k]? = some q) : (tr L).take (k + 1) = (tr L).take k ++ [q.2] := by
  obtain ⟨hk, e⟩ := List.getElem?_eq_some_iff.1 (tr_at h)
  rw [List.take_succ_eq_append_getElem hk, e]
/-- the copy so far -/
structure Bf (u wr : World) (L : NL) (k : Nat) (v : Value) (M : NL) : Prop where
  tt : Tt wr u.heap.size v M
  eq : tr M = (tr L).take k
  below : Below u.heap.size u wr
theorem slice_of {w : World} {B : Nat} {v : Value} {M : NL} (h : Ow w B v M) : ∃ a c, v = .slice a M.length c ∧ c ≤ maxLen := by
  obtain ⟨a, c, e, _, h2, _⟩ := h.rcl
  exact ⟨a, c, e, h2⟩
theorem iw_open {w : World} {B : Nat} {v : Value} {n : List Int} (h : Iw w B v n) (hn : 0 < n.length) : ∃ g cap lc, v = .slice (some ⟨g, 0, none⟩) n.length cap ∧ B ≤ g ∧ w.heap[g]? = some (bv 3 lc) ∧ n.length ≤ lc.length ∧ n.length ≤ cap ∧ cap ≤ maxLen := by
  rcases h.2 with ⟨_, q2⟩ | ⟨b, cap, cur, q1, q2, q3, q4, q5, q6, q7⟩
  · omega
  · refine ⟨b, cap, cur.toList, q1, q2, q3, ?_, q4, q5⟩
    have : cur.toList.length = cap := by simpa using q6
    omega
/-- one tree's one node, of which the path is written over -/
structure Wk (wb wr : World) (gq : Nat) (R : List Value) (g I : Nat) (v : Value) (pm : Nat) : Prop where
  wo : Wo wb wr gq R
  blk : ∃ lg, wr.heap[g]? = some (bv 25 lg) ∧ lg[I * 4]? = some v ∧ I * 4 + 4 ≤ lg.length
  row : ∃ ls, ls.length = pm ∧ Iw wr wb.heap.size v ls
theorem Wk.cell {wb wr : World} {gq : Nat} {R : List Value} {g I : Nat} {v : Value} {pm : Nat} (h : Wk wb wr gq R g I v pm) : wr.cell? ⟨g, I * 4, none⟩ = some v := by
  obtain ⟨lg, h1, h2, _⟩ := h.blk
  exact bv_cell h1 h2
theorem Wk.put {wb wr u : World} {gq : Nat} {R : List Value} {g I : Nat} {v : Value} {pm : Nat} (h : Wk wb wr gq R g I v pm) {gp k : Nat} {z : Int} {l : List Value} (hB : wb.heap.size ≤ gp) (hg : wr.heap[gp]? = some (bv 3 l)) (hu : u.heap[gp]? = some (bv 3 (l.set k (.int .i64 z)))) (hc : Chg gp wr u) : Wk wb u gq R g I v pm := by
  obtain ⟨lg, h1, h2, h3⟩ := h.blk
  obtain ⟨ls, h4, h5⟩ := h.row
  obtain ⟨ls', h6, h7⟩ := iw_wrote h5 hg hu hc
  refine ⟨h.wo.int hB hg hu hc, ⟨lg, ?_, h2, h3⟩, ls', h7.trans h4, h6⟩
  rw [hc.other g ?_]
  · exact h1
  · rintro rfl
    rw [hg] at h1
    injection h1 with h1
    unfold bv at h1
    injection h1 with _ h1 _
    exact absurd h1 (by decide)
set_option maxHeartbeats 8000000 in
theorem walk (v : Value) (L : NL) (x : Value) (n : Nd) (y : Value) (p : List Int) (W : World) (hp : Rt W v L) (hk : L.length * 48 ≤ reachBytes ∧ ∀ q ∈ L, q.2.1.length * 8 ≤ reachBytes) (hx : Ris W x n.1) (hk1 : n.1.length * 8 ≤ reachBytes) (hy : Ris W y p) (hk2 : p.length * 8 ≤ reachBytes) :
    Calls Try.prog 5 #[v, agv (ncl x n), y] W fun e w' => e = .returned (.bool true) ∧ Below W.heap.size W w' := by
  have hreach : reachBytes = 140737488351232 := rfl
  have hk48 : (L.length + 1) * 48 ≤ 140737488355328 := by have := hk.1; omega
  have HL : Hid (∀ u, Calls Try.prog 7 #[] u fun e u' => e = .returned (.bool true) ∧ Below u.heap.size u u') := fun u => lives_any u
  have HCl : Hid (∀ u, Below W.heap.size W u → Calls Try.prog 13 #[v] u fun e u' => ∃ v', e = .returned v' ∧ Ow u' u.heap.size v' L ∧ Below u.heap.size u u') := fun u hb => cloneN_any v L u (hp.below hb) (by omega)
  have HAp : Hid (∀ w0 u vc gb, Below W.heap.size W w0 → Ow u w0.heap.size vc L → Below w0.heap.size w0 u → u.heap[gb]? = some (bv 25 (ncl x n)) → ∀ ty, ∃ a c w', (Builtin.append_ #[22, 22] ty #[vc, .slice (some ⟨gb, 0, none⟩) 1 1]).run Try.prog u = .ok (.slice a (L.length + 1) c) w' ∧ c ≤ maxLen ∧ Rt w' (.slice a (L.length + 1) c) (L ++ [(x, n)]) ∧ Below w0.heap.size w0 w') := fun w0 u vc gb hb ho hbu hgb ty => by
    obtain ⟨v', w', q1, q2, q3, q4⟩ := run_node1 u w0.heap.size vc L ho gb 1 (x, n) hgb (ris_one hx) hk48 hbu.size ty
    obtain ⟨a, c, e, hc⟩ := slice_of q2
    rw [List.length_append] at e
    have e : v' = .slice a (L.length + 1) c := e
    subst e
    have hbw : Below w0.heap.size w0 w' := hbu.trans q4
    refine ⟨a, c, w', q1, hc, ⟨q2.rcl, fun q hq => ?_⟩, hbw⟩
    rcases List.mem_append.1 hq with r | r
    · exact (hp.all q r).below (bsq hb hbw)
    · rw [List.mem_singleton.1 r]; exact hx.below (bsq hb hbw)
  have HCi : Hid (∀ q ∈ L ++ [(x, n)], ∀ u, Ris u q.1 q.2.1 → Calls Try.prog 14 #[q.1] u fun e u' => ∃ v', e = .returned v' ∧ Iw u' u.heap.size v' q.2.1 ∧ Below u.heap.size u u') := fun q hq u hr => by
    refine cloneI_any q.1 q.2.1 u hr ?_
    rcases List.mem_append.1 hq with r | r
    · have := hk.2 q r; omega
    · rw [List.mem_singleton.1 r]
      show n.1.length ≤ _
      omega
  have HPl : Hid (∀ u, Below W.heap.size W u → Calls Try.prog 6 #[v, agv (ncl x n)] u fun e u' => ∃ v' M, e = .returned (.tuple #[v', .int .i64 (plC (tr L) n)]) ∧ Tt u' u.heap.size v' M ∧ tr M = plT (tr L) n ∧ Below u.heap.size u u') := fun u hb => plug_any v x L n u (hp.below hb) (hx.below hb) (reach48 hk.2)
  have HUn : Hid (∀ u, Below W.heap.size W u → Calls Try.prog 10 #[v, y] u fun e u' => ∃ v1 v2 M1 M2, e = .returned (.tuple #[v1, v2, .int .i64 (unC (tr L) p)]) ∧ Tt u' u.heap.size v1 M1 ∧ Tt u' u.heap.size v2 M2 ∧ tr M1 = unL (tr L) p ∧ tr M2 = unG (tr L) p ∧ Below u.heap.size u u') := fun u hb => unplug_any v y L p u (hp.below hb) (hy.below hb) (reach48 hk.2)
  have HFi : Hid (∀ u, Below W.heap.size W u → Calls Try.prog 15 #[v, y] u fun e u' => ∃ v', e = .returned (.tuple #[agv (ncl v' (fnN (tr L) p)), .bool (fnB (tr L) p)]) ∧ On u' u.heap.size v' (fnN (tr L) p) ∧ Below u.heap.size u u') := fun u hb => find_any v y L p u (hp.below hb) (hy.below hb) (reach48 hk.2)
  have HS : Hid (∀ u v1 v2 M1 M2, Rt u v1 M1 → Rt u v2 M2 → tr M1 = tr M2 → Calls Try.prog 9 #[v1, v2] u fun e u' => e = .returned (.bool true) ∧ Below u.heap.size u u') := fun u v1 v2 M1 M2 h1 h2 he => by
    have := sameT_any v1 v2 M1 M2 u h1 h2
    rw [decide_eq_true he] at this
    exact this
  obtain ⟨va, vc, rfl, hvc, hvm⟩ := hp.form
  obtain ⟨N, hN⟩ : ∃ N, L.length + 1 = N := ⟨_, rfl⟩
  obtain ⟨l, hl⟩ : ∃ l, L.length = l := ⟨_, rfl⟩
  obtain ⟨c1, hc1⟩ : ∃ c, plC (tr L) n = c := ⟨_, rfl⟩
  obtain ⟨c2, hc2⟩ : ∃ c, unC (tr L) p = c := ⟨_, rfl⟩
  obtain ⟨fN, hfN⟩ : ∃ c, fnN (tr L) p = c := ⟨_, rfl⟩
  obtain ⟨fB, hfB⟩ : ∃ c, fnB (tr L) p = c := ⟨_, rfl⟩
  have HN : Hid ((L ++ [(x, n)]).length = N) := by show _ = _; rw [List.length_append, ← hN]; rfl
  have HN2 : Hid (N * 48 ≤ 140737488355328) := by rw [← hN]; exact hk48
  have hNb : N ≤ 2932031007402 := by omega
  simp only [hN] at HAp
  simp only [hl, hc1, hc2, hfN, hfB] at HCl HAp HPl HUn HFi ⊢
  have HT2 : Hid (tr (L ++ [(x, n)]) = tr (L ++ [(x, n)])) := rfl
  have HX1 : Hid (x.oneCell' = true) := ris_one hx
  have hM := Mm.nil W
  clear hp hk hx hk1 hy hk2 hN hl hc1 hc2 hfN hfB hreach hk48 hvc hvm
  go_enter Try.func5, Try.ntmps5
  repeat' (first | (go_big_may; first | (refine v_box rfl rfl rfl ?_; intro u xn hN; replace hM := hM.new hN; clear hN)) | go_values | go_skip | go_guarded | go_step | go_upon | (simp only [Int.not_lt, Int.not_le] at *; go_simp))
  have HM : Hid (Mm W u [(xn, 25, ncl x n)]) := hM
  clear hM
  go_upto_region 2 with (fail)
  go_cut [25, 26, 27] from 21 (fun vx nv iv wx => ∃ (xa : Option Addr) (xc : Nat), vx = .slice xa N xc ∧ nv = .int .i64 (N : Int) ∧ iv = .int .i64 0 ∧ Hid (xc ≤ maxLen ∧ Rt wx (.slice xa N xc) (L ++ [(x, n)]) ∧ Mm W wx [(xn, 25, ncl x n)]))
  case first =>
    refine wp_abs (fun a0 => a0.tmps.size = 108 ∧ (∀ h, a0.tmps[0]'h = .slice va l vc) ∧ (∀ h, a0.tmps[4]'h = .pointer (some ⟨xn, 0, none⟩))) ⟨rfl, fun _ => rfl, fun _ => rfl⟩ ?_
    rintro a0 ⟨hsz, s0, s4⟩ ha0
    refine wp_region_held (S := fun X => Mm W X [(xn, 25, ncl x n)]) (by kernel_rfl) ?_
    obtain ⟨ud, hud⟩ : ∃ ud, u.drew = ud := ⟨_, rfl⟩
    have hS0 : Mm W ud [(xn, 25, ncl x n)] := by rw [← hud]; exact HM.out.drew
    show wpAnyH _ _ _ _ _ _ _ _ u.drew
    rw [hud]
    refine h_take (i := 0) (.slice va l vc) rfl (by kernel_rfl) (by kernel_rfl) (by kernel_rfl) (fun _ _ _ h => h) rfl hS0 (fun W hW => by simp [execOp, go_sem, Act.put, hsz, s0, s4]) ?_
    refine h_take (i := 2) (agv (ncl x n)) rfl (by kernel_rfl) (by kernel_rfl) (by kernel_rfl) (fun _ _ _ h => h) rfl hS0 (fun W hW => ex_loadv rfl row_node (by simp [go_sem, Act.put, hsz, s4]) hW.at0 (Nat.le_refl 4) rfl) ?_
    refine h_take (i := 6) (.int .i64 0) rfl (by kernel_rfl) (by kernel_rfl) (by kernel_rfl) (fun _ _ _ h => h) rfl hS0 (fun W hW => by simp [execOp, go_sem, Act.put, hsz, s0, s4]) ?_
    refine h_two 1 3 (by kernel_rfl) ?_ ?_
    · refine o_call 13 #[.slice va l vc] rfl rfl (by simp [execOp, go_sem, Act.put, hsz]) ((HCl.out _ hS0.below).mono ?_)
      rintro e u5 ⟨v5, rfl, ho5, hb5⟩
      have hS5 := hS0.call hb5
      refine ⟨_, rfl, hS5, ?_⟩
      have hN := New.alloc u5 25 (ncl x n)
      have hM6 := hS5.new hN
      refine h_value (i := 3) (w' := u5.alloc (bv 25 (ncl x n))) (.slice (some ⟨u5.heap.size, 0, none⟩) 1 1) rfl (by kernel_rfl) rfl (ex_bs (v := x) (n := n) rfl (by simp [go_sem, Act.put, hsz])) (hM6.sub (.cons _ (List.Sublist.refl _))) ?_
      obtain ⟨u6, hu6⟩ : ∃ u6, u5.alloc (bv 25 (ncl x n)) = u6 := ⟨_, rfl⟩
      rw [hu6] at hN hM6 ⊢
      obtain ⟨a7, c7, u7, hr7, hc7, ho7, hb7⟩ := HAp.out ud u6 v5 u5.heap.size hS0.below (ho5.below hN.below) (bsq hb5 hN.below) hN.lies 22
      have hS7 : Mm W u7 [(xn, 25, ncl x n)] := hS0.call hb7
      refine h_value (i := 4) (w' := u7) (.slice a7 N c7) rfl (by kernel_rfl) rfl (run_append_op _ _ 22 rfl _ _ _ (by simp [go_sem, Act.put, hsz]) (by simp [go_sem, Act.put, hsz]) hr7) hS7 ?_
      refine h_take (i := 5) (.int .i64 (N : Int)) rfl (by kernel_rfl) (by kernel_rfl) (by kernel_rfl) (fun _ _ _ h => h) rfl hS7 (fun W hW => by simp [execOp, go_sem, Act.put, hsz, s0, s4]) ?_
      refine wpAnyH_done (by kernel_rfl) ?_ _
      subst ha0
      have HO : Hid (c7 ≤ maxLen ∧ Rt u7 (.slice a7 N c7) (L ++ [(x, n)]) ∧ Mm W u7 [(xn, 25, ncl x n)]) := ⟨hc7, ho7, hS7⟩
      clear hsz s0 s4 hS0 hS5 hS7 hN hM6 ho5 hb5 ho7 hb7 hr7 hud hu6 HM hc7
      go_simp
      go_wp2_with fail
      go_meet
      case rel => exact ⟨a7, c7, rfl, rfl, rfl, HO.out⟩
    · have hN := New.alloc ud 25 (ncl x n)
      have hM5 := hS0.new hN
      refine o_value (w' := ud.alloc (bv 25 (ncl x n))) (.slice (some ⟨ud.heap.size, 0, none⟩) 1 1) rfl rfl (ex_bs (v := x) (n := n) rfl (by simp [go_sem, Act.put, hsz])) ?_
      obtain ⟨u5, hu5⟩ : ∃ u5, ud.alloc (bv 25 (ncl x n)) = u5 := ⟨_, rfl⟩
      rw [hu5] at hN hM5 ⊢
      have hS5 : Mm W u5 [(xn, 25, ncl x n)] := hM5.sub (.cons _ (List.Sublist.refl _))
      refine ⟨hS5, ?_⟩
      refine h_call (i := 1) 13 #[.slice va l vc] rfl (by kernel_rfl) rfl (by simp [execOp, go_sem, Act.put, hsz, s0, s4]) ((HCl.out _ hS5.below).mono ?_)
      rintro e u6 ⟨v6, rfl, ho6, hb6⟩
      have hS6 := hS5.call hb6
      refine ⟨_, rfl, hS6, ?_⟩
      obtain ⟨a7, c7, u7, hr7, hc7, ho7, hb7⟩ := HAp.out u5 u6 v6 ud.heap.size hS5.below ho6 hb6 (keep hN.lies hb6) 22
      have hS7 : Mm W u7 [(xn, 25, ncl x n)] := hS5.call hb7
      refine h_value (i := 4) (w' := u7) (.slice a7 N c7) rfl (by kernel_rfl) rfl (run_append_op _ _ 22 rfl _ _ _ (by simp [go_sem, Act.put, hsz]) (by simp [go_sem, Act.put, hsz]) hr7) hS7 ?_
      refine h_take (i := 5) (.int .i64 (N : Int)) rfl (by kernel_rfl) (by kernel_rfl) (by kernel_rfl) (fun _ _ _ h => h) rfl hS7 (fun W hW => by simp [execOp, go_sem, Act.put, hsz, s0, s4]) ?_
      refine wpAnyH_done (by kernel_rfl) ?_ _
      subst ha0
      have HO : Hid (c7 ≤ maxLen ∧ Rt u7 (.slice a7 N c7) (L ++ [(x, n)]) ∧ Mm W u7 [(xn, 25, ncl x n)]) := ⟨hc7, ho7, hS7⟩
      clear hsz s0 s4 hS0 hS5 hS6 hS7 hN hM5 ho6 hb6 ho7 hb7 hr7 hud hu5 HM hc7
      go_simp
      go_wp2_with fail
      go_meet
      case rel => exact ⟨a7, c7, rfl, rfl, rfl, HO.out⟩
  case rest =>
  obtain ⟨xa, xc, rfl, rfl, rfl, HX⟩ := hcut
  rename World => wx
  have HAT : Hid (∀ k q, (L ++ [(x, n)])[k]? = some q → ∃ g off, xa = some ⟨g, off, none⟩ ∧ ∀ u, Below wx.heap.size wx u → u.rangeAt g (off + k * 4) (ncl q.1 q.2) ∧ Ris u q.1 q.2.1) := fun k q hq => HX.out.2.1.at k q hq
  have HMx : Hid (Mm W wx [(xn, 25, ncl x n)]) := HX.out.2.2
  have HB0 : Hid (∃ M, Bf wx wx (L ++ [(x, n)]) 0 (.slice none 0 0) M) := ⟨[], Tt.nil _ _, rfl, Below.refl _ _⟩
  clear HX HM
  go_wp2
  go_loopw [7, 9, 27] (fun vb _ i wr => ∃ k : Nat, k ≤ N ∧ i = .int .i64 (k : Int) ∧ Hid (∃ M, Bf wx wr (L ++ [(x, n)]) k vb M)) (fun _ _ i _ => N - (intOf i).toNat)
  case atStart => exact ⟨0, Nat.zero_le _, rfl, HB0.out⟩
  case round =>
    clear HB0
    obtain ⟨k, hk, rfl, HA⟩ := hrel
    obtain ⟨M, hF⟩ := HA.out
    have HF : Hid (Bf wx wr (L ++ [(x, n)]) k u7 M) := hF
    clear HA hF
    by_cases hlt : k < N
    · obtain ⟨⟨qv, m⟩, hq⟩ : ∃ q, (L ++ [(x, n)])[k]? = some q := ⟨_, List.getElem?_eq_getElem (by have := HN.out; omega)⟩
      obtain ⟨g, off, rfl, hat⟩ := HAT.out k _ hq
      have HRG : Hid (∀ u, Below wr.heap.size wr u → u.rangeAt g (off + k * 4) (ncl qv m)) := fun u hu => (hat u (bsq HF.out.below hu)).1
      have HVQ : Hid (Vs (ncl qv m) 4) := ncl_vs m (ris_one (hat wx (Below.refl _ _)).2)
      have HC2 : Hid (∀ u, Below wr.heap.size wr u → Calls Try.prog 14 #[qv] u fun e u' => ∃ v', e = .returned v' ∧ Iw u' u.heap.size v' m.1 ∧ Below u.heap.size u u') := fun u hu => HCi.out (qv, m) (List.mem_of_getElem? hq) u (hat u (bsq HF.out.below hu)).2
      have HTr : Hid ((tr (L ++ [(x, n)])).take (k + 1) = tr M ++ [m]) := by show _ = _; rw [take_tr hq, HF.out.eq]
      have HLn : Hid ((M.length + 1) * 48 ≤ 140737488355328) := by
        have h1 := congrArg List.length HF.out.eq
        rw [tr_len, List.length_take] at h1
        have h2 := HN2.out
        show _ ≤ _
        omega
      have G0 : Hid ((ncl qv m)[0]? = some qv) := rfl
      have hM := Mm.nil wr
      clear hat hq HAT HCi HMx HL HCl HAp HPl HUn HFi HS
      repeat' (first | (go_big_may; first | (refine v_ldR rfl rfl row_node rfl (HRG.out _ hM.below) rfl ?_) | (refine v_alloc rfl zer_node rfl ?_; intro u xb hN; replace hM := hM.new hN; clear hN) | (refine v_fill rfl rfl row_node rfl rfl hM.at0 HVQ.out rfl ?_; intro u hv hc; replace hM := hM.put0 hc hv; clear hv hc) | (refine v_get rfl rfl (.inr rfl) rfl hM.at0 G0.out ?_)) | go_values | go_skip | go_guarded | go_step | go_upon | (simp only [Int.not_lt, Int.not_le] at *; go_simp))
      refine (HC2.out _ hM.below).mono ?_
      rintro e u2 ⟨v2, rfl, hi2, hb⟩
      have HI : Hid (On u2 wx.heap.size v2 m) := On.mono ⟨hi2⟩ (Nat.le_trans HF.out.below.size hM.below.size)
      replace hM := hM.call hb
      obtain ⟨pa, pm, pc, hv2⟩ := iw_slice hi2
      subst hv2
      clear hb hi2 HC2 HRG
      repeat' (first | (go_big_may; first | (refine v_put rfl rfl (.inr ⟨rfl, _, _, _, rfl⟩) rfl rfl hM.at0 (Nat.zero_lt_succ 3) ?_; intro u hv hc; replace HI : Hid (On u wx.heap.size (.slice pa pm pc) m) := HI.out.chg hM.at0 (by decide) hc; replace hM := hM.put0 hc hv; rw [ncl_set] at hM; clear hv hc) | (refine v_load rfl rfl row_node rfl hM.at0 (Nat.le_refl 4) rfl ?_) | (refine v_bsn rfl rfl rfl ?_; intro u xg hN; replace HI : Hid (On u wx.heap.size (.slice pa pm pc) m) := HI.out.below hN.below; replace hM := hM.new hN; clear hN) | (at_builtin; refine a_node rfl rfl rfl rfl (HF.out.tt.below hM.below) (q := (.slice pa pm pc, m)) hM.at0 HI.out HLn.out (Nat.le_trans HF.out.below.size hM.below.size) ?_; intro u vn hT hb; have HQ : Hid (∃ M, Bf wx u (L ++ [(x, n)]) (k + 1) vn M) := ⟨_, hT, by rw [HTr.out]; exact tr_snoc _ _, (bsq HF.out.below hM.below).trans hb⟩; clear hT hb hM HF HI)) | go_values | go_skip | go_guarded | go_step | go_upon | (simp only [Int.not_lt, Int.not_le] at *; go_simp))
      go_roundw
      case rel => exact ⟨k + 1, by omega, by go_num, HQ.out⟩
      case measure => simp [intOf]; omega
    have HBb : Hid (∀ u, Below wr.heap.size wr u → Rt u u7 M) := fun u hu => HF.out.tt.rt.below hu
    have HBt : Hid (tr M = tr (L ++ [(x, n)])) := by
      have := HF.out.eq
      rw [List.take_of_length_le (by rw [tr_len]; have := HN.out; omega)] at this
      exact this
    have HBw : Hid (Below W.heap.size W wr) := bsq HMx.out.below HF.out.below
    have HXN : Hid (∀ u, Below wr.heap.size wr u → u.heap[xn]? = some (bv 25 (ncl x n))) := fun u hu => keep HMx.out.at0 (bsq HF.out.below hu)
    clear HF HMx HAT HCi
    have hM := Mm.nil wr
    repeat' (first | (go_big_may; first | (refine v_load rfl rfl row_node rfl (HXN.out _ hM.below) (Nat.le_refl 4) rfl ?_)) | go_values | go_skip | go_guarded | go_step | go_upon | (simp only [Int.not_lt, Int.not_le] at *; go_simp))
    refine (HPl.out _ (bsq HBw.out hM.below)).mono ?_
    rintro e u2 ⟨v2, M2, rfl, ht2, _, hb⟩
    replace hM := hM.call hb
    have HW2 : Hid (∀ u, Below u2.heap.size u2 u → Wr u wr.heap.size v2) := fun u hu => (ht2.wr).below hu
    obtain ⟨a2, c2', hv2, _, _⟩ := ht2.rt.form
    obtain ⟨n2', hn2'⟩ : ∃ k, M2.length = k := ⟨_, rfl⟩
    rw [hn2'] at hv2
    subst hv2
    clear hb ht2 hn2' HPl hlt
    repeat' (first | go_values | go_skip | go_guarded | go_step | go_upon | (simp only [Int.not_lt, Int.not_le] at *; go_simp))
    refine (HUn.out _ (bsq HBw.out hM.below)).mono ?_
    rintro e u3 ⟨v3, v4, M3, M4, rfl, ht3, ht4, _, _, hb⟩
    have HW3 : Hid (∀ u, Below u3.heap.size u3 u → Wr u wr.heap.size (.slice a2 n2' c2') ∧ Wr u wr.heap.size v3 ∧ Wr u wr.heap.size v4) := fun u hu => ⟨HW2.out u (bsq hb hu), ((ht3.mono hM.below.size).wr).below hu, ((ht4.mono hM.below.size).wr).below hu⟩
    replace hM := hM.call hb
    obtain ⟨a3, c3', hv3, _, _⟩ := ht3.rt.form
    obtain ⟨n3', hn3'⟩ : ∃ k, M3.length = k := ⟨_, rfl⟩
    obtain ⟨a4, c4', hv4, _, _⟩ := ht4.rt.form
    obtain ⟨n4', hn4'⟩ : ∃ k, M4.length = k := ⟨_, rfl⟩
    rw [hn3'] at hv3
    rw [hn4'] at hv4
    subst hv3 hv4
    clear hb ht3 ht4 hn3' hn4' HUn HW2
    repeat' (first | go_values | go_skip | go_guarded | go_step | go_upon | (simp only [Int.not_lt, Int.not_le] at *; go_simp))
    refine (HFi.out _ (bsq HBw.out hM.below)).mono ?_
    rintro e u4 ⟨vd, rfl, ho, hb⟩
    have HW4 : Hid ((∀ u, Below u4.heap.size u4 u → Wr u wr.heap.size (.slice a2 n2' c2') ∧ Wr u wr.heap.size (.slice a3 n3' c3') ∧ Wr u wr.heap.size (.slice a4 n4' c4') ∧ On u wr.heap.size vd fN)) := fun u hu => ⟨(HW3.out u (bsq hb hu)).1, (HW3.out u (bsq hb hu)).2.1, (HW3.out u (bsq hb hu)).2.2, (ho.mono hM.below.size).below hu⟩
    replace hM := hM.call hb
    have HB4 : Hid (Below wr.heap.size wr u4) := hM.below
    have HVd : Hid (Vs (ncl vd fN) 4) := ncl_vs fN (ris_one ho.ris)
    clear hb ho HFi HW3 hM
    have hM := Mm.nil u4
    repeat' (first | (go_big_may; first | (refine v_alloc rfl zer_node rfl ?_; intro u xd hN; replace hM := hM.new hN; clear hN) | (refine v_fill rfl rfl row_node rfl rfl hM.at0 HVd.out rfl ?_; intro u hv hc; replace hM := hM.put0 hc hv; clear hv hc) | (refine v_load rfl rfl row_node rfl hM.at0 (Nat.le_refl 4) rfl ?_) | (refine v_bsn rfl rfl rfl ?_; intro u gd hN; replace hM := hM.new hN; clear hN) | (refine v_bs4 rfl rfl rfl rfl rfl rfl ?_; intro u gq hN; replace hM := hM.new hN; clear hN)) | go_values | go_skip | go_guarded | go_step | go_upon | (simp only [Int.not_lt, Int.not_le] at *; go_simp))
    have HWo : Hid (Wo wr u gq [.slice a2 n2' c2', .slice a3 n3' c3', .slice a4 n4' c4', .slice (some ⟨gd, 0, none⟩) 1 1]) := by
      obtain ⟨w2, w3, w4, w5⟩ := HW4.out u hM.below
      refine ⟨bsq HB4.out hM.below, hM.at0, fun z hz => ?_⟩
      simp only [List.mem_cons, List.not_mem_nil, or_false] at hz
      rcases hz with rfl | rfl | rfl | rfl
      · exact w2
      · exact w3
      · exact w4
      · have hgd : u.heap[gd]? = some (bv 25 (ncs [(vd, fN)] ++ [])) := by
          have := hM.at1
          simpa [ncs] using this
        have hown : wr.heap.size ≤ gd := Nat.le_trans HB4.out.size (hM.own (gd, 25, ncl vd fN) (by simp))
        exact ⟨[(vd, fN)], ow_of (M := [(vd, fN)]) hgd hown (by simp [ncs, ncl]) (by decide), fun q hq => by rw [List.mem_singleton.1 hq]; exact ⟨_, w5.pa⟩⟩
    have HRS : Hid (∀ j, j < 4 → ∃ ra rn rc, ([.slice a2 n2' c2', .slice a3 n3' c3', .slice a4 n4' c4', .slice (some ⟨gd, 0, none⟩) 1 1] : List Value)[j]? = some (.slice ra rn rc)) := fun j hj => by
      rcases (by omega : j = 0 ∨ j = 1 ∨ j = 2 ∨ j = 3) with rfl | rfl | rfl | rfl <;> exact ⟨_, _, _, rfl⟩
    obtain ⟨R, hR⟩ : ∃ R, ([.slice a2 n2' c2', .slice a3 n3' c3', .slice a4 n4' c4', .slice (some ⟨gd, 0, none⟩) 1 1] : List Value) = R := ⟨_, rfl⟩
    rw [hR] at HWo HRS
    clear hM HW4 HB4 HVd hR
    obtain ⟨wb, hwb⟩ : ∃ wb, wr = wb := ⟨_, rfl⟩
    rw [hwb] at HBb HBw HXN HWo
    clear hwb
    -- the four trees are written over
    repeat' (first | go_values | go_skip | go_guarded | go_step | go_upon | (simp only [Int.not_lt, Int.not_le] at *; go_simp))
    go_loopw [18, 19, 20, 66] (fun _ _ _ i wr => ∃ j : Nat, j ≤ 4 ∧ i = .int .i64 (j : Int) ∧ Hid (Wo wb wr gq R)) (fun _ _ _ i _ => 4 - (intOf i).toNat)
    case atStart => exact ⟨0, Nat.zero_le _, rfl, HWo.out⟩
    case round =>
      clear HWo
      obtain ⟨j, hj, rfl, HA⟩ := hrel
      by_cases hlt : ¬ j < 4
      · have HB : Hid (Below wb.heap.size wb wr) := HA.out.below
        clear HA HRS
        go_upto_region 25 with (fail)
        refine wp_abs (fun a0 => a0.tmps.size = 108 ∧ (∀ h, a0.tmps[0]'h = .slice va l vc) ∧ (∀ h, a0.tmps[4]'h = .pointer (some ⟨xn, 0, none⟩)) ∧ (∀ h, a0.tmps[7]'h = u7)) ⟨rfl, fun _ => rfl, fun _ => rfl, fun _ => rfl⟩ ?_
        rintro a0 ⟨hsz, s0, s4, s7⟩ ha0
        refine wp_region_held (S := fun X => Below wb.heap.size wb X) (by kernel_rfl) ?_
        obtain ⟨ud, hud⟩ : ∃ ud, wr.drew = ud := ⟨_, rfl⟩
        have hS0 : Below wb.heap.size wb ud := by rw [← hud]; exact HB.out.drew
        show wpAnyH _ _ _ _ _ _ _ _ wr.drew
        rw [hud]
        refine g_call (i := 0) 7 #[] rfl (by kernel_rfl) (wanted_none rfl) (by simp [execOp, go_sem, Act.put, hsz]) ((HL.out _).mono ?_)
        rintro e d5 ⟨rfl, hb5⟩
        have hS5 := bsq hS0 hb5
        refine ⟨_, rfl, hS5, ?_⟩
        refine h_take (i := 1) (.bool true) rfl (by kernel_rfl) (by kernel_rfl) (by kernel_rfl) (fun _ _ _ h => h) rfl hS5 (fun W hW => by simp [execOp, go_sem, Act.put, hsz, s0, s4, s7]) ?_
        refine g_take (i := 2) u7 rfl (by kernel_rfl) (by kernel_rfl) (by kernel_rfl) (fun _ _ _ h => h) (wanted_of 1 true 99 rfl (by kernel_rfl) (by simp [Act.put, Array.getElem?_setIfInBounds, hsz])) hS5 (fun W hW => by simp [execOp, go_sem, Act.put, hsz, s0, s4, s7]) ?_
        refine g_take (i := 3) (.slice va l vc) rfl (by kernel_rfl) (by kernel_rfl) (by kernel_rfl) (fun _ _ _ h => h) (wanted_of 1 true 99 rfl (by kernel_rfl) (by simp [Act.put, Array.getElem?_setIfInBounds, hsz])) hS5 (fun W hW => by simp [execOp, go_sem, Act.put, hsz, s0, s4, s7]) ?_
        refine g_take (i := 5) (agv (ncl x n)) rfl (by kernel_rfl) (by kernel_rfl) (by kernel_rfl) (fun _ _ _ h => h) (wanted_of 1 true 99 rfl (by kernel_rfl) (by simp [Act.put, Array.getElem?_setIfInBounds, hsz])) hS5 (fun W hW => ex_loadv rfl row_node (by simp [go_sem, Act.put, hsz, s4]) (HXN.out W hW) (Nat.le_refl 4) rfl) ?_
        refine h_two 4 6 (by kernel_rfl) ?_ ?_
        · refine og_call 13 #[.slice va l vc] rfl (wanted_of 1 true 99 rfl (by kernel_rfl) (by simp [Act.put, Array.getElem?_setIfInBounds, hsz])) (by simp [execOp, go_sem, Act.put, hsz, s0, s4, s7]) ((HCl.out _ (bsq HBw.out hS5)).mono ?_)
          rintro e d6 ⟨v6, rfl, ho6, hb6⟩
          have hS6 := bsq hS5 hb6
          refine ⟨_, rfl, hS6, ?_⟩
          have hN := New.alloc d6 25 (ncl x n)
          refine g_value (i := 6) (w' := d6.alloc (bv 25 (ncl x n))) (.slice (some ⟨d6.heap.size, 0, none⟩) 1 1) rfl (by kernel_rfl) (wanted_of 1 true 99 rfl (by kernel_rfl) (by simp [Act.put, Array.getElem?_setIfInBounds, hsz])) (ex_bs (v := x) (n := n) rfl (by simp [go_sem, Act.put, hsz])) (bsq hS6 hN.below) ?_
          obtain ⟨d7, hd7⟩ : ∃ d7, d6.alloc (bv 25 (ncl x n)) = d7 := ⟨_, rfl⟩
          rw [hd7] at hN ⊢
          obtain ⟨a8, c8, d8, hr8, hc8, ho8, hb8⟩ := HAp.out d5 d7 v6 d6.heap.size (bsq HBw.out hS5) (ho6.below hN.below) (bsq hb6 hN.below) hN.lies 22
          have hS8 := bsq hS5 hb8
          refine g_value (i := 7) (w' := d8) (.slice a8 N c8) rfl (by kernel_rfl) (wanted_of 1 true 99 rfl (by kernel_rfl) (by simp [Act.put, Array.getElem?_setIfInBounds, hsz])) (run_append_op _ _ 22 rfl _ _ _ (by simp [go_sem, Act.put, hsz]) (by simp [go_sem, Act.put, hsz]) hr8) hS8 ?_
          clear hN hd7 ho6 hb6 hS6 hc8
          refine g_call (i := 8) 9 #[u7, .slice a8 N c8] rfl (by kernel_rfl) (wanted_of 1 true 99 rfl (by kernel_rfl) (by simp [Act.put, Array.getElem?_setIfInBounds, hsz])) (by simp [execOp, go_sem, Act.put, hsz, s0, s4, s7]) ((HS.out _ u7 (.slice a8 N c8) M (L ++ [(x, n)]) (HBb.out _ hS8) ho8 HBt.out).mono ?_)
          rintro e d9 ⟨rfl, hb9⟩
          have hS9 := bsq hS8 hb9
          refine ⟨_, rfl, hS9, ?_⟩
          refine h_take (i := 9) (.bool true) rfl (by kernel_rfl) (by kernel_rfl) (by kernel_rfl) (fun _ _ _ h => h) rfl hS9 (fun W hW => by simp [execOp, go_sem, Act.put, hsz, s0, s4, s7]) ?_
          refine h_take (i := 10) (.bool true) rfl (by kernel_rfl) (by kernel_rfl) (by kernel_rfl) (fun _ _ _ h => h) rfl hS9 (fun W hW => by simp [execOp, go_sem, Act.put, hsz, s0, s4, s7]) ?_
          refine wpAnyH_done (by kernel_rfl) ?_ _
          subst ha0
          have HO : Hid (Below wb.heap.size wb d9) := hS9
          clear hsz s0 s4 s7 hS0 hS5 hS8 hS9 hb5 hb8 hb9 ho8 hr8 hud HB HBb HBt HXN HL HCl HAp HS
          go_simp
          go_wp2
          go_ret
          exact ⟨rfl, bsq HBw.out HO.out⟩
        · have hN := New.alloc d5 25 (ncl x n)
          refine og_value (w' := d5.alloc (bv 25 (ncl x n))) (.slice (some ⟨d5.heap.size, 0, none⟩) 1 1) rfl (wanted_of 1 true 99 rfl (by kernel_rfl) (by simp [Act.put, Array.getElem?_setIfInBounds, hsz])) (ex_bs (v := x) (n := n) rfl (by simp [go_sem, Act.put, hsz])) ?_
          obtain ⟨d6, hd6⟩ : ∃ d6, d5.alloc (bv 25 (ncl x n)) = d6 := ⟨_, rfl⟩
          rw [hd6] at hN ⊢
          have hS6 := bsq hS5 hN.below
          refine ⟨hS6, ?_⟩
          refine g_call (i := 4) 13 #[.slice va l vc] rfl (by kernel_rfl) (wanted_of 1 true 99 rfl (by kernel_rfl) (by simp [Act.put, Array.getElem?_setIfInBounds, hsz])) (by simp [execOp, go_sem, Act.put, hsz, s0, s4, s7]) ((HCl.out _ (bsq HBw.out hS6)).mono ?_)
          rintro e d7 ⟨v7, rfl, ho7, hb7⟩
          have hS7 := bsq hS6 hb7
          refine ⟨_, rfl, hS7, ?_⟩
          obtain ⟨a8, c8, d8, hr8, hc8, ho8, hb8⟩ := HAp.out d6 d7 v7 d5.heap.size (bsq HBw.out hS6) ho7 hb7 (keep hN.lies hb7) 22
          have hS8 := bsq hS6 hb8
          refine g_value (i := 7) (w' := d8) (.slice a8 N c8) rfl (by kernel_rfl) (wanted_of 1 true 99 rfl (by kernel_rfl) (by simp [Act.put, Array.getElem?_setIfInBounds, hsz])) (run_append_op _ _ 22 rfl _ _ _ (by simp [go_sem, Act.put, hsz]) (by simp [go_sem, Act.put, hsz]) hr8) hS8 ?_
          clear hN hd6 ho7 hb7 hS7 hS6 hc8
          refine g_call (i := 8) 9 #[u7, .slice a8 N c8] rfl (by kernel_rfl) (wanted_of 1 true 99 rfl (by kernel_rfl) (by simp [Act.put, Array.getElem?_setIfInBounds, hsz])) (by simp [execOp, go_sem, Act.put, hsz, s0, s4, s7]) ((HS.out _ u7 (.slice a8 N c8) M (L ++ [(x, n)]) (HBb.out _ hS8) ho8 HBt.out).mono ?_)
          rintro e d9 ⟨rfl, hb9⟩
          have hS9 := bsq hS8 hb9
          refine ⟨_, rfl, hS9, ?_⟩
          refine h_take (i := 9) (.bool true) rfl (by kernel_rfl) (by kernel_rfl) (by kernel_rfl) (fun _ _ _ h => h) rfl hS9 (fun W hW => by simp [execOp, go_sem, Act.put, hsz, s0, s4, s7]) ?_
          refine h_take (i := 10) (.bool true) rfl (by kernel_rfl) (by kernel_rfl) (by kernel_rfl) (fun _ _ _ h => h) rfl hS9 (fun W hW => by simp [execOp, go_sem, Act.put, hsz, s0, s4, s7]) ?_
          refine wpAnyH_done (by kernel_rfl) ?_ _
          subst ha0
          have HO : Hid (Below wb.heap.size wb d9) := hS9
          clear hsz s0 s4 s7 hS0 hS5 hS8 hS9 hb5 hb8 hb9 ho8 hr8 hud HB HBb HBt HXN HL HCl HAp HS
          go_simp
          go_wp2
          go_ret
          exact ⟨rfl, bsq HBw.out HO.out⟩
      have hlt : j < 4 := by omega
      obtain ⟨ra, rn, rc, hr⟩ := HRS.out j hlt
      have HCJ : Hid (wr.cell? ⟨gq, j, none⟩ = some (.slice ra rn rc)) := bv_cell HA.out.lst hr
      have HRM : Hid (Value.slice ra rn rc ∈ R) := List.mem_of_getElem? hr
      have hrm : rn ≤ 9223372036854775807 := by
        obtain ⟨M0, ho0, _⟩ := HA.out.rows _ HRM.out
        obtain ⟨a0, c0, e0, l0, m0, _⟩ := ho0.rcl
        injection e0 with _ e0 _
        unfold maxLen at m0
        omega
      clear hr HRS HBb HBt HBw HXN HL HCl HAp HS
      repeat' (first | (go_big_may; first | (refine v_cels rfl rfl rfl HCJ.out ?_)) | go_values | go_skip | go_guarded | go_step | go_upon | (simp only [Int.not_lt, Int.not_le] at *; go_simp))
      have HW0 : Hid (Wo wb wr gq R) := HA
      clear HA HCJ
      go_loopw [19, 20, 72] (fun _ _ i wr => ∃ i' : Nat, i' ≤ rn ∧ i = .int .i64 (i' : Int) ∧ Hid (Wo wb wr gq R)) (fun _ _ i _ => rn - (intOf i).toNat)
      case atStart => exact ⟨0, Nat.zero_le _, rfl, HW0.out⟩
      case round =>
        clear HW0
        obtain ⟨I, hi, rfl, HA⟩ := hrel
        by_cases hli : ¬ I < rn
        · have HB : Hid (Wo wb wr gq R) := HA
          clear HA
          repeat' (first | go_values | go_skip | go_guarded | go_step | go_upon | (simp only [Int.not_lt, Int.not_le] at *; go_simp))
          go_roundw
          case rel => exact ⟨j + 1, by omega, by go_num, HB.out⟩
          case measure => simp [intOf]; omega
        have hli : I < rn := by omega
        obtain ⟨M0, ho0, hw0⟩ := HA.out.rows _ HRM.out
        have hlen : M0.length = rn := by
          obtain ⟨a0, c0, e0, _⟩ := ho0.rcl
          injection e0 with _ e0 _
          exact e0.symm
        obtain ⟨g, cap, rest, e0, hg, hgB, hgl, hgc⟩ := ow_open ho0 (by omega)
        injection e0 with e1 e2 e3
        subst e1 e3
        obtain ⟨⟨pv, nd⟩, hq⟩ : ∃ q, M0[I]? = some q := ⟨_, List.getElem?_eq_getElem (by omega)⟩
        obtain ⟨ls, hls⟩ := hw0 _ (List.mem_of_getElem? hq)
        obtain ⟨pa, pm, pc, hpv⟩ := iw_slice hls
        have hpv : pv = .slice pa pm pc := hpv
        subst hpv
        have hlm : ls.length = pm := by
          obtain ⟨a0, c0, e0, _⟩ := hls.ris.form
          injection e0 with _ e0 _
          exact e0.symm
        have hpm : pm ≤ 9223372036854775807 := by
          obtain ⟨a0, c0, e0, l0, m0⟩ := hls.ris.form
          injection e0 with _ e0 _
          unfold maxLen at m0
          omega
        have hcap : rn ≤ rc := by rw [List.length_append, ncs_length] at hgl; omega
        have hcapm : rc ≤ 9223372036854775807 := by unfold maxLen at hgc; omega
        have HW4 : Hid (Wk wb wr gq R g I (.slice pa pm pc) pm) := by
          have h1 := ncs_at M0 I _ hq 0 _ rfl
          rw [Nat.add_zero] at h1
          have hil : I * 4 < (ncs M0).length := by rw [ncs_length]; omega
          exact ⟨HA.out, ⟨_, hg, by rw [List.getElem?_append_left hil]; exact h1, by rw [hgl]; omega⟩, ls, hlm, hls⟩
        have HGB : Hid (wb.heap.size ≤ g) := hgB
        clear ho0 hw0 hg hgl hgc hq hls hlm hlen HA rest e2 hgB
        repeat' (first | (go_big_may; first | (refine v_cel rfl rfl (.inr rfl) rfl HW4.out.cell ?_)) | go_values | go_skip | go_guarded | go_step | go_upon | (simp only [Int.not_lt, Int.not_le] at *; go_simp))
        go_loopw [20, 81] (fun _ i wr => ∃ k : Nat, k ≤ pm ∧ i = .int .i64 (k : Int) ∧ Hid (Wk wb wr gq R g I (.slice pa pm pc) pm)) (fun _ i _ => pm - (intOf i).toNat)
        case atStart => exact ⟨0, Nat.zero_le _, rfl, HW4.out⟩
        case round =>
          clear HW4
          obtain ⟨k, hk, rfl, HA⟩ := hrel
          by_cases hlk : ¬ k < pm
          · obtain ⟨lg, hg, _, hle⟩ := HA.out.blk
            have HG : Hid (wr.heap[g]? = some (bv 25 lg)) := hg
            clear hg
            repeat' (first | (go_big_may; first | (refine v_build rfl rfl bld77 ?hbv ?_; (case hbv => simp [Act.eval, Act.put])) | (refine v_store rfl rfl row_node (r := ncl nilS ([], 0, 0, 77)) rfl rfl HG.out (ncl_vs _ rfl) hle rfl ?_; intro u hv hc; have HQ : Hid (Wo wb u gq R) := HA.out.wo.node HGB.out HG.out hle hv hc; clear hv hc HA HG)) | go_values | go_skip | go_guarded | go_step | go_upon | (simp only [Int.not_lt, Int.not_le] at *; go_simp))
            go_roundw
            case rel => exact ⟨I + 1, by omega, by go_num, HQ.out⟩
            case measure => simp [intOf]; omega
          have hlk : k < pm := by omega
          obtain ⟨ls, hls, hiw⟩ := HA.out.row
          obtain ⟨gp, cp, lc, e0, hgp, hb, hl1, hl2, hl3⟩ := iw_open hiw (by omega)
          injection e0 with e1 e2 e3
          subst e1 e3
          have HB : Hid (wr.heap[gp]? = some (bv 3 lc)) := hb
          have HGP : Hid (wb.heap.size ≤ gp) := hgp
          have hkl : k < lc.length := by omega
          have hpc : pm ≤ pc := by omega
          have hpcm : pc ≤ 9223372036854775807 := by unfold maxLen at hl3; omega
          clear hgp hb hl1 hl2 hl3 e2 hiw hls ls
          repeat' (first | (go_big_may; first | (refine v_cel rfl rfl (.inr rfl) rfl HA.out.cell ?_) | (refine v_put rfl rfl (.inl ⟨rfl, _, rfl⟩) rfl rfl HB.out hkl ?_; intro u hv hc; have HQ : Hid (Wk wb u gq R g I (.slice (some ⟨gp, 0, none⟩) pm pc) pm) := HA.out.put HGP.out HB.out hv hc; clear hv hc HA HB)) | go_values | go_skip | go_guarded | go_step | go_upon | (simp only [Int.not_lt, Int.not_le] at *; go_simp))
          go_roundw
          case rel => exact ⟨k + 1, by omega, by go_num, HQ.out⟩
          case measure => simp [intOf]; omega
end Go.Proofs.Ytemlafdmeaobfab.topoOwn
