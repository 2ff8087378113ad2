/- topo: what Plug answers. -/
import Derived.Test.YtemlafdmeaobfabTopI
namespace Go.Proofs.Ytemlafdmeaobfab.topo
open Go Go.RowKit Go.Proofs.Ytemlafdmeaobfab.route
set_option linter.unusedVariables false
set_option linter.unusedSimpArgs false
set_option maxRecDepth 100000

/-- a tree that is told: its row and its paths lie in blocks from B on -/
structure Tt (u : World) (B : Nat) (v : Value) (M : NL) : Prop where
  row : Ow u B v M
  on : ∀ q ∈ M, On u B q.1 q.2
theorem Tt.nil (u : World) (B : Nat) : Tt u B nilS [] := ⟨Ow.nil u B, fun q hq => by simp at hq⟩
theorem Tt.below {u x : World} {B : Nat} {v : Value} {M : NL} (h : Tt u B v M) (hb : Below u.heap.size u x) : Tt x B v M := ⟨h.row.below hb, fun q hq => (h.on q hq).below hb⟩
theorem Tt.mono {u : World} {B B' : Nat} {v : Value} {M : NL} (h : Tt u B v M) (hb : B' ≤ B) : Tt u B' v M := ⟨h.row.mono hb, fun q hq => (h.on q hq).mono hb⟩
theorem Tt.rt {u : World} {B : Nat} {v : Value} {M : NL} (h : Tt u B v M) : Rt u v M := h.row.rt h.on
theorem bld_one (v : Value) (n : Nd) (w : World) : (Instr.buildSlice 22 1 #[(0, agv (ncl v n))]).run Try.prog w = .ok (.slice (some ⟨w.heap.size, 0, none⟩) 1 1) (w.alloc (bv 25 (ncl v n))) := by kernel_rfl
theorem ex_bs {o : Oper} {a : Act} {W : World} {x : Operand} (ho : o.op = .buildSlice 22 1 #[(0, x)]) {v : Value} {n : Nd} (hx : a.eval x = agv (ncl v n)) :
    (execOp a.eval o).run Try.prog W = .ok (.value (.slice (some ⟨W.heap.size, 0, none⟩) 1 1)) (W.alloc (bv 25 (ncl v n))) := by
  unfold execOp
  simp only [ho, List.map_toArray, List.map_cons, List.map_nil, hx, Sem.run_bind, bld_one, Result.andThen_ok, Sem.run_pure]
theorem tr_insM {M : NL} {T : List Nd} {k : Nat} {v : Value} {n : Nd} (h : tr M = T) : tr (insM M k (v, n)) = T.take k ++ n :: T.drop k := by
  subst h
  unfold insM tr
  simp [List.map_take, List.map_drop]
theorem plT_no {T : List Nd} {n : Nd} (h : plC T n ≠ 0) : plT T n = [] := by unfold plT; rw [if_neg h]
set_option maxHeartbeats 4000000 in
theorem plug_any (v nv : Value) (L : NL) (n : Nd) (w : World) (h : Rt w v L) (hp : Ris w nv n.1) (h48 : ok48 L) : Calls Try.prog 6 #[v, agv (ncl nv n)] w fun e u => ∃ v' M, e = .returned (.tuple #[v', .int .i64 (plC (tr L) n)]) ∧ Tt u w.heap.size v' M ∧ tr M = plT (tr L) n ∧ Below w.heap.size w u := by
  have HC : Hid (∀ u, Below w.heap.size w u → Calls Try.prog 16 #[v, agv (ncl nv n)] u fun e u' => e = .returned (.int .i64 (plC (tr L) n)) ∧ Below u.heap.size u u') := fun u hb => checkPlug_any v nv L n u (h.below hb) (hp.below hb) h48
  have HS : Hid (∀ u, plC (tr L) n = 0 → Below w.heap.size w u → Calls Try.prog 17 #[v, agv (ncl nv n), .func (.func 18) #[] #[]] u fun e u' => ∃ (k : Nat) (b : Bool), e = .returned (.tuple #[.int .i64 (k : Int), .bool b]) ∧ Pla (tr L) n k ∧ Below u.heap.size u u') := fun u hz hb => by
    obtain ⟨q1, q2⟩ := plC_ok.1 hz
    exact search_any v nv L n u (h.below hb) (hp.below hb) (by rw [tr_len] at q2; omega) q1.gd.srt
  have HA : Hid (∀ u, plC (tr L) n = 0 → Below w.heap.size w u → Calls Try.prog 20 #[v] u fun e u' => ∃ g M, e = .returned (.slice (some ⟨g, 0, none⟩) L.length L.length) ∧ tr M = tr L ∧ Ob u' u.heap.size g M ∧ Below u.heap.size u u') := fun u hz hb => by
    obtain ⟨q1, q2⟩ := plC_ok.1 hz
    exact copyAll_any v L u (h.below hb) h48 (by rw [tr_len] at q2; omega)
  have HO : Hid (∀ u, plC (tr L) n = 0 → Below w.heap.size w u → Calls Try.prog 21 #[agv (ncl nv n)] u fun e u' => ∃ v', e = .returned (agv (ncl v' n)) ∧ On u' u.heap.size v' n ∧ Below u.heap.size u u') := fun u hz hb => by
    obtain ⟨q1, q2⟩ := plC_ok.1 hz
    exact copyOf_any nv n u (hp.below hb) (by have := (chk_ok q1.rgt.1).2.1; omega)
  have HI : Hid (plC (tr L) n = 0 → ∀ (g k gv : Nat) (M : NL) (v' : Value) (u : World), u.heap[g]? = some (bv 25 (ncs M)) → tr M = tr L → k ≤ (tr L).length → u.heap[gv]? = some (bv 25 (ncl v' n)) → v'.oneCell' = true → (∀ x ∈ M, x.1.oneCell' = true) → Calls Try.prog 19 #[.slice (some ⟨g, 0, none⟩) L.length L.length, .int .i64 (k : Int), .slice (some ⟨gv, 0, none⟩) 1 1] u fun e u' => ∃ v, e = .returned v ∧ Ow u' u.heap.size v (insM M k (v', n)) ∧ Below u.heap.size u u') := fun hz g k gv M v' u h1 h2 h3 h4 h5 h6 => by
    obtain ⟨q1, q2⟩ := plC_ok.1 hz
    have hl : M.length = L.length := by rw [← tr_len M, h2, tr_len]
    exact insert_any g L.length k gv M (v', n) u h1 hl (by rw [tr_len] at q2; omega) (by rw [tr_len] at h3; exact h3) h4 h5 h6
  have HT : Hid (plC (tr L) n = 0 → ∀ k (M : NL) v', Pla (tr L) n k → tr M = tr L → tr (insM M k (v', n)) = plT (tr L) n) := fun hz k M v' hk hM => by
    rw [tr_insM hM]
    unfold plT
    rw [if_pos hz]
    exact ins_at hk.fore hk.hind
  have HN : Hid (plC (tr L) n ≠ 0 → plT (tr L) n = []) := plT_no
  obtain ⟨va, vc, rfl, _, _⟩ := h.form
  obtain ⟨cc, hcc⟩ : ∃ x, plC (tr L) n = x := ⟨_, rfl⟩
  obtain ⟨l, hl⟩ : ∃ x, L.length = x := ⟨_, rfl⟩
  simp only [hcc, hl] at HC HS HA HO HI HT HN ⊢
  have hM := Mm.nil w
  clear h hp h48 hcc hl
  by_cases hz : cc ≠ 0
  · have hn := HN.out hz
    have e1 : (cc != 0) = true := by simpa using hz
    rw [hn]
    clear HS HA HO HI HT HN hz hn
    go_enter Try.func6, Try.ntmps6
    repeat' (first | (go_big_may; first | (refine v_box rfl rfl rfl ?_; intro u xn hN; replace hM := hM.new hN; clear hN) | (refine v_load rfl rfl row_node rfl hM.at0 (Nat.le_refl 4) rfl ?_)) | go_values | go_skip | go_guarded | go_step | go_upon | (simp only [Int.not_lt, Int.not_le] at *; go_simp))
    refine (HC.out _ hM.below).mono ?_
    rintro e u1 ⟨rfl, hb⟩
    replace hM := hM.call hb
    clear hb
    repeat' (first | go_values | go_skip | go_guarded | go_step | go_upon | (simp only [Int.not_lt, Int.not_le] at *; go_simp))
    go_ret2
    exact ⟨_, [], rfl, Tt.nil _ _, rfl, hM.below⟩
  have hz : cc = 0 := Classical.not_not.1 hz
  subst hz
  replace HS : Hid (∀ u, Below w.heap.size w u → Calls Try.prog 17 #[.slice va l vc, agv (ncl nv n), .func (.func 18) #[] #[]] u fun e u' => ∃ (k : Nat) (b : Bool), e = .returned (.tuple #[.int .i64 (k : Int), .bool b]) ∧ Pla (tr L) n k ∧ Below u.heap.size u u') := fun u hb => HS.out u rfl hb
  replace HA : Hid (∀ u, Below w.heap.size w u → Calls Try.prog 20 #[.slice va l vc] u fun e u' => ∃ g M, e = .returned (.slice (some ⟨g, 0, none⟩) l l) ∧ tr M = tr L ∧ Ob u' u.heap.size g M ∧ Below u.heap.size u u') := fun u hb => HA.out u rfl hb
  replace HO : Hid (∀ u, Below w.heap.size w u → Calls Try.prog 21 #[agv (ncl nv n)] u fun e u' => ∃ v', e = .returned (agv (ncl v' n)) ∧ On u' u.heap.size v' n ∧ Below u.heap.size u u') := fun u hb => HO.out u rfl hb
  replace HI := HI.out rfl
  replace HT : Hid (∀ k (M : NL) v', Pla (tr L) n k → tr M = tr L → tr (insM M k (v', n)) = plT (tr L) n) := HT.out rfl
  have HI2 : Hid (∀ (g k gv : Nat) (M : NL) (v' : Value) (u : World), u.heap[g]? = some (bv 25 (ncs M)) → tr M = tr L → k ≤ (tr L).length → u.heap[gv]? = some (bv 25 (ncl v' n)) → v'.oneCell' = true → (∀ x ∈ M, x.1.oneCell' = true) → Calls Try.prog 19 #[.slice (some ⟨g, 0, none⟩) l l, .int .i64 (k : Int), .slice (some ⟨gv, 0, none⟩) 1 1] u fun e u' => ∃ v, e = .returned v ∧ Ow u' u.heap.size v (insM M k (v', n)) ∧ Below u.heap.size u u') := HI
  have e1 : ((0 : Int) != 0) = false := rfl
  clear HI HN
  go_enter Try.func6, Try.ntmps6
  repeat' (first | (go_big_may; first | (refine v_box rfl rfl rfl ?_; intro u xn hN; replace hM := hM.new hN; clear hN) | (refine v_load rfl rfl row_node rfl hM.at0 (Nat.le_refl 4) rfl ?_)) | go_values | go_skip | go_guarded | go_step | go_upon | (simp only [Int.not_lt, Int.not_le] at *; go_simp))
  refine (HC.out _ hM.below).mono ?_
  rintro e u1 ⟨rfl, hb⟩
  replace hM := hM.call hb
  clear hb
  repeat' (first | (go_big_may; first | (refine v_load rfl rfl row_node rfl hM.at0 (Nat.le_refl 4) rfl ?_)) | go_values | go_skip | go_guarded | go_step | go_upon | (simp only [Int.not_lt, Int.not_le] at *; go_simp))
  refine (HS.out _ hM.below).mono ?_
  rintro e u2 ⟨k, b, rfl, hpl, hb⟩
  have HP : Hid (Pla (tr L) n k) := hpl
  replace hM := hM.call hb
  have HM : Hid (Mm w u2 [(xn, 25, ncl nv n)]) := hM
  clear hb hpl HC HS hM
  go_upto_region 5 with (fail)
  refine wp_abs (fun a0 => a0.tmps.size = 28 ∧ (∀ h, a0.tmps[0]'h = .slice va l vc) ∧ (∀ h, a0.tmps[3]'h = .pointer (some ⟨xn, 0, none⟩)) ∧ (∀ h, a0.tmps[7]'h = .int .i64 (k : Int))) ⟨rfl, fun _ => rfl, fun _ => rfl, fun _ => rfl⟩ ?_
  rintro a0 ⟨hsz, s0, s3, s7⟩ ha0
  refine wp_region_held (S := fun W => Mm w W [(xn, 25, ncl nv n)]) (by kernel_rfl) ?_
  obtain ⟨ud, hud⟩ : ∃ ud, u2.drew = ud := ⟨_, rfl⟩
  have hS0 : Mm w ud [(xn, 25, ncl nv n)] := by rw [← hud]; exact HM.out.drew
  show wpAnyH _ _ _ _ _ _ _ _ u2.drew
  rw [hud]
  refine h_take (i := 0) (.slice va l vc) rfl (by kernel_rfl) (by kernel_rfl) (by kernel_rfl) (fun _ _ _ h => h) rfl hS0 (fun W hW => by simp [execOp, go_sem, Act.put, hsz, s0, s3, s7]) ?_
  refine h_take (i := 2) (.int .i64 (k : Int)) rfl (by kernel_rfl) (by kernel_rfl) (by kernel_rfl) (fun _ _ _ h => h) rfl hS0 (fun W hW => by simp [execOp, go_sem, Act.put, hsz, s0, s3, s7]) ?_
  refine h_take (i := 3) (agv (ncl nv n)) rfl (by kernel_rfl) (by kernel_rfl) (by kernel_rfl) (fun _ _ _ h => h) rfl hS0 (fun W hW => ex_loadv rfl row_node (by simp [go_sem, Act.put, hsz, s3]) hW.at0 (Nat.le_refl 4) rfl) ?_
  refine h_call (i := 1) 20 #[.slice va l vc] rfl (by kernel_rfl) rfl (by simp [execOp, go_sem, Act.put, hsz, s0, s3, s7]) ((HA.out _ hS0.below).mono ?_)
  rintro e u3 ⟨g, M, rfl, hMt, hob, hb3⟩
  have hS3 := hS0.call hb3
  refine ⟨_, rfl, hS3, ?_⟩
  refine h_call (i := 4) 21 #[agv (ncl nv n)] rfl (by kernel_rfl) rfl (by simp [execOp, go_sem, Act.put, hsz, s0, s3, s7]) ((HO.out _ hS3.below).mono ?_)
  rintro e u4 ⟨v', rfl, hon, hb4⟩
  have hS4 := hS3.call hb4
  refine ⟨_, rfl, hS4, ?_⟩
  have hN := New.alloc u4 25 (ncl v' n)
  have hM5 := hS4.new hN
  refine h_value (i := 5) (w' := u4.alloc (bv 25 (ncl v' n))) (.slice (some ⟨u4.heap.size, 0, none⟩) 1 1) rfl (by kernel_rfl) rfl (ex_bs rfl (by simp [go_sem, Act.put, hsz])) (hM5.sub (.cons _ (List.Sublist.refl _))) ?_
  obtain ⟨u5, hu5⟩ : ∃ u5, u4.alloc (bv 25 (ncl v' n)) = u5 := ⟨_, rfl⟩
  rw [hu5] at hN hM5 ⊢
  have hS5 : Mm w u5 [(xn, 25, ncl nv n)] := hM5.sub (.cons _ (List.Sublist.refl _))
  have hb45 := bsq hb4 hN.below
  refine h_call (i := 6) 19 #[.slice (some ⟨g, 0, none⟩) l l, .int .i64 (k : Int), .slice (some ⟨u4.heap.size, 0, none⟩) 1 1] rfl (by kernel_rfl) rfl (by simp [execOp, go_sem, Act.put, hsz, s0, s3, s7]) ((HI2.out g k u4.heap.size M v' u5 (keep hob.lies hb45) hMt HP.out.le hN.lies (ris_one hon.ris) (fun x hx => ris_one (hob.on x hx).ris)).mono ?_)
  rintro e u6 ⟨v6, rfl, how, hb6⟩
  have hS6 := hS5.call hb6
  refine ⟨_, rfl, hS6, ?_⟩
  have HQ : Hid (Tt u6 w.heap.size v6 (insM M k (v', n)) ∧ tr (insM M k (v', n)) = plT (tr L) n ∧ Below w.heap.size w u6) := by
    refine ⟨⟨how.mono hS5.below.size, fun q hq => ?_⟩, HT.out k M v' HP.out hMt, hS6.below⟩
    rcases List.mem_append.1 hq with r | r
    · exact ((hob.on q (List.mem_of_mem_take r)).mono hS0.below.size).below (bsq hb45 hb6)
    · rcases List.mem_cons.1 r with rfl | r
      · exact (hon.mono hS3.below.size).below (bsq hN.below hb6)
      · exact ((hob.on q (List.mem_of_mem_drop r)).mono hS0.below.size).below (bsq hb45 hb6)
  refine h_take (i := 7) (v6) rfl (by kernel_rfl) (by kernel_rfl) (by kernel_rfl) (fun _ _ _ h => h) rfl hS6 (fun W hW => by simp [execOp, go_sem, Act.put, hsz, s0, s3, s7]) ?_
  refine h_take (i := 8) (.int .i64 0) rfl (by kernel_rfl) (by kernel_rfl) (by kernel_rfl) (fun _ _ _ h => h) rfl hS6 (fun W hW => by simp [execOp, go_sem, Act.put, hsz, s0, s3, s7]) ?_
  refine wpAnyH_done (by kernel_rfl) ?_ _
  subst ha0
  clear hsz s0 s3 s7 hS0 hS3 hS4 hS5 hS6 hb3 hb4 hb6 hb45 hN hM5 hob hon how hud HM HA HO HI2 HT HP hu5 hMt
  go_simp
  go_wp2
  go_ret2
  exact ⟨_, _, rfl, HQ.out⟩
end Go.Proofs.Ytemlafdmeaobfab.topo
