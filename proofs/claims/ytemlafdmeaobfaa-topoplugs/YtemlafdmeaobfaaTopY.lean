/- topo: what plugref's Unplugged answers. -/
import Derived.Test.YtemlafdmeaobfaaTopX
import Derived.Test.YtemlafdmeaobfaaTopU
namespace Go.Proofs.Ytemlafdmeaobfaa.topo
open Go Go.RowKit Go.Proofs.Ytemlafdmeaobfaa.route
set_option linter.unusedVariables false
set_option linter.unusedSimpArgs false
set_option maxRecDepth 100000

theorem ow_open {w : World} {B : Nat} {v : Value} {M : NL} (h : Ow w B v M) (hn : 0 < M.length) : ∃ g cap rest, v = .slice (some ⟨g, 0, none⟩) M.length cap ∧ w.heap[g]? = some (bv 25 (ncs M ++ rest)) ∧ B ≤ g ∧ (ncs M ++ rest).length = cap * 4 ∧ cap ≤ maxLen := by
  rcases h.2 with ⟨_, h0⟩ | ⟨g, cap, cur, q1, q2, q3, q4, q5, q6, q7⟩
  · omega
  · refine ⟨g, cap, cur.toList.drop (M.length * 4), q1, ?_, q2, ?_, q5⟩
    · rw [q3]
      unfold bv
      congr 2
      apply Array.ext'
      show cur.toList = _
      rw [← q7, List.take_append_drop]
    · rw [← q7, List.take_append_drop]
      simpa using q6
theorem func_zero : (Try.prog.info? 43).map (·.zero) = some (some .nilFunc) := by kernel_rfl
theorem v_allocf {ops : Array Oper} {rest : List Oper} {o : Oper} {a : Act} {w : World} {Q : Exit → Act → World → Prop} (hgd : Region.wanted o (yielded ops a.tmps) = true) (ho : o.op = .alloc 43)
    (h : ∀ u B, New w u B 43 [.nilFunc] → wpList Try.prog ops Q rest (a.put o.dst (.pointer (some ⟨B, 0, none⟩))) u) : wpList Try.prog ops Q (o :: rest) a w := by
  refine wpList_step fun K hK' => ?_
  rw [if_pos hgd]
  unfold Oper.wp execOp
  simp only [ho]
  cases hq : Try.prog.info? 43 with
  | none => have := func_zero; simp [hq] at this
  | some i =>
    have hz' : i.zero = some .nilFunc := by simpa [hq] using func_zero
    simp [go_sem, zeroValue, typeInfo, hq, hz']
    exact hK' _ _ (h _ _ (New.alloc w 43 [.nilFunc]))
theorem v_putf {ops : Array Oper} {rest : List Oper} {o : Oper} {a : Act} {w : World} {Q : Exit → Act → World → Prop} (hgd : Region.wanted o (yielded ops a.tmps) = true) {x y : Operand} (ho : o.op = .store 43 x y)
    {B X : Nat} {z : Value} (hx : a.eval x = .pointer (some ⟨B, 0, none⟩)) (hy : a.eval y = fv1 X) (hB : w.heap[B]? = some (bv 43 [z]))
    (h : ∀ u, u.heap[B]? = some (bv 43 [fv1 X]) → Chg B w u → wpList Try.prog ops Q rest (a.put o.dst undef) u) : wpList Try.prog ops Q (o :: rest) a w := by
  refine wpList_step fun K hK' => ?_
  rw [if_pos hgd]
  have hc : w.cell? ⟨B, 0, none⟩ = some z := bv_cell hB rfl
  have hf := bv_free hB 0
  have hs : (Instr.storeAt 43 (.pointer (some ⟨B, 0, none⟩)) (fv1 X)).run Try.prog w = .ok () (w.setCell ⟨B, 0, none⟩ (fv1 X)) := by
    simp [go_sem, fv1, hc, hf]
    rw [run_store Try.prog w _ _ _ rfl, hc]
    simp [hf]
  unfold Oper.wp execOp
  simp only [ho, hx, hy, Sem.run_bind, hs, Result.andThen_ok, Sem.run_pure]
  exact hK' _ _ (h _ (set_bv (j := 0) hB).1 (set_bv hB).2)
theorem ex_celf {o : Oper} {a : Act} {W : World} {x : Operand} (ho : o.op = .load 43 x) {p : Addr} (hx : a.eval x = .pointer (some p)) {v : Value} (hc : W.cell? p = some v) :
    (execOp a.eval o).run Try.prog W = .ok (.value v) W := by
  have hs : (Instr.loadAt 43 (.pointer (some p))).run Try.prog W = .ok v W := by simp [go_sem, hc]
  unfold execOp
  simp only [ho, hx, Sem.run_bind, hs, Result.andThen_ok, Sem.run_pure]
/-- a clone that is thinned out -/
theorem thin_any (F : FuncId) (cb : Array Value) (f : Nd → Bool) (L : NL) (w0 w : World) (v : Value) (ho : Ow w w0.heap.size v L) (hb : Below w0.heap.size w0 w) (h0 : 0 < L.length) (hn : L.length ≤ 1000)
    (hR : ∀ q ∈ L, ∀ u, Below w0.heap.size w0 u → Ris u q.1 q.2.1) (eg : ∀ args w, (callFunc F args).run Try.prog w = .ok (.enter F args) w)
    (hF : ∀ q ∈ L, ∀ u, Below w0.heap.size w0 u → Calls Try.prog F (#[agv (ncl q.1 q.2)] ++ cb) u fun e u' => e = .returned (.bool (f q.2)) ∧ Below u.heap.size u u') :
    Calls Try.prog 43 #[v, .func (.func F) #[] cb] w fun e u => ∃ v', e = .returned v' ∧ Rt u v' (fil f L) ∧ Below w0.heap.size w0 u := by
  obtain ⟨g, cap, rest, rfl, h1, h2, h3, h4⟩ := ow_open ho h0
  have hM : Mm w0 w [(g, 25, ncs L ++ rest)] := ⟨fun x hx => by rw [List.mem_singleton.1 hx]; exact h1, fun x hx => by rw [List.mem_singleton.1 hx]; exact h2, by simp, hb⟩
  refine (deleteF_any F cb f g L.length cap L rest w0 w hM rfl h3 h4 hn hR eg hF).mono ?_
  rintro e u ⟨rfl, rest', hu⟩
  have hfl : (fil f L).length ≤ cap := by
    have h5 : (fil f L).length ≤ L.length := List.length_filter_le ..
    rw [List.length_append, ncs_length] at h3
    omega
  exact ⟨_, rfl, rt_pre hu.at0 hfl h4 (fun q hq => hR q (List.mem_filter.1 hq).1 u hu.below), hu.below⟩
theorem fil_gone (L : NL) (p : List Int) : tr (fil (fun n => und n.1 p) L) = lef (tr L) p := fil_tr _ L
theorem fil_stay (L : NL) (p : List Int) : tr (fil (fun n => !und n.1 p) L) = gon (tr L) p := by
  rw [fil_tr]
  unfold gon
  refine List.filter_congr fun x _ => ?_
  simp
set_option maxHeartbeats 4000000 in
theorem unplugged_any (v pv : Value) (L : NL) (p : List Int) (w : World) (h : Rt w v L) (hp : Ris w pv p) : Calls Try.prog 18 #[v, pv] w fun e u => ∃ v1 v2 M1 M2, e = .returned (.tuple #[v1, v2, .int .i64 (unC (tr L) p)]) ∧ Rt u v1 M1 ∧ Rt u v2 M2 ∧ tr M1 = unL (tr L) p ∧ tr M2 = unG (tr L) p ∧ Below w.heap.size w u := by
  have HC : Hid (∀ u, Below w.heap.size w u → Calls Try.prog 12 #[v] u fun e u' => e = .returned (.int .i64 (chkT (tr L))) ∧ Below u.heap.size u u') := fun u hb => tree_any v L u (h.below hb)
  have HH : Hid (∀ u, Below w.heap.size w u → Calls Try.prog 10 #[v, pv] u fun e u' => ∃ v', e = .returned (.tuple #[agv (ncl v' (fnN (tr L) p)), .bool (fnB (tr L) p)]) ∧ Ris u' v' (fnN (tr L) p).1 ∧ Below u.heap.size u u') := fun u hb => rfind_any v pv L p u (h.below hb) (hp.below hb)
  have HCl : Hid (∀ u, L.length ≤ 40 → Below w.heap.size w u → Calls Try.prog 36 #[v] u fun e u' => ∃ v', e = .returned v' ∧ Ow u' u.heap.size v' L ∧ Below u.heap.size u u') := fun u hl hb => cloneN_any v L u (h.below hb) (by omega)
  have HD1 : Hid (∀ w0 u X vc, L.length ≤ 40 → 0 < L.length → Below w.heap.size w w0 → w0.heap[X]? = some (bv 23 [pv]) → Ow u w0.heap.size vc L → Below w0.heap.size w0 u → Calls Try.prog 43 #[vc, .func (.func 42) #[] #[.pointer (some ⟨X, 0, none⟩)]] u fun e u' => ∃ v', e = .returned v' ∧ Rt u' v' (fil (fun n => und n.1 p) L) ∧ Below w0.heap.size w0 u') := fun w0 u X vc h40 h0 hb hX ho hbu =>
    thin_any 42 #[.pointer (some ⟨X, 0, none⟩)] (fun n => und n.1 p) L w0 u vc ho hbu h0 (by omega) (fun q hq x hx => (h.all q hq).below (bsq hb hx)) (enters_of Try.func42 (by kernel_rfl) rfl) fun q hq x hx => gone_any q.1 pv q.2 p X x ((h.all q hq).below (bsq hb hx)) (hp.below (bsq hb hx)) (keep hX hx)
  have HD2 : Hid (∀ w0 u X Y vc, L.length ≤ 40 → 0 < L.length → Below w.heap.size w w0 → w0.heap[X]? = some (bv 23 [pv]) → w0.heap[Y]? = some (bv 43 [fv1 X]) → Ow u w0.heap.size vc L → Below w0.heap.size w0 u → Calls Try.prog 43 #[vc, .func (.func 44) #[] #[.pointer (some ⟨Y, 0, none⟩)]] u fun e u' => ∃ v', e = .returned v' ∧ Rt u' v' (fil (fun n => !und n.1 p) L) ∧ Below w0.heap.size w0 u') := fun w0 u X Y vc h40 h0 hb hX hY ho hbu =>
    thin_any 44 #[.pointer (some ⟨Y, 0, none⟩)] (fun n => !und n.1 p) L w0 u vc ho hbu h0 (by omega) (fun q hq x hx => (h.all q hq).below (bsq hb hx)) (enters_of Try.func44 (by kernel_rfl) rfl) fun q hq x hx => stay_any q.1 pv q.2 p X Y x ((h.all q hq).below (bsq hb hx)) (hp.below (bsq hb hx)) (keep hX hx) (keep hY hx)
  have HF : Hid (∀ cc y, chkT (tr L) = cc → fnB (tr L) p = y → unC (tr L) p = (if cc ≠ 0 then cc else if y = false then 12 else 0) ∧ (cc = 0 → y = true → unL (tr L) p = lef (tr L) p ∧ unG (tr L) p = gon (tr L) p ∧ L.length ≤ 40 ∧ 0 < L.length) ∧ (¬ (cc = 0 ∧ y = true) → unL (tr L) p = [] ∧ unG (tr L) p = [])) := fun cc y h1 h2 => by
    have hu : unC (tr L) p = (if cc ≠ 0 then cc else if y = false then 12 else 0) := by
      unfold unC
      rw [h1, show (fnd (tr L) p).isSome = fnB (tr L) p from rfl, h2]
    refine ⟨hu, fun a b => ?_, fun a => ?_⟩
    · subst a b
      have hz : unC (tr L) p = 0 := by rw [hu, if_neg (by simp), if_neg (by simp)]
      obtain ⟨hg, n, hn, _⟩ := unC_ok.1 hz
      have hl := hg.len
      have hl2 := List.length_pos_of_mem hn
      rw [tr_len] at hl hl2
      unfold unL unG
      rw [if_pos hz, if_pos hz]
      exact ⟨rfl, rfl, hl, hl2⟩
    · have : unC (tr L) p ≠ 0 := by
        rw [hu]
        split
        · rename_i q; exact q
        · rename_i q
          cases y with
          | false => simp
          | true => exact absurd ⟨Classical.not_not.1 q, rfl⟩ a
      unfold unL unG
      rw [if_neg this, if_neg this]
      exact ⟨rfl, rfl⟩
  obtain ⟨pa, pc, rfl, _, _⟩ := hp.form
  obtain ⟨cc, hcc⟩ : ∃ x, chkT (tr L) = x := ⟨_, rfl⟩
  obtain ⟨y, hy⟩ : ∃ x, fnB (tr L) p = x := ⟨_, rfl⟩
  obtain ⟨fN, hfN⟩ : ∃ x, fnN (tr L) p = x := ⟨_, rfl⟩
  obtain ⟨pl, hpl⟩ : ∃ x, p.length = x := ⟨_, rfl⟩
  obtain ⟨hu, hok, hno⟩ := HF.out cc y hcc hy
  simp only [hcc, hy, hu, hfN, hpl] at HC HH HD1 HD2 ⊢
  have G0 : Hid (([.slice pa pl pc] : List Value)[0]? = some (.slice pa pl pc)) := rfl
  have hM := Mm.nil w
  clear h hp hcc hy hfN hu HF hpl
  by_cases hz : cc ≠ 0
  · obtain ⟨n1, n2⟩ := hno (fun q => hz q.1)
    have e1 : (cc != 0) = true := by simpa using hz
    rw [if_pos hz, n1, n2]
    clear hok hno n1 n2 HH HCl HD1 HD2 hz
    go_enter Try.func18, Try.ntmps18
    repeat' (first | (go_big_may; first | (refine v_boxs rfl rfl rfl ?_; intro u xp hN; replace hM := hM.new hN; clear hN)) | go_values | go_skip | go_guarded | go_step | go_upon | (simp only [Int.not_lt, Int.not_le] at *; go_simp))
    refine (HC.out _ hM.below).mono ?_
    rintro e u1 ⟨rfl, hb⟩
    replace hM := hM.call hb
    clear hb
    repeat' (first | go_values | go_skip | go_guarded | go_step | go_upon | (simp only [Int.not_lt, Int.not_le] at *; go_simp))
    go_ret3
    exact ⟨_, _, [], [], rfl, rt_nil _, rt_nil _, rfl, rfl, hM.below⟩
  have hz : cc = 0 := Classical.not_not.1 hz
  subst hz
  have e1 : ((0 : Int) != 0) = false := rfl
  rw [if_neg (by simp)]
  cases y with
  | false =>
    obtain ⟨n1, n2⟩ := hno (fun q => by cases q.2)
    rw [if_pos rfl, n1, n2]
    clear hok hno n1 n2 HCl HD1 HD2
    go_enter Try.func18, Try.ntmps18
    repeat' (first | (go_big_may; first | (refine v_boxs rfl rfl rfl ?_; intro u xp hN; replace hM := hM.new hN; clear hN)) | go_values | go_skip | go_guarded | go_step | go_upon | (simp only [Int.not_lt, Int.not_le] at *; go_simp))
    refine (HC.out _ hM.below).mono ?_
    rintro e u1 ⟨rfl, hb⟩
    replace hM := hM.call hb
    clear hb
    repeat' (first | (go_big_may; first | (refine v_get rfl rfl (.inr rfl) rfl hM.at0 G0.out ?_)) | go_values | go_skip | go_guarded | go_step | go_upon | (simp only [Int.not_lt, Int.not_le] at *; go_simp))
    refine (HH.out _ hM.below).mono ?_
    rintro e u2 ⟨v2, rfl, hr, hb⟩
    replace hM := hM.call hb
    have HV : Hid (Vs (ncl v2 fN) 4) := ncl_vs fN (ris_one hr)
    clear hb hr
    repeat' (first | (go_big_may; first | (refine v_alloc rfl zer_node rfl ?_; intro u xf hN; replace hM := hM.new hN; clear hN) | (refine v_fill rfl rfl row_node rfl rfl hM.at0 HV.out rfl ?_; intro u hv hc; replace hM := hM.put0 hc hv; clear hv hc)) | go_values | go_skip | go_guarded | go_step | go_upon | (simp only [Int.not_lt, Int.not_le] at *; go_simp))
    go_ret3
    exact ⟨_, _, [], [], rfl, rt_nil _, rt_nil _, rfl, rfl, hM.below⟩
  | true =>
  obtain ⟨n1, n2, n3, n4⟩ := hok rfl rfl
  rw [if_neg (by simp), n1, n2]
  have HN : Hid (L.length ≤ 40 ∧ 0 < L.length) := ⟨n3, n4⟩
  clear hok hno n1 n2 n3 n4
  go_enter Try.func18, Try.ntmps18
  repeat' (first | (go_big_may; first | (refine v_boxs rfl rfl rfl ?_; intro u xp hN; replace hM := hM.new hN; clear hN)) | go_values | go_skip | go_guarded | go_step | go_upon | (simp only [Int.not_lt, Int.not_le] at *; go_simp))
  refine (HC.out _ hM.below).mono ?_
  rintro e u1 ⟨rfl, hb⟩
  replace hM := hM.call hb
  clear hb
  repeat' (first | (go_big_may; first | (refine v_get rfl rfl (.inr rfl) rfl hM.at0 G0.out ?_)) | go_values | go_skip | go_guarded | go_step | go_upon | (simp only [Int.not_lt, Int.not_le] at *; go_simp))
  refine (HH.out _ hM.below).mono ?_
  rintro e u2 ⟨v2, rfl, hr, hb⟩
  replace hM := hM.call hb
  have HV : Hid (Vs (ncl v2 fN) 4) := ncl_vs fN (ris_one hr)
  clear hb hr HC HH
  repeat' (first | (go_big_may; first | (refine v_alloc rfl zer_node rfl ?_; intro u xf hN; replace hM := hM.new hN; clear hN) | (refine v_fill rfl rfl row_node rfl rfl hM.at0 HV.out rfl ?_; intro u hv hc; replace hM := hM.put0 hc hv; clear hv hc) | (refine v_allocf rfl rfl ?_; intro u xg hN; replace hM := hM.new hN; clear hN) | (refine v_putf rfl rfl rfl rfl hM.at0 ?_; intro u hv hc; replace hM := hM.put0 hc hv; clear hv hc)) | go_values | go_skip | go_guarded | go_step | go_upon | (simp only [Int.not_lt, Int.not_le] at *; go_simp))
  have HM : Hid (Mm w u [(xg, 43, [fv1 xp]), (xf, 25, ncl v2 fN), (xp, 23, [.slice pa pl pc])]) := hM
  clear hM
  go_upto_region 8 with (fail)
  refine wp_abs (fun a0 => a0.tmps.size = 37 ∧ (∀ h, a0.tmps[0]'h = v) ∧ (∀ h, a0.tmps[10]'h = .pointer (some ⟨xg, 0, none⟩))) ⟨rfl, fun _ => rfl, fun _ => rfl⟩ ?_
  rintro a0 ⟨hsz, s0, s10⟩ ha0
  refine wp_region_held (S := fun W => Mm w W [(xg, 43, [fv1 xp]), (xf, 25, ncl v2 fN), (xp, 23, [.slice pa pl pc])]) (by kernel_rfl) ?_
  obtain ⟨ud, hud⟩ : ∃ ud, u.drew = ud := ⟨_, rfl⟩
  have hS0 : Mm w ud [(xg, 43, [fv1 xp]), (xf, 25, ncl v2 fN), (xp, 23, [.slice pa pl pc])] := by rw [← hud]; exact HM.out.drew
  show wpAnyH _ _ _ _ _ _ _ _ u.drew
  rw [hud]
  have eg := enters_of Try.func43 (by kernel_rfl) rfl
  refine h_take (i := 0) (v) rfl (by kernel_rfl) (by kernel_rfl) (by kernel_rfl) (fun _ _ _ h => h) rfl hS0 (fun W hW => by simp [execOp, go_sem, Act.put, hsz, s0, s10]) ?_
  refine h_take (i := 2) (.func (.func 42) #[] #[.pointer (some ⟨xp, 0, none⟩)]) rfl (by kernel_rfl) (by kernel_rfl) (by kernel_rfl) (fun _ _ _ h => h) rfl hS0 (fun W hW => ex_celf (p := ⟨xg, 0, none⟩) rfl (by simp [go_sem, Act.put, hsz, s10]) (bv_cell hW.at0 rfl)) ?_
  refine h_call (i := 1) 36 #[v] rfl (by kernel_rfl) rfl (by simp [execOp, go_sem, Act.put, hsz, s0, s10]) ((HCl.out _ HN.out.1 hS0.below).mono ?_)
  rintro e u3 ⟨v3, rfl, ho3, hb3⟩
  have hS3 := hS0.call hb3
  refine ⟨_, rfl, hS3, ?_⟩
  refine h_call (i := 3) 43 #[v3, .func (.func 42) #[] #[.pointer (some ⟨xp, 0, none⟩)]] rfl (by kernel_rfl) rfl (by simp [execOp, go_sem, Act.put, hsz, s0, s10]) ((HD1.out ud _ xp v3 HN.out.1 HN.out.2 hS0.below hS0.at2 ho3 hb3).mono ?_)
  rintro e u4 ⟨v4, rfl, hr4, hb4⟩
  have hS4 : Mm w u4 [(xg, 43, [fv1 xp]), (xf, 25, ncl v2 fN), (xp, 23, [.slice pa pl pc])] := hS0.call hb4
  refine ⟨_, rfl, hS4, ?_⟩
  refine h_take (i := 4) (v4) rfl (by kernel_rfl) (by kernel_rfl) (by kernel_rfl) (fun _ _ _ h => h) rfl hS4 (fun W hW => by simp [execOp, go_sem, Act.put, hsz, s0, s10]) ?_
  refine wpAnyH_done (by kernel_rfl) ?_ _
  subst ha0
  have HR4 : Hid (∀ x, Below u4.heap.size u4 x → Rt x v4 (fil (fun n => und n.1 p) L)) := fun x hx => hr4.below hx
  have HM4 : Hid (Mm w u4 [(xg, 43, [fv1 xp]), (xf, 25, ncl v2 fN), (xp, 23, [.slice pa pl pc])]) := hS4
  clear hsz s0 s10 hS0 hS3 hS4 hb3 hb4 ho3 hr4 hud HM HD1 eg
  go_simp
  have hM := HM4.out
  repeat' (first | go_values | go_skip | go_guarded | go_step | go_upon | (simp only [Int.not_lt, Int.not_le] at *; go_simp))
  refine (HCl.out _ HN.out.1 hM.below).mono ?_
  rintro e u5 ⟨v5, rfl, ho5, hb5⟩
  have HO5 : Hid (Ow u5 u4.heap.size v5 L ∧ Below u4.heap.size u4 u5) := ⟨ho5, hb5⟩
  replace hM := hM.call hb5
  clear ho5 hb5 HCl
  repeat' (first | go_values | go_skip | go_guarded | go_step | go_upon | (simp only [Int.not_lt, Int.not_le] at *; go_simp))
  refine (HD2.out u4 _ xp xg v5 HN.out.1 HN.out.2 HM4.out.below HM4.out.at2 HM4.out.at0 HO5.out.1 HO5.out.2).mono ?_
  rintro e u6 ⟨v6, rfl, hr6, hb6⟩
  have HQ : Hid (Rt u6 v4 (fil (fun n => und n.1 p) L) ∧ Rt u6 v6 (fil (fun n => !und n.1 p) L) ∧ Below w.heap.size w u6) := ⟨HR4.out u6 hb6, hr6, bsq HM4.out.below hb6⟩
  clear hr6 hb6 HD2 HM4 HO5 HR4 hM
  repeat' (first | go_values | go_skip | go_guarded | go_step | go_upon | (simp only [Int.not_lt, Int.not_le] at *; go_simp))
  go_ret3
  exact ⟨_, _, _, _, rfl, HQ.out.1, HQ.out.2.1, fil_gone L p, fil_stay L p, HQ.out.2.2⟩
end Go.Proofs.Ytemlafdmeaobfaa.topo
