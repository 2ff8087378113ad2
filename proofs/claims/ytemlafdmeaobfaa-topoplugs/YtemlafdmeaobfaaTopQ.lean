/- topo: what plugref's Plugged answers. -/
import Derived.Test.YtemlafdmeaobfaaTopZ
namespace Go.Proofs.Ytemlafdmeaobfaa.topo
open Go Go.RowKit Go.Proofs.Ytemlafdmeaobfaa.route
set_option linter.unusedVariables false
set_option linter.unusedSimpArgs false
set_option maxRecDepth 100000

theorem sorted_plug {L M : NL} {nv : Value} {n : Nd} (hP : Pl (tr L) n) (hp : M.Perm (L ++ [(nv, n)])) (hs : M.Pairwise (fun x y => ¬ odr y.2.1 x.2.1 < 0)) : tr M = ins n (tr L) := by
  have p1 : (tr M).Perm (ins n (tr L)) := by
    have h1 : (tr M).Perm (tr (L ++ [(nv, n)])) := hp.map _
    refine h1.trans ?_
    rw [tr_snoc]
    exact (List.perm_append_singleton n (tr L)).trans (ins_perm n (tr L)).symm
  have s1 := ins_srt n (tr L) hP.gd.srt hP.new
  refine sorted_eq p1 ?_ s1
  have s2 : (ins n (tr L)).Pairwise (fun x y => x.1 ≠ y.1) := s1.imp fun h => h.ne
  have s3 : (tr M).Pairwise (fun x y => x.1 ≠ y.1) := (p1.pairwise_iff (fun h => Ne.symm h)).2 s2
  have s4 : (tr M).Pairwise (fun x y => ¬ odr y.1 x.1 < 0) := by
    unfold tr
    rw [List.pairwise_map]
    exact hs
  refine (s3.and s4).imp fun ⟨a, b⟩ => ?_
  rcases lt_or a with r | r
  · exact r
  · exact absurd r b
set_option maxHeartbeats 4000000 in
theorem plugged_any (v nv : Value) (L : NL) (n : Nd) (w : World) (h : Rt w v L) (hp : Ris w nv n.1) : Calls Try.prog 15 #[v, agv (ncl nv n)] w fun e u => ∃ v' M, e = .returned (.tuple #[v', .int .i64 (plC (tr L) n)]) ∧ Rt u v' M ∧ tr M = plT (tr L) n ∧ Below w.heap.size w u := by
  have HC : Hid (∀ u, Below w.heap.size w u → Calls Try.prog 12 #[v] u fun e u' => e = .returned (.int .i64 (chkT (tr L))) ∧ Below u.heap.size u u') := fun u hb => tree_any v L u (h.below hb)
  have HH : Hid (∀ u, Below w.heap.size w u → Calls Try.prog 10 #[v, nv] u fun e u' => ∃ v', e = .returned (.tuple #[agv (ncl v' (fnN (tr L) n.1)), .bool (fnB (tr L) n.1)]) ∧ Ris u' v' (fnN (tr L) n.1).1 ∧ Below u.heap.size u u') := fun u hb => rfind_any v nv L n.1 u (h.below hb) (hp.below hb)
  have HW : Hid (∀ u, Below w.heap.size w u → Calls Try.prog 28 #[agv (ncl nv n)] u fun e u' => e = .returned (.bool (!wrg n)) ∧ Below u.heap.size u u') := fun u hb => node_any nv n u (hp.below hb)
  have HF : Hid (chkT (tr L) = 0 → wrg n = false → ∀ u, Below w.heap.size w u → Calls Try.prog 30 #[v, agv (ncl nv n)] u fun e u' => e = .returned (.bool (fit (tr L) n)) ∧ Below u.heap.size u u') := fun hz hr u hb => by
    have hn := wrg_no.1 hr
    have hg := chkT_ok.1 hz
    rw [← rfit_is hg.srt hg.rgt hn.1]
    exact rfits_any v nv L n u (h.below hb) (hp.below hb) (chk_ok hn.1).1 (chk_ok hn.1).2.1
  have HCl : Hid (∀ u, L.length ≤ 40 → Below w.heap.size w u → Calls Try.prog 36 #[v] u fun e u' => ∃ v', e = .returned v' ∧ Ow u' u.heap.size v' L ∧ Below u.heap.size u u') := fun u hl hb => cloneN_any v L u (h.below hb) (by omega)
  have HAp : Hid (∀ w0 u vc gb, L.length ≤ 40 → Below w.heap.size w w0 → Ow u w0.heap.size vc L → Below w0.heap.size w0 u → u.heap[gb]? = some (bv 25 (ncl nv n)) → ∀ ty, ∃ v' w', (Builtin.append_ #[22, 22] ty #[vc, .slice (some ⟨gb, 0, none⟩) 1 1]).run Try.prog u = .ok v' w' ∧ Ow w' w0.heap.size v' (L ++ [(nv, n)]) ∧ Below w0.heap.size w0 w') := fun w0 u vc gb hl hb ho hbu hgb ty => by
    obtain ⟨v', w', q1, q2, q3, q4, _⟩ := run_nodes u w0.heap.size vc L ho gb 1 (nv, n) hgb (ris_one hp) (by omega) hbu.size ty
    exact ⟨v', w', q1, q2, hbu.trans q4⟩
  have HSo : Hid (∀ w0 u vc, L.length ≤ 40 → Below w.heap.size w w0 → Ow u w0.heap.size vc (L ++ [(nv, n)]) → Below w0.heap.size w0 u → Calls Try.prog 37 #[vc, .func (.func 38) #[] #[]] u fun e w' => e = .returned (.tuple #[]) ∧ ∃ M : NL, M.Perm (L ++ [(nv, n)]) ∧ M.Pairwise (fun x y => ¬ odr y.2.1 x.2.1 < 0) ∧ Rt w' vc M ∧ Below w0.heap.size w0 w') := fun w0 u vc hl hb ho hbu =>
    sortN_any (L ++ [(nv, n)]) w0 u vc ho hbu (by simp) (by simp; omega) fun q hq => by
      rcases List.mem_append.1 hq with r | r
      · exact (h.all q r).below hb
      · rw [List.mem_singleton.1 r]; exact hp.below hb
  have HT : Hid (plC (tr L) n = 0 → L.length ≤ 40 ∧ ∀ M : NL, M.Perm (L ++ [(nv, n)]) → M.Pairwise (fun x y => ¬ odr y.2.1 x.2.1 < 0) → tr M = plT (tr L) n) := fun hz => by
    obtain ⟨q1, q2⟩ := plC_ok.1 hz
    rw [tr_len] at q2
    refine ⟨by omega, fun M a b => ?_⟩
    unfold plT
    rw [if_pos hz]
    exact sorted_plug q1 a b
  have HN : Hid (plC (tr L) n ≠ 0 → plT (tr L) n = []) := plT_no
  obtain ⟨va, vc, rfl, hlc, hcm⟩ := h.form
  obtain ⟨R, hR⟩ : ∃ R, plC (tr L) n = R := ⟨_, rfl⟩
  have hR2 := hR
  unfold plC at hR2
  rw [tr_len, show (fnd (tr L) n.1).isSome = fnB (tr L) n.1 from rfl] at hR2
  obtain ⟨m, hm⟩ : ∃ m, L.length = m := ⟨_, rfl⟩
  obtain ⟨cc, hcc⟩ : ∃ x, chkT (tr L) = x := ⟨_, rfl⟩
  obtain ⟨x, hx⟩ : ∃ x, wrg n = x := ⟨_, rfl⟩
  obtain ⟨y, hy⟩ : ∃ x, fnB (tr L) n.1 = x := ⟨_, rfl⟩
  obtain ⟨z, hz⟩ : ∃ x, fit (tr L) n = x := ⟨_, rfl⟩
  obtain ⟨fN, hfN⟩ : ∃ x, fnN (tr L) n.1 = x := ⟨_, rfl⟩
  obtain ⟨PT, hPT⟩ : ∃ x, plT (tr L) n = x := ⟨_, rfl⟩
  simp only [hR, hm, hcc, hx, hy, hz, hfN, hPT] at HC HH HW HF HCl HAp HSo HT HN hR2 hlc ⊢
  have G0 : Hid ((ncl nv n)[0]? = some nv) := rfl
  unfold maxLen at hcm
  have hM := Mm.nil w
  clear h hp hR hm hcc hx hy hz hfN hPT
  by_cases h1 : cc ≠ 0
  · rw [if_pos h1] at hR2
    subst hR2
    have e1 : (cc != 0) = true := by simpa using h1
    have hN := HN.out h1
    subst hN
    clear HH HW HF HCl HAp HSo HT HN h1
    go_enter Try.func15, Try.ntmps15
    repeat' (first | (go_big_may; first | (refine v_box rfl rfl rfl ?_; intro u xn hN; replace hM := hM.new hN; clear hN)) | go_values | go_skip | go_guarded | go_step | go_upon | (simp only [Int.not_lt, Int.not_le] at *; go_simp))
    refine (HC.out _ hM.below).mono ?_
    rintro e u1 ⟨rfl, hb⟩
    replace hM := hM.call hb
    clear hb
    repeat' (first | go_values | go_skip | go_guarded | go_step | go_upon | (simp only [Int.not_lt, Int.not_le] at *; go_simp))
    go_ret2
    exact ⟨_, [], rfl, rt_nil _, rfl, hM.below⟩
  rw [if_neg h1] at hR2
  have h1 : cc = 0 := Classical.not_not.1 h1
  subst h1
  have e1 : ((0 : Int) != 0) = false := rfl
  have HF2 : Hid (x = false → ∀ u, Below w.heap.size w u → Calls Try.prog 30 #[.slice va m vc, agv (ncl nv n)] u fun e u' => e = .returned (.bool z) ∧ Below u.heap.size u u') := HF.out (by first | rfl | trivial)
  clear HF
  cases x with
  | true =>
    rw [if_pos rfl] at hR2
    subst hR2
    have hN := HN.out (by decide)
    subst hN
    clear HF2 HCl HAp HSo HT HN
    go_enter Try.func15, Try.ntmps15
    repeat' (first | (go_big_may; first | (refine v_box rfl rfl rfl ?_; intro u xn hN; replace hM := hM.new hN; clear hN)) | go_values | go_skip | go_guarded | go_step | go_upon | (simp only [Int.not_lt, Int.not_le] at *; go_simp))
    refine (HC.out _ hM.below).mono ?_
    rintro e u1 ⟨rfl, hb⟩
    replace hM := hM.call hb
    clear hb
    repeat' (first | (go_big_may; first | (refine v_get rfl rfl (.inr rfl) rfl hM.at0 G0.out ?_)) | go_values | go_skip | go_guarded | go_step | go_upon | (simp only [Int.not_lt, Int.not_le] at *; go_simp))
    refine (HH.out _ hM.below).mono ?_
    rintro e u2 ⟨v2, rfl, hr, hb⟩
    replace hM := hM.call hb
    have HV : Hid (Vs (ncl v2 fN) 4) := ncl_vs fN (ris_one hr)
    clear hb hr
    repeat' (first | (go_big_may; first | (refine v_alloc rfl zer_node rfl ?_; intro u xf hN; replace hM := hM.new hN; clear hN) | (refine v_fill rfl rfl row_node rfl rfl hM.at0 HV.out rfl ?_; intro u hv hc; replace hM := hM.put0 hc hv; clear hv hc) | (refine v_load rfl rfl row_node rfl hM.at1 (Nat.le_refl 4) rfl ?_)) | go_values | go_skip | go_guarded | go_step | go_upon | (simp only [Int.not_lt, Int.not_le] at *; go_simp))
    refine (HW.out _ hM.below).mono ?_
    rintro e u3 ⟨rfl, hb⟩
    replace hM := hM.call hb
    clear hb
    repeat' (first | go_values | go_skip | go_guarded | go_step | go_upon | (simp only [Int.not_lt, Int.not_le] at *; go_simp))
    go_ret2
    exact ⟨_, [], rfl, rt_nil _, rfl, hM.below⟩
  | false =>
  rw [if_neg (by simp)] at hR2
  have HF3 : Hid (∀ u, Below w.heap.size w u → Calls Try.prog 30 #[.slice va m vc, agv (ncl nv n)] u fun e u' => e = .returned (.bool z) ∧ Below u.heap.size u u') := HF2.out (by first | rfl | trivial)
  clear HF2
  cases y with
  | true =>
    rw [if_pos rfl] at hR2
    subst hR2
    have hN := HN.out (by decide)
    subst hN
    clear HF3 HCl HAp HSo HT HN
    go_enter Try.func15, Try.ntmps15
    repeat' (first | (go_big_may; first | (refine v_box rfl rfl rfl ?_; intro u xn hN; replace hM := hM.new hN; clear hN)) | go_values | go_skip | go_guarded | go_step | go_upon | (simp only [Int.not_lt, Int.not_le] at *; go_simp))
    refine (HC.out _ hM.below).mono ?_
    rintro e u1 ⟨rfl, hb⟩
    replace hM := hM.call hb
    clear hb
    repeat' (first | (go_big_may; first | (refine v_get rfl rfl (.inr rfl) rfl hM.at0 G0.out ?_)) | go_values | go_skip | go_guarded | go_step | go_upon | (simp only [Int.not_lt, Int.not_le] at *; go_simp))
    refine (HH.out _ hM.below).mono ?_
    rintro e u2 ⟨v2, rfl, hr, hb⟩
    replace hM := hM.call hb
    have HV : Hid (Vs (ncl v2 fN) 4) := ncl_vs fN (ris_one hr)
    clear hb hr
    repeat' (first | (go_big_may; first | (refine v_alloc rfl zer_node rfl ?_; intro u xf hN; replace hM := hM.new hN; clear hN) | (refine v_fill rfl rfl row_node rfl rfl hM.at0 HV.out rfl ?_; intro u hv hc; replace hM := hM.put0 hc hv; clear hv hc) | (refine v_load rfl rfl row_node rfl hM.at1 (Nat.le_refl 4) rfl ?_)) | go_values | go_skip | go_guarded | go_step | go_upon | (simp only [Int.not_lt, Int.not_le] at *; go_simp))
    refine (HW.out _ hM.below).mono ?_
    rintro e u3 ⟨rfl, hb⟩
    replace hM := hM.call hb
    clear hb
    repeat' (first | go_values | go_skip | go_guarded | go_step | go_upon | (simp only [Int.not_lt, Int.not_le] at *; go_simp))
    go_ret2
    exact ⟨_, [], rfl, rt_nil _, rfl, hM.below⟩
  | false =>
  rw [if_neg (by simp)] at hR2
  cases z with
  | false =>
    rw [if_pos rfl] at hR2
    subst hR2
    have hN := HN.out (by decide)
    subst hN
    clear HCl HAp HSo HT HN
    go_enter Try.func15, Try.ntmps15
    repeat' (first | (go_big_may; first | (refine v_box rfl rfl rfl ?_; intro u xn hN; replace hM := hM.new hN; clear hN)) | go_values | go_skip | go_guarded | go_step | go_upon | (simp only [Int.not_lt, Int.not_le] at *; go_simp))
    refine (HC.out _ hM.below).mono ?_
    rintro e u1 ⟨rfl, hb⟩
    replace hM := hM.call hb
    clear hb
    repeat' (first | (go_big_may; first | (refine v_get rfl rfl (.inr rfl) rfl hM.at0 G0.out ?_)) | go_values | go_skip | go_guarded | go_step | go_upon | (simp only [Int.not_lt, Int.not_le] at *; go_simp))
    refine (HH.out _ hM.below).mono ?_
    rintro e u2 ⟨v2, rfl, hr, hb⟩
    replace hM := hM.call hb
    have HV : Hid (Vs (ncl v2 fN) 4) := ncl_vs fN (ris_one hr)
    clear hb hr
    repeat' (first | (go_big_may; first | (refine v_alloc rfl zer_node rfl ?_; intro u xf hN; replace hM := hM.new hN; clear hN) | (refine v_fill rfl rfl row_node rfl rfl hM.at0 HV.out rfl ?_; intro u hv hc; replace hM := hM.put0 hc hv; clear hv hc) | (refine v_load rfl rfl row_node rfl hM.at1 (Nat.le_refl 4) rfl ?_)) | go_values | go_skip | go_guarded | go_step | go_upon | (simp only [Int.not_lt, Int.not_le] at *; go_simp))
    refine (HW.out _ hM.below).mono ?_
    rintro e u3 ⟨rfl, hb⟩
    replace hM := hM.call hb
    clear hb
    repeat' (first | (go_big_may; first | (refine v_load rfl rfl row_node rfl hM.at1 (Nat.le_refl 4) rfl ?_)) | go_values | go_skip | go_guarded | go_step | go_upon | (simp only [Int.not_lt, Int.not_le] at *; go_simp))
    refine (HF3.out _ hM.below).mono ?_
    rintro e u4 ⟨rfl, hb⟩
    replace hM := hM.call hb
    clear hb
    repeat' (first | go_values | go_skip | go_guarded | go_step | go_upon | (simp only [Int.not_lt, Int.not_le] at *; go_simp))
    go_ret2
    exact ⟨_, [], rfl, rt_nil _, rfl, hM.below⟩
  | true =>
  rw [if_neg (by simp)] at hR2
  by_cases h4 : m = 40
  · subst h4
    rw [if_pos rfl] at hR2
    subst hR2
    have hN := HN.out (by decide)
    subst hN
    clear HCl HAp HSo HT HN
    go_enter Try.func15, Try.ntmps15
    repeat' (first | (go_big_may; first | (refine v_box rfl rfl rfl ?_; intro u xn hN; replace hM := hM.new hN; clear hN)) | go_values | go_skip | go_guarded | go_step | go_upon | (simp only [Int.not_lt, Int.not_le] at *; go_simp))
    refine (HC.out _ hM.below).mono ?_
    rintro e u1 ⟨rfl, hb⟩
    replace hM := hM.call hb
    clear hb
    repeat' (first | (go_big_may; first | (refine v_get rfl rfl (.inr rfl) rfl hM.at0 G0.out ?_)) | go_values | go_skip | go_guarded | go_step | go_upon | (simp only [Int.not_lt, Int.not_le] at *; go_simp))
    refine (HH.out _ hM.below).mono ?_
    rintro e u2 ⟨v2, rfl, hr, hb⟩
    replace hM := hM.call hb
    have HV : Hid (Vs (ncl v2 fN) 4) := ncl_vs fN (ris_one hr)
    clear hb hr
    repeat' (first | (go_big_may; first | (refine v_alloc rfl zer_node rfl ?_; intro u xf hN; replace hM := hM.new hN; clear hN) | (refine v_fill rfl rfl row_node rfl rfl hM.at0 HV.out rfl ?_; intro u hv hc; replace hM := hM.put0 hc hv; clear hv hc) | (refine v_load rfl rfl row_node rfl hM.at1 (Nat.le_refl 4) rfl ?_)) | go_values | go_skip | go_guarded | go_step | go_upon | (simp only [Int.not_lt, Int.not_le] at *; go_simp))
    refine (HW.out _ hM.below).mono ?_
    rintro e u3 ⟨rfl, hb⟩
    replace hM := hM.call hb
    clear hb
    repeat' (first | (go_big_may; first | (refine v_load rfl rfl row_node rfl hM.at1 (Nat.le_refl 4) rfl ?_)) | go_values | go_skip | go_guarded | go_step | go_upon | (simp only [Int.not_lt, Int.not_le] at *; go_simp))
    refine (HF3.out _ hM.below).mono ?_
    rintro e u4 ⟨rfl, hb⟩
    replace hM := hM.call hb
    clear hb
    repeat' (first | go_values | go_skip | go_guarded | go_step | go_upon | (simp only [Int.not_lt, Int.not_le] at *; go_simp))
    go_ret2
    exact ⟨_, [], rfl, rt_nil _, rfl, hM.below⟩
  rw [if_neg h4] at hR2
  subst hR2
  have e4 : ((m : Int) == 40) = false := by rw [beq_eq_false_iff_ne]; omega
  obtain ⟨hm40, hTT⟩ := HT.out rfl
  have HTT : Hid (m ≤ 40 ∧ ∀ M : NL, M.Perm (L ++ [(nv, n)]) → M.Pairwise (fun x y => ¬ odr y.2.1 x.2.1 < 0) → tr M = PT) := ⟨hm40, hTT⟩
  clear HT HN h4 hTT
  go_enter Try.func15, Try.ntmps15
  repeat' (first | (go_big_may; first | (refine v_box rfl rfl rfl ?_; intro u xn hN; replace hM := hM.new hN; clear hN)) | go_values | go_skip | go_guarded | go_step | go_upon | (simp only [Int.not_lt, Int.not_le] at *; go_simp))
  refine (HC.out _ hM.below).mono ?_
  rintro e u1 ⟨rfl, hb⟩
  replace hM := hM.call hb
  clear hb
  repeat' (first | (go_big_may; first | (refine v_get rfl rfl (.inr rfl) rfl hM.at0 G0.out ?_)) | go_values | go_skip | go_guarded | go_step | go_upon | (simp only [Int.not_lt, Int.not_le] at *; go_simp))
  refine (HH.out _ hM.below).mono ?_
  rintro e u2 ⟨v2, rfl, hr, hb⟩
  replace hM := hM.call hb
  have HV : Hid (Vs (ncl v2 fN) 4) := ncl_vs fN (ris_one hr)
  clear hb hr
  repeat' (first | (go_big_may; first | (refine v_alloc rfl zer_node rfl ?_; intro u xf hN; replace hM := hM.new hN; clear hN) | (refine v_fill rfl rfl row_node rfl rfl hM.at0 HV.out rfl ?_; intro u hv hc; replace hM := hM.put0 hc hv; clear hv hc) | (refine v_load rfl rfl row_node rfl hM.at1 (Nat.le_refl 4) rfl ?_)) | go_values | go_skip | go_guarded | go_step | go_upon | (simp only [Int.not_lt, Int.not_le] at *; go_simp))
  refine (HW.out _ hM.below).mono ?_
  rintro e u3 ⟨rfl, hb⟩
  replace hM := hM.call hb
  clear hb
  repeat' (first | (go_big_may; first | (refine v_load rfl rfl row_node rfl hM.at1 (Nat.le_refl 4) rfl ?_)) | go_values | go_skip | go_guarded | go_step | go_upon | (simp only [Int.not_lt, Int.not_le] at *; go_simp))
  refine (HF3.out _ hM.below).mono ?_
  rintro e u4 ⟨rfl, hb⟩
  replace hM := hM.call hb
  clear hb
  have HM : Hid (Mm w u4 [(xn, 25, ncl nv n)]) := hM.sub (.cons _ (List.Sublist.refl _))
  clear hM HC HH HW HF3 HV
  go_upto_region 13 with (fail)
  refine wp_abs (fun a0 => a0.tmps.size = 45 ∧ (∀ h, a0.tmps[0]'h = .slice va m vc) ∧ (∀ h, a0.tmps[3]'h = .pointer (some ⟨xn, 0, none⟩))) ⟨rfl, fun _ => rfl, fun _ => rfl⟩ ?_
  rintro a0 ⟨hsz, s0, s3⟩ ha0
  refine wp_region_held (S := fun W => Mm w W [(xn, 25, ncl nv n)]) (by kernel_rfl) ?_
  obtain ⟨ud, hud⟩ : ∃ ud, u4.drew = ud := ⟨_, rfl⟩
  have hS0 : Mm w ud [(xn, 25, ncl nv n)] := by rw [← hud]; exact HM.out.drew
  show wpAnyH _ _ _ _ _ _ _ _ u4.drew
  rw [hud]
  refine h_take (i := 0) (.slice va m vc) rfl (by kernel_rfl) (by kernel_rfl) (by kernel_rfl) (fun _ _ _ h => h) rfl hS0 (fun W hW => by simp [execOp, go_sem, Act.put, hsz, s0, s3]) ?_
  refine h_take (i := 2) (agv (ncl nv n)) rfl (by kernel_rfl) (by kernel_rfl) (by kernel_rfl) (fun _ _ _ h => h) rfl hS0 (fun W hW => ex_loadv rfl row_node (by simp [go_sem, Act.put, hsz, s3]) hW.at0 (Nat.le_refl 4) rfl) ?_
  refine h_two 1 3 (by kernel_rfl) ?_ ?_
  · refine o_call 36 #[.slice va m vc] rfl rfl (by simp [execOp, go_sem, Act.put, hsz]) ((HCl.out _ HTT.out.1 hS0.below).mono ?_)
    rintro e u5 ⟨v5, rfl, ho5, hb5⟩
    have hS5 := hS0.call hb5
    refine ⟨_, rfl, hS5, ?_⟩
    have hN := New.alloc u5 25 (ncl nv n)
    have hM6 := hS5.new hN
    refine h_value (i := 3) (w' := u5.alloc (bv 25 (ncl nv n))) (.slice (some ⟨u5.heap.size, 0, none⟩) 1 1) rfl (by kernel_rfl) rfl (ex_bs rfl (by simp [go_sem, Act.put, hsz])) (hM6.sub (.cons _ (List.Sublist.refl _))) ?_
    obtain ⟨u6, hu6⟩ : ∃ u6, u5.alloc (bv 25 (ncl nv n)) = u6 := ⟨_, rfl⟩
    rw [hu6] at hN hM6 ⊢
    obtain ⟨v7, u7, hr7, ho7, hb7⟩ := HAp.out ud u6 v5 u5.heap.size HTT.out.1 hS0.below (ho5.below hN.below) (bsq hb5 hN.below) hN.lies 22
    have hS7 : Mm w u7 [(xn, 25, ncl nv n)] := hS0.call hb7
    refine h_value (i := 4) (w' := u7) v7 rfl (by kernel_rfl) rfl (run_append_op _ _ 22 rfl _ _ v7 (by simp [go_sem, Act.put, hsz]) (by simp [go_sem, Act.put, hsz]) hr7) hS7 ?_
    refine h_take (i := 5) (v7) rfl (by kernel_rfl) (by kernel_rfl) (by kernel_rfl) (fun _ _ _ h => h) rfl hS7 (fun W hW => by simp [execOp, go_sem, Act.put, hsz, s0, s3]) ?_
    refine wpAnyH_done (by kernel_rfl) ?_ _
    subst ha0
    have HO : Hid (Below w.heap.size w ud ∧ Ow u7 ud.heap.size v7 (L ++ [(nv, n)]) ∧ Below ud.heap.size ud u7) := ⟨hS0.below, ho7, hb7⟩
    clear hsz s0 s3 hS0 hS5 hS7 hN hM6 ho5 hb5 ho7 hb7 hr7 hud hu6 HM HCl HAp
    go_simp
    go_wp2_with fail
    refine (HSo.out ud u7 v7 HTT.out.1 HO.out.1 HO.out.2.1 HO.out.2.2).mono ?_
    rintro e u8 ⟨rfl, M, hp8, hs8, hr8, hb8⟩
    have HQ : Hid (Rt u8 v7 M ∧ tr M = PT ∧ Below w.heap.size w u8) := ⟨hr8, HTT.out.2 M hp8 hs8, bsq HO.out.1 hb8⟩
    clear hp8 hs8 hr8 hb8 HSo HO HTT
    go_wp2
    go_ret2
    exact ⟨_, M, rfl, HQ.out⟩
  · have hN := New.alloc ud 25 (ncl nv n)
    have hM5 := hS0.new hN
    refine o_value (w' := ud.alloc (bv 25 (ncl nv n))) (.slice (some ⟨ud.heap.size, 0, none⟩) 1 1) rfl rfl (ex_bs (v := nv) (n := n) rfl (by simp [go_sem, Act.put, hsz])) ?_
    obtain ⟨u5, hu5⟩ : ∃ u5, ud.alloc (bv 25 (ncl nv n)) = u5 := ⟨_, rfl⟩
    rw [hu5] at hN hM5 ⊢
    have hS5 : Mm w u5 [(xn, 25, ncl nv n)] := hM5.sub (.cons _ (List.Sublist.refl _))
    refine ⟨hS5, ?_⟩
    refine h_call (i := 1) 36 #[.slice va m vc] rfl (by kernel_rfl) rfl (by simp [execOp, go_sem, Act.put, hsz, s0, s3]) ((HCl.out _ HTT.out.1 hS5.below).mono ?_)
    rintro e u6 ⟨v6, rfl, ho6, hb6⟩
    have hS6 := hS5.call hb6
    refine ⟨_, rfl, hS6, ?_⟩
    obtain ⟨v7, u7, hr7, ho7, hb7⟩ := HAp.out u5 u6 v6 ud.heap.size HTT.out.1 hS5.below ho6 hb6 (keep hN.lies hb6) 22
    have hS7 : Mm w u7 [(xn, 25, ncl nv n)] := hS5.call hb7
    refine h_value (i := 4) (w' := u7) v7 rfl (by kernel_rfl) rfl (run_append_op _ _ 22 rfl _ _ v7 (by simp [go_sem, Act.put, hsz]) (by simp [go_sem, Act.put, hsz]) hr7) hS7 ?_
    refine h_take (i := 5) (v7) rfl (by kernel_rfl) (by kernel_rfl) (by kernel_rfl) (fun _ _ _ h => h) rfl hS7 (fun W hW => by simp [execOp, go_sem, Act.put, hsz, s0, s3]) ?_
    refine wpAnyH_done (by kernel_rfl) ?_ _
    subst ha0
    have HO : Hid (Below w.heap.size w u5 ∧ Ow u7 u5.heap.size v7 (L ++ [(nv, n)]) ∧ Below u5.heap.size u5 u7) := ⟨hS5.below, ho7, hb7⟩
    clear hsz s0 s3 hS0 hS5 hS6 hS7 hN hM5 ho6 hb6 ho7 hb7 hr7 hud hu5 HM HCl HAp
    go_simp
    go_wp2_with fail
    refine (HSo.out u5 u7 v7 HTT.out.1 HO.out.1 HO.out.2.1 HO.out.2.2).mono ?_
    rintro e u8 ⟨rfl, M, hp8, hs8, hr8, hb8⟩
    have HQ : Hid (Rt u8 v7 M ∧ tr M = PT ∧ Below w.heap.size w u8) := ⟨hr8, HTT.out.2 M hp8 hs8, bsq HO.out.1 hb8⟩
    clear hp8 hs8 hr8 hb8 HSo HO HTT
    go_wp2
    go_ret2
    exact ⟨_, M, rfl, HQ.out⟩
end Go.Proofs.Ytemlafdmeaobfaa.topo
