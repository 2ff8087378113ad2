/- topo: what plugref's Fits answers. -/
import Derived.Test.YtemlafdmeaobfabTopS
namespace Go.Proofs.Ytemlafdmeaobfab.topo
open Go Go.RowKit Go.Proofs.Ytemlafdmeaobfab.route
set_option linter.unusedVariables false
set_option linter.unusedSimpArgs false
set_option maxRecDepth 100000

def hub (p : List Int) (h : Nd) : Bool := (h.2.1 == 1) && decide (h.1 = p)
def rfit (T : List Nd) (n : Nd) : Bool := if n.1.length = 1 then decide (lst n.1 ≤ 4) else ((T.find? (hub (ini n.1))).map fun h => decide (lst n.1 ≤ h.2.2.1)).getD false
theorem rfit_is {T : List Nd} (hT : T.Pairwise Lt) (hr : ∀ h ∈ T, Rgt h) {n : Nd} (hn : chk n.1 = 0) : rfit T n = fit T n := by
  have h2 := lst_in hn
  unfold rfit fit
  by_cases e : n.1.length = 1
  · rw [if_pos e, if_pos e]
  · rw [if_neg e, if_neg e]
    unfold prt
    cases q : T.find? (hub (ini n.1)) with
    | some h =>
      have h1 := List.mem_of_find?_eq_some q
      have h3 := List.find?_some q
      unfold hub at h3
      have h4 : h.1 = ini n.1 := by simpa using (Bool.and_eq_true_iff.1 h3).2
      have := fnd_mem hT h1
      rw [h4] at this
      rw [this]
      rfl
    | none =>
      cases q2 : fnd T (ini n.1) with
      | none =>
        show false = decide (lst n.1 ≤ 0)
        rw [decide_eq_false (by omega)]
      | some m =>
        obtain ⟨m1, m2⟩ := fnd_some q2
        have hm := (List.find?_eq_none.1 q) m m1
        unfold hub at hm
        have hk : m.2.1 ≠ 1 := fun e => hm (by simp [e, m2])
        rcases (hr m m1).2 with r | r
        · exact absurd r.1 hk
        · show false = decide (lst n.1 ≤ m.2.2.1)
          rw [r.2, decide_eq_false (by omega)]
def fh (T : List Nd) (p : List Int) (k : Nat) : Prop := (T.drop k).find? (hub p) = T.find? (hub p)
theorem fh_hit {T : List Nd} {p : List Int} {k : Nat} {n : Nd} (h : fh T p k) (hk : T[k]? = some n) (he : hub p n = true) : T.find? (hub p) = some n := by
  obtain ⟨hl, e⟩ := List.getElem?_eq_some_iff.1 hk
  unfold fh at h
  rw [← h, List.drop_eq_getElem_cons hl, e, List.find?_cons_of_pos he]
theorem fh_next {T : List Nd} {p : List Int} {k : Nat} {n : Nd} (h : fh T p k) (hk : T[k]? = some n) (he : hub p n = false) : fh T p (k + 1) := by
  obtain ⟨hl, e⟩ := List.getElem?_eq_some_iff.1 hk
  unfold fh at h ⊢
  rw [← h, List.drop_eq_getElem_cons hl, e, List.find?_cons_of_neg (by rw [he]; simp)]
theorem fh_end {T : List Nd} {p : List Int} {k : Nat} (h : fh T p k) (hk : T.length ≤ k) : T.find? (hub p) = none := by
  unfold fh at h
  rw [← h, List.drop_eq_nil_of_le hk]
  rfl
theorem ex_slci {o : Oper} {a : Act} {W : World} {x y : Operand} (ho : o.op = .slice 23 x none (some y) none) {vx vy v : Value} (hx : a.eval x = vx) (hy : a.eval y = vy) (hr : (Instr.slice 23 vx none (some vy) none).run Try.prog W = .ok v W) :
    (execOp a.eval o).run Try.prog W = .ok (.value v) W := by
  have hr2 : (Instr.sliceAt 23 vx none (some vy) none).run Try.prog W = .ok v W := by rw [run_sliceAt_slice (h := Try.underlying23)]; exact hr
  unfold execOp
  simp [ho, hx, hy, Sem.run_bind, hr2, Result.andThen_ok, Sem.run_pure]
set_option maxHeartbeats 4000000 in
theorem rfits_any (v nv : Value) (L : NL) (n : Nd) (w : World) (h : Rt w v L) (hp : Ris w nv n.1) (h1 : 1 ≤ n.1.length) (h6 : n.1.length ≤ 6) : Calls Try.prog 29 #[v, agv (ncl nv n)] w fun e u => e = .returned (.bool (rfit (tr L) n)) ∧ Below w.heap.size w u := by
  obtain ⟨r, hr⟩ : ∃ r, n.1.length = r + 1 := ⟨n.1.length - 1, by omega⟩
  obtain ⟨a, c, rfl, hlc, hcm⟩ := hp.form
  obtain ⟨va, vc, rfl, hvc, hvm⟩ := h.form
  have hla := lst_at hr
  have hin := ini_is hr
  obtain ⟨g, off, rfl, _⟩ := hp.at r _ hla
  have HCL : Hid (∀ u, Below w.heap.size w u → u.cell? ⟨g, off + r, none⟩ = some (.int .i64 (lst n.1))) := fun u hb => by
    obtain ⟨g', off', e, hc⟩ := (hp.below hb).at r _ hla
    injection e with e
    injection e with e1 e2 _
    subst e1 e2
    exact hc
  obtain ⟨hsl, hup⟩ := Ris.upto hp r (by omega)
  have HAT : Hid (∀ k q, L[k]? = some q → ∃ g off, va = some ⟨g, off, none⟩ ∧ ∀ u, Below w.heap.size w u → u.rangeAt g (off + k * 4) (ncl q.1 q.2) ∧ Ris u q.1 q.2.1) := fun k q hq => h.at k q hq
  have HEQ : Hid (∀ q : Value × Nd, ∀ u, Ris u q.1 q.2.1 → Below w.heap.size w u → Calls Try.prog 8 #[q.1, .slice (some ⟨g, off, none⟩) r c] u fun e w' => e = .returned (.bool (decide (q.2.1 = ini n.1))) ∧ Below u.heap.size u w') := fun q u hr hb => equalI_any q.1 _ _ _ u hr (by rw [hin]; exact hup.below hb)
  have HF : Hid (r = 0 → rfit (tr L) n = decide (lst n.1 ≤ 4)) := fun e => by unfold rfit; rw [if_pos (by omega)]
  have HH : Hid (r ≠ 0 → ∀ k x, fh (tr L) (ini n.1) k → (tr L)[k]? = some x → hub (ini n.1) x = true → rfit (tr L) n = decide (lst n.1 ≤ x.2.2.1)) := fun e k x hf hk hx => by
    unfold rfit
    rw [if_neg (by omega), fh_hit hf hk hx]
    rfl
  have HE : Hid (r ≠ 0 → ∀ k, fh (tr L) (ini n.1) k → L.length ≤ k → rfit (tr L) n = false) := fun e k hf hk => by
    unfold rfit
    rw [if_neg (by omega), fh_end hf (by rw [tr_len]; exact hk)]
    rfl
  obtain ⟨R, hR⟩ : ∃ R, rfit (tr L) n = R := ⟨_, rfl⟩
  obtain ⟨I, hI⟩ : ∃ I, ini n.1 = I := ⟨_, rfl⟩
  obtain ⟨x, hx⟩ : ∃ x, lst n.1 = x := ⟨_, rfl⟩
  obtain ⟨l, hl⟩ : ∃ l, L.length = l := ⟨_, rfl⟩
  simp only [hR, hI, hx, hl] at HF HH HE HEQ HCL hvc ⊢
  have HL : Hid (L.length = l ∧ (tr L).length = l) := ⟨hl, by rw [tr_len]; exact hl⟩
  rw [hr] at hlc hsl ⊢
  obtain ⟨m, hm⟩ : ∃ m, r + 1 = m := ⟨_, rfl⟩
  rw [hm] at hlc hsl ⊢
  have hmr : (m : Int) - 1 = (r : Int) := by omega
  have hr5 : r < m := by omega
  have hm6 : m ≤ 6 := by omega
  have G0 : Hid ((ncl (.slice (some ⟨g, off, none⟩) m c) n)[0]? = some (.slice (some ⟨g, off, none⟩) m c)) := rfl
  unfold maxLen at hcm hvm
  have hM := Mm.nil w
  clear h hp hla hin hup hR hI hx hl h1 h6 hr hm
  by_cases hr0 : r = 0
  · have HQ : decide (x ≤ 4) = R := (HF.out hr0).symm
    subst hr0
    have HCL2 : Hid (∀ u, Below w.heap.size w u → u.cell? ⟨g, off, none⟩ = some (.int .i64 x)) := HCL
    clear HF HH HE HCL HEQ HAT
    go_enter Try.func29, Try.ntmps29
    repeat' (first | (go_big_may; first | (refine v_box rfl rfl rfl ?_; intro u xn hN; replace hM := hM.new hN; clear hN) | (refine v_get rfl rfl (.inr rfl) rfl hM.at0 G0.out ?_) | (refine v_cel rfl rfl (.inl rfl) rfl (HCL2.out _ hM.below) ?_)) | go_values | go_skip | go_guarded | go_step | go_upon | (simp only [Int.not_lt, Int.not_le] at *; go_simp))
    go_ret
    exact ⟨rfl, hM.below⟩
  have hr1 : ((r : Int) == 0) = false := by rw [beq_eq_false_iff_ne]; omega
  have HH2 : Hid (∀ k x_1, fh (tr L) I k → (tr L)[k]? = some x_1 → hub I x_1 = true → R = decide (x ≤ x_1.2.2.1)) := HH.out hr0
  have HE2 : Hid (∀ k, fh (tr L) I k → l ≤ k → R = false) := HE.out hr0
  clear HF HH HE hr0
  go_enter Try.func29, Try.ntmps29
  repeat' (first | (go_big_may; first | (refine v_box rfl rfl rfl ?_; intro u xn hN; replace hM := hM.new hN; clear hN) | (refine v_get rfl rfl (.inr rfl) rfl hM.at0 G0.out ?_)) | go_values | go_skip | go_guarded | go_step | go_upon | (simp only [Int.not_lt, Int.not_le] at *; go_simp))
  have HM : Hid (Mm w u [(xn, 25, ncl (.slice (some ⟨g, off, none⟩) m c) n)]) := hM
  clear hM
  go_loopw [7, 21] (fun _ i wr => ∃ k : Nat, k ≤ l ∧ i = .int .i64 (k : Int) ∧ Hid (Mm w wr [(xn, 25, ncl (.slice (some ⟨g, off, none⟩) m c) n)] ∧ fh (tr L) I k)) (fun _ i _ => l - (intOf i).toNat)
  case atStart => exact ⟨0, Nat.zero_le _, rfl, HM.out, rfl⟩
  case round =>
    clear HM
    obtain ⟨k, hk, rfl, HA⟩ := hrel
    have hM := HA.out.1
    have HFR : Hid (fh (tr L) I k) := HA.out.2
    clear HA
    by_cases hlt : ¬ k < l
    · have HQ : Hid (R = false) := HE2.out k HFR.out (by omega)
      clear HH2 HE2 HAT HEQ HFR
      repeat' (first | go_values | go_skip | go_guarded | go_step | go_upon | (simp only [Int.not_lt, Int.not_le] at *; go_simp))
      go_ret
      rw [HQ.out]
      exact ⟨rfl, hM.below⟩
    have hlt : k < l := by omega
    obtain ⟨⟨qv, y⟩, hq⟩ : ∃ q, L[k]? = some q := ⟨_, List.getElem?_eq_getElem (by have := HL.out; omega)⟩
    obtain ⟨g2, off2, rfl, hat⟩ := HAT.out k _ hq
    have HRG : Hid (∀ u, Below w.heap.size w u → u.rangeAt g2 (off2 + k * 4) (ncl qv y)) := fun u hb => (hat u hb).1
    have HVQ : Hid (Vs (ncl qv y) 4) := ncl_vs y (ris_one (hat w (Below.refl _ _)).2)
    have HEQ2 : Hid (∀ u, Below w.heap.size w u → Calls Try.prog 8 #[qv, .slice (some ⟨g, off, none⟩) r c] u fun e w' => e = .returned (.bool (decide (y.1 = I))) ∧ Below u.heap.size u w') := fun u hb => HEQ.out (qv, y) u (hat u hb).2 hb
    have HHt : Hid (hub I y = true → R = decide (x ≤ y.2.2.1)) := fun he => HH2.out k _ HFR.out (tr_at hq) he
    have HNx : Hid (hub I y = false → fh (tr L) I (k + 1)) := fun he => fh_next HFR.out (tr_at hq) he
    unfold hub at HHt HNx
    obtain ⟨yp, yk, yq, ys⟩ := y
    simp only at HHt HNx HEQ2
    obtain ⟨b, hb⟩ : ∃ b, decide (yp = I) = b := ⟨_, rfl⟩
    simp only [hb] at HHt HNx HEQ2
    clear HH2 HE2 HAT HEQ HFR hat hq hb
    repeat' (first | (go_big_may; first | (refine v_ldR rfl rfl row_node rfl (HRG.out _ hM.below) rfl ?_) | (refine v_alloc rfl zer_node rfl ?_; intro u xh hN; replace hM := hM.new hN; clear hN) | (refine v_fill rfl rfl row_node rfl rfl hM.at0 HVQ.out rfl ?_; intro u hv hc; replace hM := hM.put0 hc hv; clear hv hc)) | go_values | go_skip | go_guarded | go_step | go_upon | (simp only [Int.not_lt, Int.not_le] at *; go_simp))
    have HM : Hid (Mm w u [(xh, 25, ncl qv (yp, yk, yq, ys)), (xn, 25, ncl (.slice (some ⟨g, off, none⟩) m c) n)]) := hM
    clear hM HRG HVQ
    -- region 7
    cases hk1 : (yk == 1) with
    | false =>
      have HY : Hid (fh (tr L) I (k + 1)) := HNx.out (by rw [hk1]; rfl)
      clear HHt HNx HEQ2
      go_upto_region 7 with (fail)
      refine wp_abs (fun a0 => a0.tmps.size = 46 ∧ (∀ h, a0.tmps[7]'h = .pointer (some ⟨xh, 0, none⟩))) ⟨rfl, fun _ => rfl⟩ ?_
      rintro a0 ⟨hsz, s7⟩ ha0
      refine wp_region_held (S := fun W => Mm w W [(xh, 25, ncl qv (yp, yk, yq, ys)), (xn, 25, ncl (.slice (some ⟨g, off, none⟩) m c) n)]) (by kernel_rfl) ?_
      obtain ⟨ud, hud⟩ : ∃ ud, u.drew = ud := ⟨_, rfl⟩
      have hS0 : Mm w ud [(xh, 25, ncl qv (yp, yk, yq, ys)), (xn, 25, ncl (.slice (some ⟨g, off, none⟩) m c) n)] := by rw [← hud]; exact HM.out.drew
      show wpAnyH _ _ _ _ _ _ _ _ u.drew
      rw [hud]
      refine h_take (i := 0) (.pointer (some ⟨xh, 1, none⟩)) rfl (by kernel_rfl) (by kernel_rfl) (by kernel_rfl) (fun _ _ _ h => h) rfl hS0 (fun W hW => by simp [execOp, go_sem, Act.put, hsz, s7, hk1]) ?_
      refine h_take (i := 1) (.int .i64 yk) rfl (by kernel_rfl) (by kernel_rfl) (by kernel_rfl) (fun _ _ _ h => h) rfl hS0 (fun W hW => ex_getv (p := ⟨xh, 1, none⟩) rfl (.inl rfl) (by simp [go_sem, Act.put, hsz]) (bv_cell hW.at0 rfl)) ?_
      refine h_take (i := 2) (.bool false) rfl (by kernel_rfl) (by kernel_rfl) (by kernel_rfl) (fun _ _ _ h => h) rfl hS0 (fun W hW => by simp [execOp, go_sem, Act.put, hsz, s7, hk1]) ?_
      refine h_take (i := 3) (.bool false) rfl (by kernel_rfl) (by kernel_rfl) (by kernel_rfl) (fun _ _ _ h => h) rfl hS0 (fun W hW => by simp [execOp, go_sem, Act.put, hsz, s7, hk1]) ?_
      refine g_pass (i := 4) rfl (by kernel_rfl) (by kernel_rfl) (by kernel_rfl) (fun _ _ _ h => h) (by simp [Region.wanted, yielded, Act.put, hsz]) hS0 ?_
      refine g_pass (i := 5) rfl (by kernel_rfl) (by kernel_rfl) (by kernel_rfl) (fun _ _ _ h => h) (by simp [Region.wanted, yielded, Act.put, hsz]) hS0 ?_
      refine g_pass (i := 6) rfl (by kernel_rfl) (by kernel_rfl) (by kernel_rfl) (fun _ _ _ h => h) (by simp [Region.wanted, yielded, Act.put, hsz]) hS0 ?_
      refine g_pass (i := 7) rfl (by kernel_rfl) (by kernel_rfl) (by kernel_rfl) (fun _ _ _ h => h) (by simp [Region.wanted, yielded, Act.put, hsz]) hS0 ?_
      refine g_pass (i := 8) rfl (by kernel_rfl) (by kernel_rfl) (by kernel_rfl) (fun _ _ _ h => h) (by simp [Region.wanted, yielded, Act.put, hsz]) hS0 ?_
      refine g_pass (i := 9) rfl (by kernel_rfl) (by kernel_rfl) (by kernel_rfl) (fun _ _ _ h => h) (by simp [Region.wanted, yielded, Act.put, hsz]) hS0 ?_
      refine g_none (i := 10) rfl (by kernel_rfl) (by simp [Region.wanted, yielded, Act.put, hsz]) hS0 ?_
      refine h_take (i := 11) (.bool false) rfl (by kernel_rfl) (by kernel_rfl) (by kernel_rfl) (fun _ _ _ h => h) rfl hS0 (fun W hW => by simp [execOp, go_sem, Act.put, hsz, s7, hk1]) ?_
      refine wpAnyH_done (by kernel_rfl) ?_ _
      subst ha0
      have HQ : Hid (Mm w ud [(xn, 25, ncl (.slice (some ⟨g, off, none⟩) m c) n)]) := hS0.sub (.cons _ (List.Sublist.refl _))
      clear hsz s7 hS0 hud HM
      go_simp
      go_wp2
      go_roundw
      case rel => exact ⟨k + 1, by omega, by go_num, HQ.out, HY.out⟩
      case measure => simp [intOf]; omega
    | true =>
    go_upto_region 7 with (fail)
    refine wp_abs (fun a0 => a0.tmps.size = 46 ∧ (∀ h, a0.tmps[3]'h = .pointer (some ⟨xn, 0, none⟩)) ∧ (∀ h, a0.tmps[5]'h = .int .i64 (r : Int)) ∧ (∀ h, a0.tmps[7]'h = .pointer (some ⟨xh, 0, none⟩))) ⟨rfl, fun _ => rfl, fun _ => rfl, fun _ => rfl⟩ ?_
    rintro a0 ⟨hsz, s3, s5, s7⟩ ha0
    refine wp_region_held (S := fun W => Mm w W [(xh, 25, ncl qv (yp, yk, yq, ys)), (xn, 25, ncl (.slice (some ⟨g, off, none⟩) m c) n)]) (by kernel_rfl) ?_
    obtain ⟨ud, hud⟩ : ∃ ud, u.drew = ud := ⟨_, rfl⟩
    have hS0 : Mm w ud [(xh, 25, ncl qv (yp, yk, yq, ys)), (xn, 25, ncl (.slice (some ⟨g, off, none⟩) m c) n)] := by rw [← hud]; exact HM.out.drew
    show wpAnyH _ _ _ _ _ _ _ _ u.drew
    rw [hud]
    refine h_take (i := 0) (.pointer (some ⟨xh, 1, none⟩)) rfl (by kernel_rfl) (by kernel_rfl) (by kernel_rfl) (fun _ _ _ h => h) rfl hS0 (fun W hW => by simp [execOp, go_sem, Act.put, hsz, s3, s5, s7, hk1]) ?_
    refine h_take (i := 1) (.int .i64 yk) rfl (by kernel_rfl) (by kernel_rfl) (by kernel_rfl) (fun _ _ _ h => h) rfl hS0 (fun W hW => ex_getv (p := ⟨xh, 1, none⟩) rfl (.inl rfl) (by simp [go_sem, Act.put, hsz]) (bv_cell hW.at0 rfl)) ?_
    refine h_take (i := 2) (.bool true) rfl (by kernel_rfl) (by kernel_rfl) (by kernel_rfl) (fun _ _ _ h => h) rfl hS0 (fun W hW => by simp [execOp, go_sem, Act.put, hsz, s3, s5, s7, hk1]) ?_
    refine h_take (i := 3) (.bool true) rfl (by kernel_rfl) (by kernel_rfl) (by kernel_rfl) (fun _ _ _ h => h) rfl hS0 (fun W hW => by simp [execOp, go_sem, Act.put, hsz, s3, s5, s7, hk1]) ?_
    refine g_take (i := 4) (.pointer (some ⟨xh, 0, none⟩)) rfl (by kernel_rfl) (by kernel_rfl) (by kernel_rfl) (fun _ _ _ h => h) (by simp [Region.wanted, yielded, Act.put, hsz]) hS0 (fun W hW => by simp [execOp, go_sem, Act.put, hsz, s3, s5, s7, hk1]) ?_
    refine g_take (i := 5) qv rfl (by kernel_rfl) (by kernel_rfl) (by kernel_rfl) (fun _ _ _ h => h) (by simp [Region.wanted, yielded, Act.put, hsz]) hS0 (fun W hW => ex_getv (p := ⟨xh, 0, none⟩) rfl (.inr rfl) (by simp [go_sem, Act.put, hsz]) (bv_cell hW.at0 rfl)) ?_
    refine g_take (i := 6) (.pointer (some ⟨xn, 0, none⟩)) rfl (by kernel_rfl) (by kernel_rfl) (by kernel_rfl) (fun _ _ _ h => h) (by simp [Region.wanted, yielded, Act.put, hsz]) hS0 (fun W hW => by simp [execOp, go_sem, Act.put, hsz, s3, s5, s7, hk1]) ?_
    refine g_take (i := 7) (.slice (some ⟨g, off, none⟩) m c) rfl (by kernel_rfl) (by kernel_rfl) (by kernel_rfl) (fun _ _ _ h => h) (by simp [Region.wanted, yielded, Act.put, hsz]) hS0 (fun W hW => ex_getv (p := ⟨xn, 0, none⟩) rfl (.inr rfl) (by simp [go_sem, Act.put, hsz]) (bv_cell hW.at1 rfl)) ?_
    refine g_take (i := 8) (.int .i64 (r : Int)) rfl (by kernel_rfl) (by kernel_rfl) (by kernel_rfl) (fun _ _ _ h => h) (by simp [Region.wanted, yielded, Act.put, hsz]) hS0 (fun W hW => by simp [execOp, go_sem, Act.put, hsz, s3, s5, s7, hk1]) ?_
    refine g_take (i := 9) (.slice (some ⟨g, off, none⟩) r c) rfl (by kernel_rfl) (by kernel_rfl) (by kernel_rfl) (fun _ _ _ h => h) (by simp [Region.wanted, yielded, Act.put, hsz]) hS0 (fun W hW => ex_slci rfl (by simp [go_sem, Act.put, hsz]) (by simp [go_sem, Act.put, hsz]) (hsl W)) ?_
    refine g_call (i := 10) 8 #[qv, .slice (some ⟨g, off, none⟩) r c] rfl (by kernel_rfl) (by simp [Region.wanted, yielded, Act.put, hsz]) (by simp [execOp, go_sem, Act.put, hsz, s3, s5, s7, hk1]) ((HEQ2.out _ hS0.below).mono ?_)
    rintro e u6 ⟨rfl, hb6⟩
    have hS6 := hS0.call hb6
    refine ⟨_, rfl, hS6, ?_⟩
    refine h_take (i := 11) (.bool b) rfl (by kernel_rfl) (by kernel_rfl) (by kernel_rfl) (fun _ _ _ h => h) rfl hS6 (fun W hW => by simp [execOp, go_sem, Act.put, hsz]) ?_
    refine wpAnyH_done (by kernel_rfl) ?_ _
    subst ha0
    have HM6 : Hid (Mm w u6 [(xh, 25, ncl qv (yp, yk, yq, ys)), (xn, 25, ncl (.slice (some ⟨g, off, none⟩) m c) n)]) := hS6
    clear hsz s3 s5 s7 hS0 hS6 hb6 hud HM HEQ2
    go_simp
    cases b with
    | false =>
      have HY : Hid (fh (tr L) I (k + 1)) := HNx.out (by rw [hk1]; rfl)
      have HQ : Hid (Mm w u6 [(xn, 25, ncl (.slice (some ⟨g, off, none⟩) m c) n)]) := HM6.out.sub (.cons _ (List.Sublist.refl _))
      clear HHt HNx HM6
      go_wp2
      go_roundw
      case rel => exact ⟨k + 1, by omega, by go_num, HQ.out, HY.out⟩
      case measure => simp [intOf]; omega
    | true =>
      have HQ : Hid (R = decide (x ≤ yq)) := HHt.out (by rw [hk1]; rfl)
      obtain ⟨d, hd⟩ : ∃ d, decide (x ≤ yq) = d := ⟨_, rfl⟩
      have HQ2 : Hid (R = d) := by rw [← hd]; exact HQ.out
      clear HHt HNx HQ
      go_upto_region 8 with (fail)
      refine wp_abs (fun a0 => a0.tmps.size = 46 ∧ (∀ h, a0.tmps[3]'h = .pointer (some ⟨xn, 0, none⟩)) ∧ (∀ h, a0.tmps[5]'h = .int .i64 (r : Int)) ∧ (∀ h, a0.tmps[7]'h = .pointer (some ⟨xh, 0, none⟩))) ⟨rfl, fun _ => rfl, fun _ => rfl, fun _ => rfl⟩ ?_
      rintro a0 ⟨hsz, s3, s5, s7⟩ ha0
      refine wp_region_held (S := fun W => Mm w W [(xh, 25, ncl qv (yp, yk, yq, ys)), (xn, 25, ncl (.slice (some ⟨g, off, none⟩) m c) n)]) (by kernel_rfl) ?_
      obtain ⟨ue, hue⟩ : ∃ ue, u6.drew = ue := ⟨_, rfl⟩
      have hS0 : Mm w ue [(xh, 25, ncl qv (yp, yk, yq, ys)), (xn, 25, ncl (.slice (some ⟨g, off, none⟩) m c) n)] := by rw [← hue]; exact HM6.out.drew
      show wpAnyH _ _ _ _ _ _ _ _ u6.drew
      rw [hue]
      refine h_take (i := 0) (.pointer (some ⟨xn, 0, none⟩)) rfl (by kernel_rfl) (by kernel_rfl) (by kernel_rfl) (fun _ _ _ h => h) rfl hS0 (fun W hW => by simp [execOp, go_sem, Act.put, hsz, s3, s5, s7, hr5, hd]) ?_
      refine h_take (i := 1) (.slice (some ⟨g, off, none⟩) m c) rfl (by kernel_rfl) (by kernel_rfl) (by kernel_rfl) (fun _ _ _ h => h) rfl hS0 (fun W hW => ex_getv (p := ⟨xn, 0, none⟩) rfl (.inr rfl) (by simp [go_sem, Act.put, hsz]) (bv_cell hW.at1 rfl)) ?_
      refine h_take (i := 2) (.int .i64 (r : Int)) rfl (by kernel_rfl) (by kernel_rfl) (by kernel_rfl) (fun _ _ _ h => h) rfl hS0 (fun W hW => by simp [execOp, go_sem, Act.put, hsz, s3, s5, s7, hr5, hd]) ?_
      refine h_take (i := 3) (.pointer (some ⟨g, off + r, none⟩)) rfl (by kernel_rfl) (by kernel_rfl) (by kernel_rfl) (fun _ _ _ h => h) rfl hS0 (fun W hW => by simp [execOp, go_sem, Act.put, hsz, s3, s5, s7, hr5, hd]) ?_
      refine h_take (i := 4) (.int .i64 x) rfl (by kernel_rfl) (by kernel_rfl) (by kernel_rfl) (fun _ _ _ h => h) rfl hS0 (fun W hW => ex_getv (p := ⟨g, off + r, none⟩) rfl (.inl rfl) (by simp [go_sem, Act.put, hsz]) (HCL.out W hW.below)) ?_
      refine h_take (i := 5) (.pointer (some ⟨xh, 2, none⟩)) rfl (by kernel_rfl) (by kernel_rfl) (by kernel_rfl) (fun _ _ _ h => h) rfl hS0 (fun W hW => by simp [execOp, go_sem, Act.put, hsz, s3, s5, s7, hr5, hd]) ?_
      refine h_take (i := 6) (.int .i64 yq) rfl (by kernel_rfl) (by kernel_rfl) (by kernel_rfl) (fun _ _ _ h => h) rfl hS0 (fun W hW => ex_getv (p := ⟨xh, 2, none⟩) rfl (.inl rfl) (by simp [go_sem, Act.put, hsz]) (bv_cell hW.at0 rfl)) ?_
      refine h_take (i := 7) (.bool d) rfl (by kernel_rfl) (by kernel_rfl) (by kernel_rfl) (fun _ _ _ h => h) rfl hS0 (fun W hW => by simp [execOp, go_sem, Act.put, hsz, s3, s5, s7, hr5, hd]) ?_
      refine h_take (i := 8) (.bool d) rfl (by kernel_rfl) (by kernel_rfl) (by kernel_rfl) (fun _ _ _ h => h) rfl hS0 (fun W hW => by simp [execOp, go_sem, Act.put, hsz, s3, s5, s7, hr5, hd]) ?_
      refine wpAnyH_done (by kernel_rfl) ?_ _
      subst ha0
      have HB6 : Hid (Below w.heap.size w ue) := hS0.below
      clear hsz s3 s5 s7 hS0 hue HM6
      go_simp
      go_wp2
      go_ret
      rw [HQ2.out]
      exact ⟨rfl, HB6.out⟩
end Go.Proofs.Ytemlafdmeaobfab.topo
