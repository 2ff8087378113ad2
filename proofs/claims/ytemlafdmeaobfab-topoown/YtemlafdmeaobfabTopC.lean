/- topo: what has, fits, isInOrder, doAllFit and Check answer. -/
import Derived.Test.YtemlafdmeaobfabTopB
import Derived.Test.YtemlafdmeaobfabTopG
import Derived.Shelf.Abstract
namespace Go.Proofs.Ytemlafdmeaobfab.topo
open Go Go.RowKit Go.Proofs.Ytemlafdmeaobfab.route
set_option linter.unusedVariables false
set_option linter.unusedSimpArgs false
set_option maxRecDepth 100000

def ok48 (L : NL) : Prop := ∀ q ∈ L, q.2.1.length ≤ 17592186048000
set_option maxHeartbeats 4000000 in
theorem has_any (v pv : Value) (L : NL) (p : List Int) (w : World) (h : Rt w v L) (hp : Ris w pv p) (hl : ok48 L) : Calls Try.prog 25 #[v, pv] w fun e u => e = .returned (.bool (fnB (tr L) p)) ∧ Below w.heap.size w u := by
  have HC : Hid (Calls Try.prog 15 #[v, pv] w fun e u => ∃ v', e = .returned (.tuple #[agv (ncl v' (fnN (tr L) p)), .bool (fnB (tr L) p)]) ∧ On u w.heap.size v' (fnN (tr L) p) ∧ Below w.heap.size w u) := find_any v pv L p w h hp hl
  obtain ⟨rN, hrN⟩ : ∃ r, fnN (tr L) p = r := ⟨_, rfl⟩
  obtain ⟨rB, hrB⟩ : ∃ r, fnB (tr L) p = r := ⟨_, rfl⟩
  rw [hrN, hrB] at HC
  rw [hrB]
  have hM := Mm.nil w
  clear h hp hl hrN hrB
  go_enter Try.func25, Try.ntmps25
  repeat' (first | go_values | go_skip | go_guarded | go_step | go_upon | (simp only [Int.not_lt, Int.not_le] at *; go_simp))
  refine HC.out.mono ?_
  rintro e u1 ⟨v', rfl, ho, hb⟩
  replace hM := hM.call hb
  have HV : Hid (Vs (ncl v' rN) 4) := ncl_vs rN (ris_one ho.ris)
  clear ho hb HC
  repeat' (first | (go_big_may; first | (refine v_alloc rfl zer_node rfl ?_; intro u xn hN; replace hM := hM.new hN; clear hN) | (refine v_fill rfl rfl row_node rfl rfl hM.at0 HV.out rfl ?_; intro u hv hc; replace hM := hM.put0 hc hv; clear hv hc)) | go_values | go_skip | go_guarded | go_step | go_upon | (simp only [Int.not_lt, Int.not_le] at *; go_simp))
  go_ret
  exact ⟨rfl, hM.below⟩
theorem prt_is (T : List Nd) (p : List Int) : prt T p = (fnN T p).2.2.1 := by
  unfold prt fnN
  cases fnd T p <;> rfl
theorem lst_at {p : List Int} {r : Nat} (h : p.length = r + 1) : p[r]? = some (lst p) := by
  unfold lst
  rw [List.getD_eq_getElem?_getD, show p.length - 1 = r by omega, List.getElem?_eq_getElem (by omega)]
  rfl
theorem ini_is {p : List Int} {r : Nat} (h : p.length = r + 1) : ini p = p.take r := by
  unfold ini
  rw [show p.length - 1 = r by omega]
set_option maxHeartbeats 4000000 in
theorem fits_any (v nv : Value) (L : NL) (n : Nd) (w : World) (h : Rt w v L) (hp : Ris w nv n.1) (hl : ok48 L) (h1 : 1 ≤ n.1.length) (h6 : n.1.length ≤ 6) : Calls Try.prog 31 #[v, agv (ncl nv n)] w fun e u => e = .returned (.bool (fit (tr L) n)) ∧ Below w.heap.size w u := by
  obtain ⟨r, hr⟩ : ∃ r, n.1.length = r + 1 := ⟨n.1.length - 1, by omega⟩
  obtain ⟨a, c, rfl, hlc, hcm⟩ := hp.form
  have hla := lst_at hr
  have hin := ini_is hr
  have HCL : Hid (∀ u, Below w.heap.size w u → ∃ g off, a = some ⟨g, off, none⟩ ∧ u.cell? ⟨g, off + r, none⟩ = some (.int .i64 (lst n.1))) := fun u hb => (hp.below hb).at r _ hla
  obtain ⟨hsl, hup⟩ := Ris.upto hp r (by omega)
  have HC : Hid (∀ u, Below w.heap.size w u → Calls Try.prog 15 #[v, .slice a r c] u fun e u' => ∃ v', e = .returned (.tuple #[agv (ncl v' (fnN (tr L) (ini n.1))), .bool (fnB (tr L) (ini n.1))]) ∧ On u' u.heap.size v' (fnN (tr L) (ini n.1)) ∧ Below u.heap.size u u') := fun u hb => find_any v (.slice a r c) L (ini n.1) u (h.below hb) (by rw [hin]; exact hup.below hb) hl
  have HF : Hid (fit (tr L) n = if r = 0 then decide (lst n.1 ≤ 4) else decide (lst n.1 ≤ (fnN (tr L) (ini n.1)).2.2.1)) := by
    show _ = _
    unfold fit
    rw [prt_is, hr]
    by_cases e : r = 0
    · rw [if_pos e, if_pos (by omega)]
    · rw [if_neg e, if_neg (by omega)]
  obtain ⟨b, hb⟩ : ∃ b, fit (tr L) n = b := ⟨_, rfl⟩
  rw [hb] at HF ⊢
  obtain ⟨rN, hrN⟩ : ∃ r, fnN (tr L) (ini n.1) = r := ⟨_, rfl⟩
  obtain ⟨rB, hrB⟩ : ∃ r, fnB (tr L) (ini n.1) = r := ⟨_, rfl⟩
  obtain ⟨x, hx⟩ : ∃ x, lst n.1 = x := ⟨_, rfl⟩
  simp only [hrN, hrB, hx] at HC HF HCL
  rw [hr] at hlc hsl ⊢
  obtain ⟨m, hm⟩ : ∃ m, r + 1 = m := ⟨_, rfl⟩
  rw [hm] at hlc hsl ⊢
  have hmr : (m : Int) - 1 = (r : Int) := by omega
  have hr5 : r < m := by omega
  have hm6 : m ≤ 6 := by omega
  have G0 : Hid ((ncl (.slice a m c) n)[0]? = some (.slice a m c)) := rfl
  unfold maxLen at hcm
  have hM := Mm.nil w
  obtain ⟨g, off, rfl, _⟩ := HCL.out w (Below.refl _ _)
  have HCL2 : Hid (∀ u, Below w.heap.size w u → u.cell? ⟨g, off + r, none⟩ = some (.int .i64 x)) := fun u hb => by
    obtain ⟨g', off', e, hc⟩ := HCL.out u hb
    injection e with e
    injection e with e1 e2 _
    subst e1 e2
    exact hc
  clear h hp hl hla hin hup hb hrN hrB hx hr hm h1 h6 HCL
  by_cases hr0 : r = 0
  · have HQ : decide (x ≤ 4) = b := by have := HF.out; rw [if_pos hr0] at this; exact this.symm
    have hr1 : ((r : Int) == 0) = true := by rw [beq_iff_eq]; omega
    clear HF hr0
    go_enter Try.func31, Try.ntmps31
    repeat' (first | (go_big_may; first | (refine v_box rfl rfl rfl ?_; intro u xn hN; replace hM := hM.new hN; clear hN) | (refine v_get rfl rfl (.inr rfl) rfl hM.at0 G0.out ?_) | (refine v_cel rfl rfl (.inl rfl) rfl (HCL2.out _ hM.below) ?_)) | go_values | go_skip | go_guarded | go_step | go_upon | (simp only [Int.not_lt, Int.not_le] at *; go_simp))
    go_ret
    exact ⟨rfl, hM.below⟩
  · have HQ : decide (x ≤ rN.2.2.1) = b := by have := HF.out; rw [if_neg hr0] at this; exact this.symm
    obtain ⟨np, nk, nq, ns⟩ := rN
    simp only at HQ
    have hr1 : ((r : Int) == 0) = false := by rw [beq_eq_false_iff_ne]; omega
    clear HF hr0
    go_enter Try.func31, Try.ntmps31
    repeat' (first | (go_big_may; first | (refine v_box rfl rfl rfl ?_; intro u xn hN; replace hM := hM.new hN; clear hN) | (refine v_get rfl rfl (.inr rfl) rfl hM.at0 G0.out ?_) | (refine v_cel rfl rfl (.inl rfl) rfl (HCL2.out _ hM.below) ?_)) | go_values | go_skip | go_guarded | go_step | go_upon | (simp only [Int.not_lt, Int.not_le] at *; go_simp))
    refine (HC.out _ hM.below).mono ?_
    rintro e u1 ⟨v', rfl, ho, hb⟩
    replace hM := hM.call hb
    have HV : Hid (Vs (ncl v' (np, nk, nq, ns)) 4) := ncl_vs _ (ris_one ho.ris)
    have G2 : Hid ((ncl v' (np, nk, nq, ns))[2]? = some (.int .i64 nq)) := rfl
    clear ho hb HC
    repeat' (first | (go_big_may; first | (refine v_alloc rfl zer_node rfl ?_; intro u xh hN; replace hM := hM.new hN; clear hN) | (refine v_fill rfl rfl row_node rfl rfl hM.at0 HV.out rfl ?_; intro u hv hc; replace hM := hM.put0 hc hv; clear hv hc) | (refine v_get rfl rfl (.inl rfl) rfl hM.at0 G2.out ?_)) | go_values | go_skip | go_guarded | go_step | go_upon | (simp only [Int.not_lt, Int.not_le] at *; go_simp))
    go_ret
    exact ⟨rfl, hM.below⟩
/-- each is ahead of the next, from the k-th on -/
theorem inO_at {T : List Nd} {k : Nat} {x y : Nd} (hx : T[k]? = some x) (hy : T[k + 1]? = some y) : inO (T.drop k) = (decide (odr x.1 y.1 < 0) && inO (T.drop (k + 1))) := by
  obtain ⟨h1, e1⟩ := List.getElem?_eq_some_iff.1 hx
  obtain ⟨h2, e2⟩ := List.getElem?_eq_some_iff.1 hy
  rw [List.drop_eq_getElem_cons h1, List.drop_eq_getElem_cons h2, e1, e2]
  rfl
theorem inO_end {T : List Nd} {k : Nat} (h : T.length ≤ k + 1) : inO (T.drop k) = true := by
  have : (T.drop k).length ≤ 1 := by rw [List.length_drop]; omega
  match hq : T.drop k, this with
  | [], _ => rfl
  | [_], _ => rfl
  | _ :: _ :: _, h => simp at h
set_option maxHeartbeats 4000000 in
theorem isInOrder_any (v : Value) (L : NL) (w : World) (h : Rt w v L) (hl : L.length ≤ 1000) : Calls Try.prog 36 #[v] w fun e u => e = .returned (.bool (inO (tr L))) ∧ Below w.heap.size w u := by
  obtain ⟨a, c, rfl, hlc, hcm⟩ := h.form
  have HAT : Hid (∀ k q, L[k]? = some q → ∃ g off, a = some ⟨g, off, none⟩ ∧ ∀ u, Below w.heap.size w u → u.rangeAt g (off + k * 4) (ncl q.1 q.2) ∧ Ris u q.1 q.2.1) := fun k q hq => h.at k q hq
  obtain ⟨n, hn⟩ : ∃ n, L.length = n := ⟨_, rfl⟩
  have HN : Hid (L.length = n ∧ (tr L).length = n) := ⟨hn, by rw [tr_len, hn]⟩
  obtain ⟨R, hR⟩ : ∃ R, inO (tr L) = R := ⟨_, rfl⟩
  have HR0 : Hid (inO ((tr L).drop 0) = R) := hR
  rw [hn] at hlc hl ⊢
  rw [hR]
  unfold maxLen at hcm
  clear h hn hR
  go_enter Try.func36, Try.ntmps36
  go_wp2
  go_loopw [3] (fun i wr => ∃ k : Nat, (k ≤ n ∨ k = 0) ∧ i = .int .i64 ((k + 1 : Nat) : Int) ∧ Hid (Below w.heap.size w wr ∧ inO ((tr L).drop k) = R)) (fun i _ => n + 1 - (intOf i).toNat)
  case atStart => exact ⟨0, .inr rfl, rfl, Below.refl _ _, HR0.out⟩
  case round =>
    clear HR0
    obtain ⟨k, hk, rfl, HA⟩ := hrel
    obtain ⟨K, hK⟩ : ∃ K, k + 1 = K := ⟨_, rfl⟩
    rw [hK]
    have HB : Hid (Below w.heap.size w wr) := HA.out.1
    have HO : Hid (inO ((tr L).drop k) = R) := HA.out.2
    clear HA
    have hK1 : (K : Int) - 1 = (k : Int) := by omega
    have hKb : K ≤ 1001 := by omega
    by_cases hlt : ¬ K < n
    · have HQ : Hid (R = true) := by
        show R = true
        rw [← HO.out]
        exact inO_end (by have := HN.out; omega)
      clear HO
      go_wp2
      go_ret
      rw [HQ.out]
      exact ⟨rfl, HB.out⟩
    have hlt : K < n := by omega
    obtain ⟨⟨qv, m⟩, hq⟩ : ∃ q, L[k]? = some q := ⟨_, List.getElem?_eq_getElem (by have := HN.out; omega)⟩
    obtain ⟨⟨qv2, m2⟩, hq2⟩ : ∃ q, L[k + 1]? = some q := ⟨_, List.getElem?_eq_getElem (by have := HN.out; omega)⟩
    obtain ⟨g, off, rfl, hat⟩ := HAT.out k _ hq
    obtain ⟨g', off', e, hat2⟩ := HAT.out (k + 1) _ hq2
    injection e with e
    injection e with e1 e2 _
    subst e1 e2
    rw [hK] at hat2
    have HR1 : Hid (∀ u, Below w.heap.size w u → u.rangeAt g (off + k * 4) (ncl qv m)) := fun u hb => (hat u hb).1
    have HR2 : Hid (∀ u, Below w.heap.size w u → u.rangeAt g (off + K * 4) (ncl qv2 m2)) := fun u hb => (hat2 u hb).1
    have HOR : Hid (∀ u, Below w.heap.size w u → Calls Try.prog 18 #[agv (ncl qv m), agv (ncl qv2 m2)] u fun e u' => e = .returned (.int .i64 (odr m.1 m2.1)) ∧ Below u.heap.size u u') := fun u hb => order_any2 qv qv2 m m2 u (hat u hb).2 (hat2 u hb).2
    have hio := inO_at (tr_at hq) (tr_at hq2)
    simp only at hio
    have HO2 : Hid ((decide (odr m.1 m2.1 < 0) && inO ((tr L).drop (k + 1))) = R) := by rw [← hio]; exact HO.out
    obtain ⟨z, hz⟩ : ∃ z, odr m.1 m2.1 = z := ⟨_, rfl⟩
    simp only [hz] at HOR HO2
    have hkn : k < n := by omega
    have hw : IntKind.i64.wrap (k : Int) = (k : Int) := by rw [IntKind.wrap_i64]; omega
    clear HO hat hat2 hq hq2 hio hz
    go_upto_region 4 with (fail)
    refine wp_abs (fun a0 => a0.tmps.size = 21 ∧ (∀ h, a0.tmps[0]'h = .slice (some ⟨g, off, none⟩) n c) ∧ (∀ h, a0.tmps[3]'h = .int .i64 (K : Int))) ⟨rfl, fun _ => rfl, fun _ => rfl⟩ ?_
    rintro a0 ⟨hsz, s0, s3⟩ ha0
    refine wp_region_held (S := fun W => Below w.heap.size w W) (by kernel_rfl) ?_
    obtain ⟨ud, hud⟩ : ∃ ud, wr.drew = ud := ⟨_, rfl⟩
    have hS0 : Below w.heap.size w ud := by rw [← hud]; exact HB.out.drew
    show wpAnyH _ _ _ _ _ _ _ _ wr.drew
    rw [hud]
    refine h_take (i := 0) (.slice (some ⟨g, off, none⟩) n c) rfl (by kernel_rfl) (by kernel_rfl) (by kernel_rfl) (fun _ _ _ h => h) rfl hS0 (fun W hW => by simp [execOp, go_sem, Act.put, hsz, s0, s3, hlt, hkn, hK1, hw]) ?_
    refine h_take (i := 1) (.int .i64 (K : Int)) rfl (by kernel_rfl) (by kernel_rfl) (by kernel_rfl) (fun _ _ _ h => h) rfl hS0 (fun W hW => by simp [execOp, go_sem, Act.put, hsz, s0, s3, hlt, hkn, hK1, hw]) ?_
    refine h_take (i := 2) (.int .i64 (k : Int)) rfl (by kernel_rfl) (by kernel_rfl) (by kernel_rfl) (fun _ _ _ h => h) rfl hS0 (fun W hW => by simp [execOp, go_sem, Act.put, hsz, s0, s3, hlt, hkn, hK1, hw]) ?_
    refine h_take (i := 3) (.pointer (some ⟨g, off + k * 4, none⟩)) rfl (by kernel_rfl) (by kernel_rfl) (by kernel_rfl) (fun _ _ _ h => h) rfl hS0 (fun W hW => by simp [execOp, go_sem, Act.put, hsz, s0, s3, hlt, hkn, hK1, hw]) ?_
    refine h_take (i := 4) (agv (ncl qv m)) rfl (by kernel_rfl) (by kernel_rfl) (by kernel_rfl) (fun _ _ _ h => h) rfl hS0 (fun W hW => ex_ldR rfl row_node (by simp [go_sem, Act.put, hsz]) (HR1.out W hW) rfl) ?_
    refine h_take (i := 5) (.slice (some ⟨g, off, none⟩) n c) rfl (by kernel_rfl) (by kernel_rfl) (by kernel_rfl) (fun _ _ _ h => h) rfl hS0 (fun W hW => by simp [execOp, go_sem, Act.put, hsz, s0, s3, hlt, hkn, hK1, hw]) ?_
    refine h_take (i := 6) (.int .i64 (K : Int)) rfl (by kernel_rfl) (by kernel_rfl) (by kernel_rfl) (fun _ _ _ h => h) rfl hS0 (fun W hW => by simp [execOp, go_sem, Act.put, hsz, s0, s3, hlt, hkn, hK1, hw]) ?_
    refine h_take (i := 7) (.pointer (some ⟨g, off + K * 4, none⟩)) rfl (by kernel_rfl) (by kernel_rfl) (by kernel_rfl) (fun _ _ _ h => h) rfl hS0 (fun W hW => by simp [execOp, go_sem, Act.put, hsz, s0, s3, hlt, hkn, hK1, hw]) ?_
    refine h_take (i := 8) (agv (ncl qv2 m2)) rfl (by kernel_rfl) (by kernel_rfl) (by kernel_rfl) (fun _ _ _ h => h) rfl hS0 (fun W hW => ex_ldR rfl row_node (by simp [go_sem, Act.put, hsz]) (HR2.out W hW) rfl) ?_
    refine h_call (i := 9) 18 #[agv (ncl qv m), agv (ncl qv2 m2)] rfl (by kernel_rfl) rfl (by simp [execOp, go_sem, Act.put, hsz, s0, s3, hlt, hkn, hK1, hw]) ((HOR.out _ hS0).mono ?_)
    rintro e u6 ⟨rfl, hb6⟩
    have hS6 : Below w.heap.size w u6 := bsq hS0 hb6
    refine ⟨_, rfl, hS6, ?_⟩
    refine h_take (i := 10) (.bool (decide (0 ≤ z))) rfl (by kernel_rfl) (by kernel_rfl) (by kernel_rfl) (fun _ _ _ h => h) rfl hS6 (fun W hW => by simp [execOp, go_sem, Act.put, hsz, s0, s3, hlt, hkn, hK1, hw]) ?_
    refine wpAnyH_done (by kernel_rfl) ?_ _
    subst ha0
    have HB6 : Hid (Below w.heap.size w u6) := hS6
    clear hsz s0 s3 hS0 hS6 hb6 hud HB HOR HR1 HR2 hw
    go_simp
    by_cases hz : z < 0
    · have dz : decide (0 ≤ z) = false := decide_eq_false (by omega)
      rw [dz]
      have HQ : Hid (inO ((tr L).drop (k + 1)) = R) := by have := HO2.out; rw [decide_eq_true hz, Bool.true_and] at this; exact this
      clear HO2 hz dz
      go_wp2
      go_roundw
      case rel => exact ⟨k + 1, .inl (by omega), by rw [hK]; go_num, HB6.out, HQ.out⟩
      case measure => simp [intOf]; omega
    · have dz : decide (0 ≤ z) = true := decide_eq_true (by omega)
      rw [dz]
      have HQ : Hid (R = false) := by have := HO2.out; rw [decide_eq_false hz, Bool.false_and] at this; exact this.symm
      clear HO2 hz dz
      go_wp2
      go_ret
      rw [HQ.out]
      exact ⟨rfl, HB6.out⟩
end Go.Proofs.Ytemlafdmeaobfab.topo
