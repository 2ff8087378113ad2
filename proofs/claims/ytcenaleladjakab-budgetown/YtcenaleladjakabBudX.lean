/- budget: what Load answers. -/
import Derived.Test.YtcenaleladjakabBudV
namespace Go.Proofs.Ytcenaleladjakab.budget
open Go Go.RowKit
set_option linter.unusedVariables false
set_option linter.unusedSimpArgs false
set_option maxRecDepth 100000

set_option maxHeartbeats 8000000 in
theorem load_ok (v pv : Value) (P : List Int) (T : List Bi) (m : Int) (F : Nat) (w : World) (hv : Ris w v P) (hp : Rbs w pv T) (hck : chkP P T m = 0) (hF : (F : Int) ≤ 9223372036854775807) :
    Calls Try.prog 10 #[v, pv, .int .i64 m, .int .i64 (F : Int)] w fun e u => ∃ tv, e = .returned (.tuple #[tv, .int .i64 0]) ∧ Iw u w.heap.size tv (ldA (ensI P T) F m.toNat) ∧ Below w.heap.size w u := by
  have HCK : Hid (Calls Try.prog 17 #[v, pv, .int .i64 m] w fun e u => e = .returned (.int .i64 0) ∧ Below w.heap.size w u) := by have := checkP_any v pv P T m w hv hp; rw [hck] at this; exact this
  obtain ⟨M, rfl, hM1, hM8, hl, hP, hT, hA, _, hE⟩ := chkP_ok hck
  rw [Int.toNat_natCast]
  obtain ⟨a, c, rfl, hlc, hcm⟩ := hv.form
  obtain ⟨a2, c2, rfl, hlc2, hcm2⟩ := hp.form
  rw [hT] at hp hlc2 HCK ⊢
  have HC := pl_cells hv hp hT hP hA
  have HC2 : Hid (∀ k, k < P.length → ∃ p ln ph : Nat, 1 ≤ p ∧ p ≤ 32 ∧ ln < 8 ∧ ph < 32 ∧ (ensI P T).getD k (0, 0, 0) = (p, ln, ph) ∧ (∃ g off, a = some ⟨g, off, none⟩ ∧ ∀ u, Below w.heap.size w u → u.cell? ⟨g, off + k, none⟩ = some (.int .i64 (p : Int))) ∧ (∃ g off, a2 = some ⟨g, off, none⟩ ∧ ∀ u, Below w.heap.size w u → u.rangeAt g (off + k * 2) (ivs [(ln : Int), (ph : Int)]))) := fun k hk => by
    obtain ⟨⟨p, ln, ph⟩, h1, h2, h3, h4⟩ := HC k hk
    have q := okp_le h2.ok
    have q1 : ln < M := h2.ln
    have q2 : ph < p := h2.ph
    refine ⟨p, ln, ph, q.1, q.2, by omega, by have := q.2; omega, ?_, h3, h4⟩
    rw [List.getD_eq_getElem?_getD, h1]
    rfl
  clear HC
  obtain ⟨E, hEE⟩ : ∃ E, ensI P T = E := ⟨_, rfl⟩
  rw [hEE] at HC2 hE ⊢
  obtain ⟨n, hn⟩ : ∃ n, P.length = n := ⟨_, rfl⟩
  rw [hn] at HC2 HCK hE hl hlc hlc2 ⊢
  have HEn : Hid (E.length = n) := hE
  have HLB : Hid (∀ l k, l ≤ 8 → k ≤ n → (ldA E F l ++ ldR E F l k).length ≤ 1000) := fun l k h1 h2 => by
    have q1 := ldA_len E F l
    have q2 := ldR_len E F l k
    rw [hE] at q1
    have : l * n ≤ 8 * 64 := Nat.mul_le_mul h1 hl
    rw [List.length_append]
    omega
  unfold maxLen at hcm hcm2
  clear hv hp hck hP hT hA hEE hn hE
  go_enter Try.func10, Try.ntmps10
  go_wp2_with fail
  refine (HCK.out).mono ?_
  rintro e u ⟨rfl, hb⟩
  have HM0 : Hid (MI w u [] (.slice none 0 0) (ldA E F 0)) := MI.nil ((Mm.nil w).call hb)
  clear hb HCK
  go_wp2
  go_loopw [11, 12, 13, 14, 25] (fun tv _ _ _ lv wr => ∃ l : Nat, l ≤ M ∧ lv = .int .i64 (l : Int) ∧ Hid (MI w wr [] tv (ldA E F l))) (fun _ _ _ _ lv _ => M - (intOf lv).toNat)
  case atStart => exact ⟨0, Nat.zero_le _, rfl, HM0.out⟩
  case round =>
    clear HM0
    obtain ⟨l, hlM, rfl, HA⟩ := hrel
    by_cases hlt : ¬ l < M
    · have hlm : l = M := by omega
      have HQ : Hid (Iw wr w.heap.size u11 (ldA E F M) ∧ Below w.heap.size w wr) := ⟨by rw [← hlm]; exact HA.out.iw, HA.out.below⟩
      clear HA HC2 HLB HEn
      go_wp2
      go_ret2
      exact ⟨_, rfl, HQ.out⟩
    have hlt : l < M := by omega
    have HA2 : Hid (MI w wr [] u11 (ldA E F l ++ ldR E F l 0)) := by have := HA.out; show MI _ _ _ _ _; simpa [ldR] using this
    clear HA
    go_wp2
    go_loopw [11, 13, 14, 30] (fun tv _ _ kv wr => ∃ k : Nat, k ≤ n ∧ kv = .int .i64 (k : Int) ∧ Hid (MI w wr [] tv (ldA E F l ++ ldR E F l k))) (fun _ _ _ kv _ => n - (intOf kv).toNat)
    case atStart => exact ⟨0, Nat.zero_le _, rfl, HA2.out⟩
    case round =>
      clear HA2
      obtain ⟨k, hk, rfl, HA⟩ := hrel
      by_cases hkn : ¬ k < n
      · have HQ : Hid (MI w wr [] u11 (ldA E F (l + 1))) := by
          have := HA.out
          rw [show k = n by omega] at this
          rw [ldA_next, HEn.out]
          exact this
        clear HA HC2 HLB
        go_wp2
        go_roundw
        case rel => exact ⟨l + 1, by omega, by go_num, HQ.out⟩
        case measure => simp [intOf]; omega
      have hkn : k < n := by omega
      obtain ⟨p, ln, ph, hp1, hp2, hln, hph, hx, ⟨g, off, rfl, hc⟩, ⟨g2, off2, rfl, hr⟩⟩ := HC2.out k hkn
      have HNX : Hid (ldR E F l (k + 1) = ldR E F l k ++ (if has l F (p, ln, ph) = true then [(k : Int)] else [])) := by have := ldR_next E F l k; rw [hx] at this; exact this
      have HLB2 : Hid ((ldA E F l ++ ldR E F l k).length ≤ 1000) := HLB.out l k (by omega) hk
      have hM := HA.out
      have HRG : Hid (wr.rangeAt g2 (off2 + k * 2) (ivs [(ln : Int), (ph : Int)])) := hr wr hM.below
      have HCL : Hid (∀ u, Below w.heap.size w u → u.cell? ⟨g, off + k, none⟩ = some (.int .i64 (p : Int))) := hc
      have HV : Hid (Vs (ivs [(ln : Int), (ph : Int)]) 2) := two_vs _ _
      have HV2 : Hid ((ivs [0, 0]).length = 2) := rfl
      obtain ⟨acc, hacc⟩ : ∃ acc, ldA E F l ++ ldR E F l k = acc := ⟨_, rfl⟩
      have HNY : Hid (ldA E F l ++ ldR E F l (k + 1) = acc ++ (if has l F (p, ln, ph) = true then [(k : Int)] else [])) := by show _ = _; rw [HNX.out, ← hacc, List.append_assoc]
      rw [hacc] at hM HLB2
      obtain ⟨q, hq⟩ : ∃ q, F % p = q := ⟨_, rfl⟩
      have hqf : q < p := by rw [← hq]; exact Nat.mod_lt _ (by omega)
      have t1 : ((F : Int)).tmod (p : Int) = (q : Int) := by rw [← hq, Int.tmod_eq_emod_of_nonneg (by omega)]; simp
      have t3 : IntKind.i64.wrap (q : Int) = (q : Int) := by rw [IntKind.wrap_i64]; omega
      have p0 : ((p : Int) == 0) = false := by simp; omega
      have p1 : ¬ (p : Int) = 0 := by omega
      have p2 : ¬ p = 0 := by omega
      have HHS : Hid (has l F (p, ln, ph) = (ln == l && q == ph)) := by show _ = _; unfold has; rw [hq]
      clear HA HC2 HLB hc hr HNX hacc hx hq
      repeat' (first | (go_big_may; first | (refine v_ldR rfl rfl row_berth rfl HRG.out rfl ?_) | (refine v_alloc rfl zer_berth rfl ?_; intro u zb hN; replace hM := hM.new hN; clear hN) | (refine v_fill rfl rfl row_berth rfl rfl hM.at0 HV.out HV2.out ?_; intro u hv hc; replace hM := hM.put0 hc hv; clear hv hc)) | go_values | go_skip | go_guarded | go_step | go_upon | (simp only [Int.not_lt, Int.not_le] at *; go_simp))
      have HM : Hid (MI w u [(zb, 33, ivs [(ln : Int), (ph : Int)])] u11 acc) := hM
      clear hM HRG HV HV2
      by_cases c1 : ln = l
      · have d1 : ((ln : Int) == (l : Int)) = true := by simp [c1]
        by_cases c2 : q = ph
        · have d2 : ((q : Int) == (ph : Int)) = true := by simp [c2]
          have HQ : Hid (ldA E F l ++ ldR E F l (k + 1) = acc ++ [(k : Int)]) := by show _ = _; rw [HNY.out, HHS.out, show (ln == l && q == ph) = true by simp [c1, c2]]; rfl
          clear HNY HHS
          clear c1 c2
          go_upto_region 13 with (fail)
          refine wp_abs (fun a0 => a0.tmps.size = 57 ∧ (∀ h, a0.tmps[0]'h = .slice (some ⟨g, off, none⟩) n c) ∧ (∀ h, a0.tmps[3]'h = .int .i64 (F : Int)) ∧ (∀ h, a0.tmps[12]'h = .int .i64 (l : Int)) ∧ (∀ h, a0.tmps[13]'h = .int .i64 (k : Int)) ∧ (∀ h, a0.tmps[14]'h = .pointer (some ⟨zb, 0, none⟩))) ⟨rfl, fun _ => rfl, fun _ => rfl, fun _ => rfl, fun _ => rfl, fun _ => rfl⟩ ?_
          rintro a0 ⟨hsz, s0, s3, s12, s13, s14⟩ ha0
          refine wp_region_held (S := fun W => MI w W [(zb, 33, ivs [(ln : Int), (ph : Int)])] u11 acc) (by kernel_rfl) ?_
          obtain ⟨ud, hud⟩ : ∃ ud, u.drew = ud := ⟨_, rfl⟩
          have hS0 : MI w ud [(zb, 33, ivs [(ln : Int), (ph : Int)])] u11 acc := by rw [← hud]; exact HM.out.drew
          show wpAnyH _ _ _ _ _ _ _ _ u.drew
          rw [hud]
          refine h_take (i := 0) (.pointer (some ⟨zb, 0, none⟩)) rfl (by kernel_rfl) (by kernel_rfl) (by kernel_rfl) (fun _ _ _ h => h) rfl hS0 (fun W hW => by simp [execOp, go_sem, Act.put, hsz, s0, s3, s12, s13, s14, hkn, t1, t3, p0, p1, p2, d1, d2]) ?_
          refine h_take (i := 1) (.int .i64 (ln : Int)) rfl (by kernel_rfl) (by kernel_rfl) (by kernel_rfl) (fun _ _ _ h => h) rfl hS0 (fun W hW => ex_getv (p := ⟨zb, 0, none⟩) rfl (.inl rfl) (by simp [go_sem, Act.put, hsz, hkn]) (bv_cell hW.at0 rfl)) ?_
          refine h_take (i := 2) (.int .i64 (l : Int)) rfl (by kernel_rfl) (by kernel_rfl) (by kernel_rfl) (fun _ _ _ h => h) rfl hS0 (fun W hW => by simp [execOp, go_sem, Act.put, hsz, s0, s3, s12, s13, s14, hkn, t1, t3, p0, p1, p2, d1, d2]) ?_
          refine h_take (i := 3) (.bool true) rfl (by kernel_rfl) (by kernel_rfl) (by kernel_rfl) (fun _ _ _ h => h) rfl hS0 (fun W hW => by simp [execOp, go_sem, Act.put, hsz, s0, s3, s12, s13, s14, hkn, t1, t3, p0, p1, p2, d1, d2]) ?_
          refine h_take (i := 4) (.bool true) rfl (by kernel_rfl) (by kernel_rfl) (by kernel_rfl) (fun _ _ _ h => h) rfl hS0 (fun W hW => by simp [execOp, go_sem, Act.put, hsz, s0, s3, s12, s13, s14, hkn, t1, t3, p0, p1, p2, d1, d2]) ?_
          refine g_take (i := 5) (.int .i64 (F : Int)) rfl (by kernel_rfl) (by kernel_rfl) (by kernel_rfl) (fun _ _ _ h => h) (by simp [Region.wanted, yielded, Act.put, hsz]) hS0 (fun W hW => by simp [execOp, go_sem, Act.put, hsz, s0, s3, s12, s13, s14, hkn, t1, t3, p0, p1, p2, d1, d2]) ?_
          refine g_take (i := 6) (.slice (some ⟨g, off, none⟩) n c) rfl (by kernel_rfl) (by kernel_rfl) (by kernel_rfl) (fun _ _ _ h => h) (by simp [Region.wanted, yielded, Act.put, hsz]) hS0 (fun W hW => by simp [execOp, go_sem, Act.put, hsz, s0, s3, s12, s13, s14, hkn, t1, t3, p0, p1, p2, d1, d2]) ?_
          refine g_take (i := 7) (.int .i64 (k : Int)) rfl (by kernel_rfl) (by kernel_rfl) (by kernel_rfl) (fun _ _ _ h => h) (by simp [Region.wanted, yielded, Act.put, hsz]) hS0 (fun W hW => by simp [execOp, go_sem, Act.put, hsz, s0, s3, s12, s13, s14, hkn, t1, t3, p0, p1, p2, d1, d2]) ?_
          refine g_take (i := 8) (.pointer (some ⟨g, off + k, none⟩)) rfl (by kernel_rfl) (by kernel_rfl) (by kernel_rfl) (fun _ _ _ h => h) (by simp [Region.wanted, yielded, Act.put, hsz]) hS0 (fun W hW => by simp [execOp, go_sem, Act.put, hsz, s0, s3, s12, s13, s14, hkn, t1, t3, p0, p1, p2, d1, d2]) ?_
          refine g_take (i := 9) (.int .i64 (p : Int)) rfl (by kernel_rfl) (by kernel_rfl) (by kernel_rfl) (fun _ _ _ h => h) (by simp [Region.wanted, yielded, Act.put, hsz]) hS0 (fun W hW => ex_getv (p := ⟨g, off + k, none⟩) rfl (.inl rfl) (by simp [go_sem, Act.put, hsz, hkn]) (HCL.out W hW.below)) ?_
          refine g_take (i := 10) (.int .i64 (q : Int)) rfl (by kernel_rfl) (by kernel_rfl) (by kernel_rfl) (fun _ _ _ h => h) (by simp [Region.wanted, yielded, Act.put, hsz]) hS0 (fun W hW => by simp [execOp, go_sem, Act.put, hsz, s0, s3, s12, s13, s14, hkn, t1, t3, p0, p1, p2, d1, d2]) ?_
          refine g_take (i := 11) (.pointer (some ⟨zb, 1, none⟩)) rfl (by kernel_rfl) (by kernel_rfl) (by kernel_rfl) (fun _ _ _ h => h) (by simp [Region.wanted, yielded, Act.put, hsz]) hS0 (fun W hW => by simp [execOp, go_sem, Act.put, hsz, s0, s3, s12, s13, s14, hkn, t1, t3, p0, p1, p2, d1, d2]) ?_
          refine g_take (i := 12) (.int .i64 (ph : Int)) rfl (by kernel_rfl) (by kernel_rfl) (by kernel_rfl) (fun _ _ _ h => h) (by simp [Region.wanted, yielded, Act.put, hsz]) hS0 (fun W hW => ex_getv (p := ⟨zb, 1, none⟩) rfl (.inl rfl) (by simp [go_sem, Act.put, hsz, hkn]) (bv_cell hW.at0 rfl)) ?_
          refine g_take (i := 13) (.bool true) rfl (by kernel_rfl) (by kernel_rfl) (by kernel_rfl) (fun _ _ _ h => h) (by simp [Region.wanted, yielded, Act.put, hsz]) hS0 (fun W hW => by simp [execOp, go_sem, Act.put, hsz, s0, s3, s12, s13, s14, hkn, t1, t3, p0, p1, p2, d1, d2]) ?_
          refine h_take (i := 14) (.bool true) rfl (by kernel_rfl) (by kernel_rfl) (by kernel_rfl) (fun _ _ _ h => h) rfl hS0 (fun W hW => by simp [execOp, go_sem, Act.put, hsz, s0, s3, s12, s13, s14, hkn, t1, t3, p0, p1, p2, d1, d2]) ?_
          refine wpAnyH_done (by kernel_rfl) ?_ _
          subst ha0
          have hM := hS0
          clear hsz s0 s3 s12 s13 s14 hS0 HM HCL hud
          go_simp
          repeat' (first | (go_big_may; first | (refine a_bs rfl rfl rfl ?_; intro u3 gb hb hcb; replace hM := hM.call hb; clear hb) | (refine a_app rfl rfl rfl rfl hM hcb HLB2.out ?_; intro u4 tv4 hM4; clear hM hcb)) | go_values | go_skip | go_guarded | go_step | go_upon | (simp only [Int.not_lt, Int.not_le] at *; go_simp))
          go_roundw
          case rel => exact ⟨k + 1, by omega, by go_num, by show MI _ _ _ _ _; rw [HQ.out]; exact hM4.sub (by simp)⟩
          case measure => simp [intOf]; omega
        · have d2 : ((q : Int) == (ph : Int)) = false := by simp; omega
          have HQ : Hid (ldA E F l ++ ldR E F l (k + 1) = acc) := by show _ = _; rw [HNY.out, HHS.out, show (ln == l && q == ph) = false by simp; omega]; simp
          clear HNY HHS
          clear c1 c2
          go_upto_region 13 with (fail)
          refine wp_abs (fun a0 => a0.tmps.size = 57 ∧ (∀ h, a0.tmps[0]'h = .slice (some ⟨g, off, none⟩) n c) ∧ (∀ h, a0.tmps[3]'h = .int .i64 (F : Int)) ∧ (∀ h, a0.tmps[12]'h = .int .i64 (l : Int)) ∧ (∀ h, a0.tmps[13]'h = .int .i64 (k : Int)) ∧ (∀ h, a0.tmps[14]'h = .pointer (some ⟨zb, 0, none⟩))) ⟨rfl, fun _ => rfl, fun _ => rfl, fun _ => rfl, fun _ => rfl, fun _ => rfl⟩ ?_
          rintro a0 ⟨hsz, s0, s3, s12, s13, s14⟩ ha0
          refine wp_region_held (S := fun W => MI w W [(zb, 33, ivs [(ln : Int), (ph : Int)])] u11 acc) (by kernel_rfl) ?_
          obtain ⟨ud, hud⟩ : ∃ ud, u.drew = ud := ⟨_, rfl⟩
          have hS0 : MI w ud [(zb, 33, ivs [(ln : Int), (ph : Int)])] u11 acc := by rw [← hud]; exact HM.out.drew
          show wpAnyH _ _ _ _ _ _ _ _ u.drew
          rw [hud]
          refine h_take (i := 0) (.pointer (some ⟨zb, 0, none⟩)) rfl (by kernel_rfl) (by kernel_rfl) (by kernel_rfl) (fun _ _ _ h => h) rfl hS0 (fun W hW => by simp [execOp, go_sem, Act.put, hsz, s0, s3, s12, s13, s14, hkn, t1, t3, p0, p1, p2, d1, d2]) ?_
          refine h_take (i := 1) (.int .i64 (ln : Int)) rfl (by kernel_rfl) (by kernel_rfl) (by kernel_rfl) (fun _ _ _ h => h) rfl hS0 (fun W hW => ex_getv (p := ⟨zb, 0, none⟩) rfl (.inl rfl) (by simp [go_sem, Act.put, hsz, hkn]) (bv_cell hW.at0 rfl)) ?_
          refine h_take (i := 2) (.int .i64 (l : Int)) rfl (by kernel_rfl) (by kernel_rfl) (by kernel_rfl) (fun _ _ _ h => h) rfl hS0 (fun W hW => by simp [execOp, go_sem, Act.put, hsz, s0, s3, s12, s13, s14, hkn, t1, t3, p0, p1, p2, d1, d2]) ?_
          refine h_take (i := 3) (.bool true) rfl (by kernel_rfl) (by kernel_rfl) (by kernel_rfl) (fun _ _ _ h => h) rfl hS0 (fun W hW => by simp [execOp, go_sem, Act.put, hsz, s0, s3, s12, s13, s14, hkn, t1, t3, p0, p1, p2, d1, d2]) ?_
          refine h_take (i := 4) (.bool true) rfl (by kernel_rfl) (by kernel_rfl) (by kernel_rfl) (fun _ _ _ h => h) rfl hS0 (fun W hW => by simp [execOp, go_sem, Act.put, hsz, s0, s3, s12, s13, s14, hkn, t1, t3, p0, p1, p2, d1, d2]) ?_
          refine g_take (i := 5) (.int .i64 (F : Int)) rfl (by kernel_rfl) (by kernel_rfl) (by kernel_rfl) (fun _ _ _ h => h) (by simp [Region.wanted, yielded, Act.put, hsz]) hS0 (fun W hW => by simp [execOp, go_sem, Act.put, hsz, s0, s3, s12, s13, s14, hkn, t1, t3, p0, p1, p2, d1, d2]) ?_
          refine g_take (i := 6) (.slice (some ⟨g, off, none⟩) n c) rfl (by kernel_rfl) (by kernel_rfl) (by kernel_rfl) (fun _ _ _ h => h) (by simp [Region.wanted, yielded, Act.put, hsz]) hS0 (fun W hW => by simp [execOp, go_sem, Act.put, hsz, s0, s3, s12, s13, s14, hkn, t1, t3, p0, p1, p2, d1, d2]) ?_
          refine g_take (i := 7) (.int .i64 (k : Int)) rfl (by kernel_rfl) (by kernel_rfl) (by kernel_rfl) (fun _ _ _ h => h) (by simp [Region.wanted, yielded, Act.put, hsz]) hS0 (fun W hW => by simp [execOp, go_sem, Act.put, hsz, s0, s3, s12, s13, s14, hkn, t1, t3, p0, p1, p2, d1, d2]) ?_
          refine g_take (i := 8) (.pointer (some ⟨g, off + k, none⟩)) rfl (by kernel_rfl) (by kernel_rfl) (by kernel_rfl) (fun _ _ _ h => h) (by simp [Region.wanted, yielded, Act.put, hsz]) hS0 (fun W hW => by simp [execOp, go_sem, Act.put, hsz, s0, s3, s12, s13, s14, hkn, t1, t3, p0, p1, p2, d1, d2]) ?_
          refine g_take (i := 9) (.int .i64 (p : Int)) rfl (by kernel_rfl) (by kernel_rfl) (by kernel_rfl) (fun _ _ _ h => h) (by simp [Region.wanted, yielded, Act.put, hsz]) hS0 (fun W hW => ex_getv (p := ⟨g, off + k, none⟩) rfl (.inl rfl) (by simp [go_sem, Act.put, hsz, hkn]) (HCL.out W hW.below)) ?_
          refine g_take (i := 10) (.int .i64 (q : Int)) rfl (by kernel_rfl) (by kernel_rfl) (by kernel_rfl) (fun _ _ _ h => h) (by simp [Region.wanted, yielded, Act.put, hsz]) hS0 (fun W hW => by simp [execOp, go_sem, Act.put, hsz, s0, s3, s12, s13, s14, hkn, t1, t3, p0, p1, p2, d1, d2]) ?_
          refine g_take (i := 11) (.pointer (some ⟨zb, 1, none⟩)) rfl (by kernel_rfl) (by kernel_rfl) (by kernel_rfl) (fun _ _ _ h => h) (by simp [Region.wanted, yielded, Act.put, hsz]) hS0 (fun W hW => by simp [execOp, go_sem, Act.put, hsz, s0, s3, s12, s13, s14, hkn, t1, t3, p0, p1, p2, d1, d2]) ?_
          refine g_take (i := 12) (.int .i64 (ph : Int)) rfl (by kernel_rfl) (by kernel_rfl) (by kernel_rfl) (fun _ _ _ h => h) (by simp [Region.wanted, yielded, Act.put, hsz]) hS0 (fun W hW => ex_getv (p := ⟨zb, 1, none⟩) rfl (.inl rfl) (by simp [go_sem, Act.put, hsz, hkn]) (bv_cell hW.at0 rfl)) ?_
          refine g_take (i := 13) (.bool false) rfl (by kernel_rfl) (by kernel_rfl) (by kernel_rfl) (fun _ _ _ h => h) (by simp [Region.wanted, yielded, Act.put, hsz]) hS0 (fun W hW => by simp [execOp, go_sem, Act.put, hsz, s0, s3, s12, s13, s14, hkn, t1, t3, p0, p1, p2, d1, d2]) ?_
          refine h_take (i := 14) (.bool false) rfl (by kernel_rfl) (by kernel_rfl) (by kernel_rfl) (fun _ _ _ h => h) rfl hS0 (fun W hW => by simp [execOp, go_sem, Act.put, hsz, s0, s3, s12, s13, s14, hkn, t1, t3, p0, p1, p2, d1, d2]) ?_
          refine wpAnyH_done (by kernel_rfl) ?_ _
          subst ha0
          have HB : Hid (MI w ud [] u11 acc) := hS0.sub (by simp)
          clear hsz s0 s3 s12 s13 s14 hS0 HM HCL hud HLB2
          go_simp
          go_wp2
          go_roundw
          case rel => exact ⟨k + 1, by omega, by go_num, by show MI _ _ _ _ _; rw [HQ.out]; exact HB.out⟩
          case measure => simp [intOf]; omega
      · have d1 : ((ln : Int) == (l : Int)) = false := by simp; omega
        have HQ : Hid (ldA E F l ++ ldR E F l (k + 1) = acc) := by show _ = _; rw [HNY.out, HHS.out, show (ln == l && q == ph) = false by simp; omega]; simp
        clear HNY HHS
        clear c1
        go_upto_region 13 with (fail)
        refine wp_abs (fun a0 => a0.tmps.size = 57 ∧ (∀ h, a0.tmps[0]'h = .slice (some ⟨g, off, none⟩) n c) ∧ (∀ h, a0.tmps[3]'h = .int .i64 (F : Int)) ∧ (∀ h, a0.tmps[12]'h = .int .i64 (l : Int)) ∧ (∀ h, a0.tmps[13]'h = .int .i64 (k : Int)) ∧ (∀ h, a0.tmps[14]'h = .pointer (some ⟨zb, 0, none⟩))) ⟨rfl, fun _ => rfl, fun _ => rfl, fun _ => rfl, fun _ => rfl, fun _ => rfl⟩ ?_
        rintro a0 ⟨hsz, s0, s3, s12, s13, s14⟩ ha0
        refine wp_region_held (S := fun W => MI w W [(zb, 33, ivs [(ln : Int), (ph : Int)])] u11 acc) (by kernel_rfl) ?_
        obtain ⟨ud, hud⟩ : ∃ ud, u.drew = ud := ⟨_, rfl⟩
        have hS0 : MI w ud [(zb, 33, ivs [(ln : Int), (ph : Int)])] u11 acc := by rw [← hud]; exact HM.out.drew
        show wpAnyH _ _ _ _ _ _ _ _ u.drew
        rw [hud]
        refine h_take (i := 0) (.pointer (some ⟨zb, 0, none⟩)) rfl (by kernel_rfl) (by kernel_rfl) (by kernel_rfl) (fun _ _ _ h => h) rfl hS0 (fun W hW => by simp [execOp, go_sem, Act.put, hsz, s0, s3, s12, s13, s14, hkn, t1, t3, p0, p1, p2, d1]) ?_
        refine h_take (i := 1) (.int .i64 (ln : Int)) rfl (by kernel_rfl) (by kernel_rfl) (by kernel_rfl) (fun _ _ _ h => h) rfl hS0 (fun W hW => ex_getv (p := ⟨zb, 0, none⟩) rfl (.inl rfl) (by simp [go_sem, Act.put, hsz, hkn]) (bv_cell hW.at0 rfl)) ?_
        refine h_take (i := 2) (.int .i64 (l : Int)) rfl (by kernel_rfl) (by kernel_rfl) (by kernel_rfl) (fun _ _ _ h => h) rfl hS0 (fun W hW => by simp [execOp, go_sem, Act.put, hsz, s0, s3, s12, s13, s14, hkn, t1, t3, p0, p1, p2, d1]) ?_
        refine h_take (i := 3) (.bool false) rfl (by kernel_rfl) (by kernel_rfl) (by kernel_rfl) (fun _ _ _ h => h) rfl hS0 (fun W hW => by simp [execOp, go_sem, Act.put, hsz, s0, s3, s12, s13, s14, hkn, t1, t3, p0, p1, p2, d1]) ?_
        refine h_take (i := 4) (.bool false) rfl (by kernel_rfl) (by kernel_rfl) (by kernel_rfl) (fun _ _ _ h => h) rfl hS0 (fun W hW => by simp [execOp, go_sem, Act.put, hsz, s0, s3, s12, s13, s14, hkn, t1, t3, p0, p1, p2, d1]) ?_
        refine g_pass (i := 5) rfl (by kernel_rfl) (by kernel_rfl) (by kernel_rfl) (fun _ _ _ h => h) (by simp [Region.wanted, yielded, Act.put, hsz]) hS0 ?_
        refine g_pass (i := 6) rfl (by kernel_rfl) (by kernel_rfl) (by kernel_rfl) (fun _ _ _ h => h) (by simp [Region.wanted, yielded, Act.put, hsz]) hS0 ?_
        refine g_pass (i := 7) rfl (by kernel_rfl) (by kernel_rfl) (by kernel_rfl) (fun _ _ _ h => h) (by simp [Region.wanted, yielded, Act.put, hsz]) hS0 ?_
        refine g_pass (i := 8) rfl (by kernel_rfl) (by kernel_rfl) (by kernel_rfl) (fun _ _ _ h => h) (by simp [Region.wanted, yielded, Act.put, hsz]) hS0 ?_
        refine g_pass (i := 9) rfl (by kernel_rfl) (by kernel_rfl) (by kernel_rfl) (fun _ _ _ h => h) (by simp [Region.wanted, yielded, Act.put, hsz]) hS0 ?_
        refine g_pass (i := 10) rfl (by kernel_rfl) (by kernel_rfl) (by kernel_rfl) (fun _ _ _ h => h) (by simp [Region.wanted, yielded, Act.put, hsz]) hS0 ?_
        refine g_pass (i := 11) rfl (by kernel_rfl) (by kernel_rfl) (by kernel_rfl) (fun _ _ _ h => h) (by simp [Region.wanted, yielded, Act.put, hsz]) hS0 ?_
        refine g_pass (i := 12) rfl (by kernel_rfl) (by kernel_rfl) (by kernel_rfl) (fun _ _ _ h => h) (by simp [Region.wanted, yielded, Act.put, hsz]) hS0 ?_
        refine g_pass (i := 13) rfl (by kernel_rfl) (by kernel_rfl) (by kernel_rfl) (fun _ _ _ h => h) (by simp [Region.wanted, yielded, Act.put, hsz]) hS0 ?_
        refine h_take (i := 14) (.bool false) rfl (by kernel_rfl) (by kernel_rfl) (by kernel_rfl) (fun _ _ _ h => h) rfl hS0 (fun W hW => by simp [execOp, go_sem, Act.put, hsz, s0, s3, s12, s13, s14, hkn, t1, t3, p0, p1, p2, d1]) ?_
        refine wpAnyH_done (by kernel_rfl) ?_ _
        subst ha0
        have HB : Hid (MI w ud [] u11 acc) := hS0.sub (by simp)
        clear hsz s0 s3 s12 s13 s14 hS0 HM HCL hud HLB2
        go_simp
        go_wp2
        go_roundw
        case rel => exact ⟨k + 1, by omega, by go_num, by show MI _ _ _ _ _; rw [HQ.out]; exact HB.out⟩
        case measure => simp [intOf]; omega
/-- what Load answers -/
def ldC (P : List Int) (T : List Bi) (m f : Int) : Int := if chkP P T m = 0 then (if f < 0 then 1 else 0) else chkP P T m
def ldV (P : List Int) (T : List Bi) (m f : Int) : List Int := if chkP P T m = 0 ∧ 0 ≤ f then ldA (ensI P T) f.toNat m.toNat else []
set_option maxHeartbeats 2000000 in
theorem load_any (v pv : Value) (P : List Int) (T : List Bi) (m f : Int) (w : World) (hv : Ris w v P) (hp : Rbs w pv T) (hf : f ≤ 9223372036854775807) :
    Calls Try.prog 10 #[v, pv, .int .i64 m, .int .i64 f] w fun e u => ∃ tv, e = .returned (.tuple #[tv, .int .i64 (ldC P T m f)]) ∧ Iw u w.heap.size tv (ldV P T m f) ∧ Below w.heap.size w u := by
  have HC : Hid (Calls Try.prog 17 #[v, pv, .int .i64 m] w fun e u => e = .returned (.int .i64 (chkP P T m)) ∧ Below w.heap.size w u) := checkP_any v pv P T m w hv hp
  unfold ldC ldV
  by_cases h0 : chkP P T m = 0
  · by_cases h1 : f < 0
    · rw [if_pos h0, if_pos h1, if_neg (by omega)]
      rw [h0] at HC
      clear hv hp h0
      go_enter Try.func10, Try.ntmps10
      go_wp2_with fail
      refine (HC.out).mono ?_
      rintro e u ⟨rfl, hb⟩
      have HB : Hid (Below w.heap.size w u) := hb
      clear HC hb
      go_wp2
      go_ret2
      exact ⟨_, rfl, Iw.nil _ _, HB.out⟩
    · obtain ⟨F, rfl⟩ := Int.eq_ofNat_of_zero_le (show 0 ≤ f by omega)
      rw [if_pos h0, if_neg h1, if_pos ⟨h0, by omega⟩, Int.toNat_natCast]
      exact load_ok v pv P T m F w hv hp h0 hf
  · rw [if_neg h0, if_neg (by omega)]
    obtain ⟨z, hz⟩ : ∃ z, chkP P T m = z := ⟨_, rfl⟩
    rw [hz] at HC h0 ⊢
    have e0 : (z != 0) = true := by simpa using h0
    clear hv hp hz h0
    go_enter Try.func10, Try.ntmps10
    go_wp2_with fail
    refine (HC.out).mono ?_
    rintro e u ⟨rfl, hb⟩
    have HB : Hid (Below w.heap.size w u) := hb
    clear HC hb
    go_wp2
    go_ret2
    exact ⟨_, rfl, Iw.nil _ _, HB.out⟩
end Go.Proofs.Ytcenaleladjakab.budget
