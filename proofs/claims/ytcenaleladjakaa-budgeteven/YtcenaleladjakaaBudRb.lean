/- budget, the document's answer: Loaded. -/
import Derived.Test.YtcenaleladjakaaBudRa
import Derived.Test.YtcenaleladjakaaBudX
namespace Go.Proofs.Ytcenaleladjakaa.budget
open Go Go.RowKit
set_option linter.unusedVariables false
set_option linter.unusedSimpArgs false
set_option maxRecDepth 100000

theorem frame_iff {F p ph : Nat} (h : ph < p) : F % p = ph ↔ ph ≤ F ∧ (F - ph) % p = 0 := by
  constructor
  · intro e
    have h1 := Nat.mod_le F p
    refine ⟨by omega, ?_⟩
    have h2 := Nat.div_add_mod F p
    rw [e] at h2
    rw [show F - ph = p * (F / p) by omega, Nat.mul_mod_right]
  · rintro ⟨h1, h2⟩
    have h3 := Nat.div_add_mod (F - ph) p
    rw [h2, Nat.add_zero] at h3
    rw [show F = p * ((F - ph) / p) + ph by omega, Nat.mul_add_mod, Nat.mod_eq_of_lt h]
/-- which task comes to a lane, by number from 1 on; 0: none -/
structure At (E : List En) (F M k : Nat) (A : List Int) : Prop where
  len : A.length = M
  bd : ∀ l, l < M → 0 ≤ A.getD l 0 ∧ A.getD l 0 ≤ (k : Int)
  ld : ∀ l, l < M → ldR E F l k = if 0 < A.getD l 0 then [A.getD l 0 - 1] else []
theorem At.zero (E : List En) (F M : Nat) : At E F M 0 (List.replicate M 0) := ⟨by simp, fun l hl => by rw [List.getD_eq_getElem?_getD, List.getElem?_replicate, if_pos hl]; simp, fun l hl => by
  rw [List.getD_eq_getElem?_getD, List.getElem?_replicate, if_pos hl]
  simp [ldR]⟩
section
variable {E : List En} {F M k : Nat} {A : List Int} {x : En}
theorem getD_E (hx : E[k]? = some x) : E.getD k (0, 0, 0) = x := by rw [List.getD_eq_getElem?_getD, hx]; rfl
theorem At.no (h : At E F M k A) (hx : E[k]? = some x) (hn : ¬ F % x.1 = x.2.2) : At E F M (k + 1) A := ⟨h.len, fun l hl => by have := h.bd l hl; omega, fun l hl => by
  rw [ldR_next, getD_E hx, if_neg (by simp [has, hn]), List.append_nil]
  exact h.ld l hl⟩
theorem ldR_nil (hv : ∀ y ∈ E, Ve M y) (ha : Apart E) (hx : E[k]? = some x) {l : Nat} (hh : has l F x = true) : ldR E F l k = [] := by
  unfold ldR
  rw [List.map_eq_nil_iff, List.filter_eq_nil_iff]
  intro i hi
  have hik := List.mem_range.1 hi
  have hk := (List.getElem?_eq_some_iff.1 hx).1
  have ei := List.getElem?_eq_getElem (l := E) (i := i) (by omega)
  rw [getD_E ei]
  intro q
  have h1 := has_clash (hv _ (List.mem_of_getElem? ei)) (hv x (List.mem_of_getElem? hx)) q hh
  have h2 := List.pairwise_iff_getElem.1 ha i k (by omega) hk hik
  rw [(List.getElem?_eq_some_iff.1 hx).2, h1] at h2
  exact absurd h2 (by simp)
theorem At.yes (h : At E F M k A) (hv : ∀ y ∈ E, Ve M y) (ha : Apart E) (hx : E[k]? = some x) (hn : F % x.1 = x.2.2) : At E F M (k + 1) (A.set x.2.1 ((k : Int) + 1)) := by
  have hln := (hv x (List.mem_of_getElem? hx)).ln
  have hg : ∀ l, (A.set x.2.1 ((k : Int) + 1)).getD l 0 = if l = x.2.1 then (k : Int) + 1 else A.getD l 0 := fun l => by
    rw [List.getD_eq_getElem?_getD, List.getElem?_set, h.len]
    by_cases e : l = x.2.1
    · subst e
      simp [hln]
    · rw [if_neg (by omega), if_neg e, List.getD_eq_getElem?_getD]
  refine ⟨by rw [List.length_set, h.len], fun l hl => ?_, fun l hl => ?_⟩
  · rw [hg]
    split
    · omega
    · have := h.bd l hl; omega
  · rw [hg, ldR_next, getD_E hx]
    by_cases e : l = x.2.1
    · have hh : has l F x = true := by simp [has, e, hn]
      rw [if_pos e, if_pos hh, ldR_nil hv ha hx hh, if_pos (by omega)]
      simp
    · have hh : ¬ has l F x = true := by simp [has]; intro q; exact absurd q.symm e
      rw [if_neg e, if_neg hh, List.append_nil]
      exact h.ld l hl
end
set_option maxHeartbeats 8000000 in
theorem loaded_ok (v pv : Value) (P : List Int) (T : List Bi) (m : Int) (F : Nat) (w : World) (hv : Ris w v P) (hp : Rbs w pv T) (hck : chkP P T m = 0) (hF : (F : Int) ≤ 9223372036854775807) :
    Calls Try.prog 13 #[v, pv, .int .i64 m, .int .i64 (F : Int)] w fun e u => ∃ tv, e = .returned (.tuple #[tv, .int .i64 0]) ∧ Iw u w.heap.size tv (ldA (ensI P T) F m.toNat) ∧ Below w.heap.size w u := by
  have HCK : Hid (Calls Try.prog 15 #[v, pv, .int .i64 m] w fun e u => e = .returned (.int .i64 0) ∧ Below w.heap.size w u) := by have := rightR_any v pv P T m w hv hp; rw [hck] at this; exact this
  obtain ⟨M, rfl, hM1, hM8, hl, hP, hT, hA, hAp, hE⟩ := chkP_ok hck
  rw [Int.toNat_natCast]
  obtain ⟨a, c, rfl, hlc, hcm⟩ := hv.form
  obtain ⟨a2, c2, rfl, hlc2, hcm2⟩ := hp.form
  rw [hT] at hp hlc2 HCK ⊢
  have hve := ensI_ve hP hA
  have HC2 : Hid (∀ k, k < P.length → ∃ p ln ph : Nat, 1 ≤ p ∧ p ≤ 32 ∧ ln < M ∧ ph < p ∧ (ensI P T)[k]? = some (p, ln, ph) ∧ (∃ g off, a = some ⟨g, off, none⟩ ∧ ∀ u, Below w.heap.size w u → u.cell? ⟨g, off + k, none⟩ = some (.int .i64 (p : Int))) ∧ (∃ g off, a2 = some ⟨g, off, none⟩ ∧ ∀ u, Below w.heap.size w u → u.rangeAt g (off + k * 2) (ivs [(ln : Int), (ph : Int)]))) := fun k hk => by
    obtain ⟨⟨p, ln, ph⟩, h1, h2, h3, h4⟩ := pl_cells hv hp hT hP hA k hk
    have q := okp_le h2.ok
    exact ⟨p, ln, ph, q.1, q.2, h2.ln, h2.ph, h1, h3, h4⟩
  obtain ⟨E, hEE⟩ : ∃ E, ensI P T = E := ⟨_, rfl⟩
  rw [hEE] at HC2 hE hve hAp ⊢
  have HYes : Hid (∀ k x A, At E F M k A → E[k]? = some x → F % x.1 = x.2.2 → At E F M (k + 1) (A.set x.2.1 ((k : Int) + 1))) := fun k x A h hx hn => h.yes hve hAp hx hn
  obtain ⟨n, hn⟩ : ∃ n, P.length = n := ⟨_, rfl⟩
  rw [hn] at HC2 HCK hE hl hlc hlc2 ⊢
  have HEn : Hid (E.length = n) := hE
  have HLB : Hid (∀ l, l ≤ 8 → (ldA E F l).length ≤ 1000) := fun l h1 => by
    have q1 := ldA_len E F l
    rw [hE] at q1
    have : l * n ≤ 8 * 64 := Nat.mul_le_mul h1 hl
    omega
  have HZ : Hid (List.replicate (M * 1) (.int .i64 0) = ivs (List.replicate M 0)) := by show _ = _; simp [ivs]
  have HMn : Hid (M ≤ 1000) := by show M ≤ 1000; omega
  unfold maxLen at hcm hcm2
  clear hv hp hck hP hT hA hEE hn hE hve hAp
  go_enter Try.func13, Try.ntmps13
  go_wp2_with fail
  refine (HCK.out).mono ?_
  rintro e u ⟨rfl, hb⟩
  have hM := (Mm.nil w).call hb
  clear hb HCK
  repeat' (first | (go_big_may; first | (refine v_make rfl el_ints ints_zero rfl rfl rfl HMn.out ?_; intro u ga hN; replace hM := hM.new hN; clear hN)) | go_values | go_skip | go_guarded | go_step | go_upon | (simp only [Int.not_lt, Int.not_le] at *; go_simp))
  have HM0 : Hid (∃ A, Mm w u [(ga, 3, ivs A)] ∧ At E F M 0 A) := ⟨_, by rw [← HZ.out]; exact hM, At.zero E F M⟩
  clear hM HZ HMn
  go_loopw [12, 13, 30] (fun _ _ kv wr => ∃ k : Nat, k ≤ n ∧ kv = .int .i64 (k : Int) ∧ Hid (∃ A, Mm w wr [(ga, 3, ivs A)] ∧ At E F M k A)) (fun _ _ kv _ => n - (intOf kv).toNat)
  case atStart => exact ⟨0, Nat.zero_le _, rfl, HM0.out⟩
  case round =>
    clear HM0
    obtain ⟨k, hk, rfl, HA⟩ := hrel
    obtain ⟨A, hM, hAt⟩ := HA.out
    have HAt : Hid (At E F M k A) := hAt
    clear HA hAt
    by_cases hkn : ¬ k < n
    · have HI0 : Hid (MI w wr [(ga, 3, ivs A)] (.slice none 0 0) (ldA E F 0)) := MI.nil hM
      have HAn : Hid (At E F M n A) := by have := HAt.out; rw [show k = n by omega] at this; exact this
      clear hM HAt HC2 HYes
      go_wp2
      go_loopw [14, 16, 60] (fun tv _ lv wr => ∃ l : Nat, l ≤ M ∧ lv = .int .i64 (l : Int) ∧ Hid (MI w wr [(ga, 3, ivs A)] tv (ldA E F l))) (fun _ _ lv _ => M - (intOf lv).toNat)
      case atStart => exact ⟨0, Nat.zero_le _, rfl, HI0.out⟩
      case round =>
        clear HI0
        obtain ⟨l, hlM, rfl, HA⟩ := hrel
        by_cases hlt : ¬ l < M
        · have hlm : l = M := by omega
          have HQ : Hid (Iw wr w.heap.size u14 (ldA E F M) ∧ Below w.heap.size w wr) := ⟨by rw [← hlm]; exact HA.out.iw, HA.out.below⟩
          clear HA HLB HEn HAn
          go_wp2
          go_ret2
          exact ⟨_, rfl, HQ.out⟩
        have hlt : l < M := by omega
        have hM := HA.out
        have hbd := HAn.out.bd l hlt
        have hA := HAn.out.ld l hlt
        have hlA : l < A.length := by rw [HAn.out.len]; exact hlt
        have hcell : wr.cell? ⟨ga, l, none⟩ = some (.int .i64 (A.getD l 0)) := bv_cell hM.at0 (ivs_at (by rw [getD_at hlA]; exact List.getElem?_eq_getElem hlA))
        have HLB2 : Hid ((ldA E F l).length ≤ 1000) := HLB.out l (by omega)
        obtain ⟨x, hx⟩ : ∃ x, A.getD l 0 = x := ⟨_, rfl⟩
        rw [hx] at hbd hA hcell
        obtain ⟨hb1, hb2⟩ := hbd
        have HNx : Hid (ldA E F (l + 1) = ldA E F l ++ (if 0 < x then [x - 1] else [])) := by show _ = _; rw [ldA_next, HEn.out, hA]
        clear HA hA hlA hx
        by_cases hx0 : 0 < x
        · have HQ : Hid (ldA E F (l + 1) = ldA E F l ++ [x - 1]) := by have := HNx.out; rw [if_pos hx0] at this; exact this
          clear HNx
          repeat' (first | (go_big_may; first | (refine a_bs rfl rfl rfl ?_; intro u3 gb hb hcb; replace hM := hM.call hb; clear hb) | (refine a_app rfl rfl rfl rfl hM hcb HLB2.out ?_; intro u4 tv4 hM4; clear hM hcb)) | go_values | go_skip | go_guarded | go_step | go_upon | (simp only [Int.not_lt, Int.not_le] at *; go_simp))
          go_roundw
          case rel => exact ⟨l + 1, by omega, by go_num, by show MI _ _ _ _ _; rw [HQ.out]; exact hM4⟩
          case measure => simp [intOf]; omega
        · have HQ : Hid (MI w wr [(ga, 3, ivs A)] u14 (ldA E F (l + 1))) := by have := HNx.out; rw [if_neg hx0, List.append_nil] at this; show MI _ _ _ _ _; rw [this]; exact hM
          clear HNx hM HLB2
          go_wp2
          go_roundw
          case rel => exact ⟨l + 1, by omega, by go_num, HQ.out⟩
          case measure => simp [intOf]; omega
    have hkn : k < n := by omega
    obtain ⟨p, ln, ph, hp1, hp2, hln, hph, hx, ⟨g, off, rfl, hc⟩, ⟨g2, off2, rfl, hr⟩⟩ := HC2.out k hkn
    have HY : Hid (F % p = ph → At E F M (k + 1) (A.set ln ((k : Int) + 1))) := fun q => HYes.out k (p, ln, ph) A HAt.out hx q
    have HNo : Hid (¬ F % p = ph → At E F M (k + 1) A) := fun q => HAt.out.no hx q
    have hlA : ln < A.length := by rw [HAt.out.len]; exact hln
    have HLA : Hid (ln < (ivs A).length) := by show ln < _; rw [ivs_length]; exact hlA
    have HRG : Hid (wr.rangeAt g2 (off2 + k * 2) (ivs [(ln : Int), (ph : Int)])) := hr wr hM.below
    have HCL : Hid (∀ u, Below w.heap.size w u → u.cell? ⟨g, off + k, none⟩ = some (.int .i64 (p : Int))) := hc
    have HV : Hid (Vs (ivs [(ln : Int), (ph : Int)]) 2) := two_vs _ _
    have HV2 : Hid ((ivs [0, 0]).length = 2) := rfl
    have HFr := frame_iff (F := F) hph
    have HFr2 : Hid (F % p = ph ↔ ph ≤ F ∧ (F - ph) % p = 0) := HFr
    have HST : Hid ((ivs A).set ln (.int .i64 ((k : Int) + 1)) = ivs (A.set ln ((k : Int) + 1))) := ivs_set _ _ _
    have p0 : ((p : Int) == 0) = false := by simp; omega
    have p1 : ¬ (p : Int) = 0 := by omega
    have p2 : ¬ p = 0 := by omega
    clear HC2 HYes hc hr hx HAt HFr hlA HLB
    repeat' (first | (go_big_may; first | (refine v_ldR rfl rfl row_berth rfl HRG.out rfl ?_) | (refine v_alloc rfl zer_berth rfl ?_; intro u zb hN; replace hM := hM.new hN; clear hN) | (refine v_fill rfl rfl row_berth rfl rfl hM.at0 HV.out HV2.out ?_; intro u hv hc; replace hM := hM.put0 hc hv; clear hv hc)) | go_values | go_skip | go_guarded | go_step | go_upon | (simp only [Int.not_lt, Int.not_le] at *; go_simp))
    have HM : Hid (Mm w u [(zb, 29, ivs [(ln : Int), (ph : Int)]), (ga, 3, ivs A)]) := hM
    clear hM HRG HV HV2
    by_cases c1 : ph ≤ F
    · have d1 : decide ((ph : Int) ≤ (F : Int)) = true := decide_eq_true (by omega)
      have f1 : (ph : Int) ≤ (F : Int) := by omega
      obtain ⟨D, hD⟩ : ∃ D, F - ph = D := ⟨_, rfl⟩
      have t1 : (F : Int) - (ph : Int) = (D : Int) := by omega
      have t2 : IntKind.i64.wrap (D : Int) = (D : Int) := by rw [IntKind.wrap_i64]; omega
      obtain ⟨q, hq⟩ : ∃ q, D % p = q := ⟨_, rfl⟩
      have hqp : q < p := by rw [← hq]; exact Nat.mod_lt _ (by omega)
      have t3 : ((D : Int)).tmod (p : Int) = (q : Int) := by rw [← hq, Int.tmod_eq_emod_of_nonneg (by omega)]; simp
      have t4 : IntKind.i64.wrap (q : Int) = (q : Int) := by rw [IntKind.wrap_i64]; omega
      have HF3 : Hid (F % p = ph ↔ q = 0) := by show _ ↔ _; rw [HFr2.out, hD, hq]; exact ⟨fun h => h.2, fun h => ⟨c1, h⟩⟩
      by_cases c2 : q = 0
      · have d2 : ((q : Int) == 0) = true := by simp [c2]
        have HQ : Hid (At E F M (k + 1) (A.set ln ((k : Int) + 1))) := HY.out (HF3.out.2 c2)
        clear HY HNo HF3 HFr2 c2 hq hD
        go_upto_region 10 with (fail)
        refine wp_abs (fun a0 => a0.tmps.size = 73 ∧ (∀ h, a0.tmps[0]'h = .slice (some ⟨g, off, none⟩) n c) ∧ (∀ h, a0.tmps[3]'h = .int .i64 (F : Int)) ∧ (∀ h, a0.tmps[12]'h = .int .i64 (k : Int)) ∧ (∀ h, a0.tmps[13]'h = .pointer (some ⟨zb, 0, none⟩))) ⟨rfl, fun _ => rfl, fun _ => rfl, fun _ => rfl, fun _ => rfl⟩ ?_
        rintro a0 ⟨hsz, s0, s3, s12, s13⟩ ha0
        refine wp_region_held (S := fun W => Mm w W [(zb, 29, ivs [(ln : Int), (ph : Int)]), (ga, 3, ivs A)]) (by kernel_rfl) ?_
        obtain ⟨ud, hud⟩ : ∃ ud, u.drew = ud := ⟨_, rfl⟩
        have hS0 : Mm w ud [(zb, 29, ivs [(ln : Int), (ph : Int)]), (ga, 3, ivs A)] := by rw [← hud]; exact HM.out.drew
        show wpAnyH _ _ _ _ _ _ _ _ u.drew
        rw [hud]
        refine h_take (i := 0) (.int .i64 (F : Int)) rfl (by kernel_rfl) (by kernel_rfl) (by kernel_rfl) (fun _ _ _ h => h) rfl hS0 (fun W hW => by simp [execOp, go_sem, Act.put, hsz, s0, s3, s12, s13, hkn, p0, p1, p2, d1, f1, t1, t2, t3, t4, d2]) ?_
        refine h_take (i := 1) (.pointer (some ⟨zb, 1, none⟩)) rfl (by kernel_rfl) (by kernel_rfl) (by kernel_rfl) (fun _ _ _ h => h) rfl hS0 (fun W hW => by simp [execOp, go_sem, Act.put, hsz, s0, s3, s12, s13, hkn, p0, p1, p2, d1, f1, t1, t2, t3, t4, d2]) ?_
        refine h_take (i := 2) (.int .i64 (ph : Int)) rfl (by kernel_rfl) (by kernel_rfl) (by kernel_rfl) (fun _ _ _ h => h) rfl hS0 (fun W hW => ex_getv (p := ⟨zb, 1, none⟩) rfl (.inl rfl) (by simp [go_sem, Act.put, hsz]) (bv_cell hW.at0 rfl)) ?_
        refine h_take (i := 3) (.bool true) rfl (by kernel_rfl) (by kernel_rfl) (by kernel_rfl) (fun _ _ _ h => h) rfl hS0 (fun W hW => by simp [execOp, go_sem, Act.put, hsz, s0, s3, s12, s13, hkn, p0, p1, p2, d1, f1, t1, t2, t3, t4, d2]) ?_
        refine h_take (i := 4) (.bool true) rfl (by kernel_rfl) (by kernel_rfl) (by kernel_rfl) (fun _ _ _ h => h) rfl hS0 (fun W hW => by simp [execOp, go_sem, Act.put, hsz, s0, s3, s12, s13, hkn, p0, p1, p2, d1, f1, t1, t2, t3, t4, d2]) ?_
        refine g_take (i := 5) (.int .i64 (F : Int)) rfl (by kernel_rfl) (by kernel_rfl) (by kernel_rfl) (fun _ _ _ h => h) (by simp [Region.wanted, yielded, Act.put, hsz]) hS0 (fun W hW => by simp [execOp, go_sem, Act.put, hsz, s0, s3, s12, s13, hkn, p0, p1, p2, d1, f1, t1, t2, t3, t4, d2]) ?_
        refine g_take (i := 6) (.pointer (some ⟨zb, 1, none⟩)) rfl (by kernel_rfl) (by kernel_rfl) (by kernel_rfl) (fun _ _ _ h => h) (by simp [Region.wanted, yielded, Act.put, hsz]) hS0 (fun W hW => by simp [execOp, go_sem, Act.put, hsz, s0, s3, s12, s13, hkn, p0, p1, p2, d1, f1, t1, t2, t3, t4, d2]) ?_
        refine g_take (i := 7) (.int .i64 (ph : Int)) rfl (by kernel_rfl) (by kernel_rfl) (by kernel_rfl) (fun _ _ _ h => h) (by simp [Region.wanted, yielded, Act.put, hsz]) hS0 (fun W hW => ex_getv (p := ⟨zb, 1, none⟩) rfl (.inl rfl) (by simp [go_sem, Act.put, hsz]) (bv_cell hW.at0 rfl)) ?_
        refine g_take (i := 8) (.int .i64 (D : Int)) rfl (by kernel_rfl) (by kernel_rfl) (by kernel_rfl) (fun _ _ _ h => h) (by simp [Region.wanted, yielded, Act.put, hsz]) hS0 (fun W hW => by simp [execOp, go_sem, Act.put, hsz, s0, s3, s12, s13, hkn, p0, p1, p2, d1, f1, t1, t2, t3, t4, d2]) ?_
        refine g_take (i := 9) (.slice (some ⟨g, off, none⟩) n c) rfl (by kernel_rfl) (by kernel_rfl) (by kernel_rfl) (fun _ _ _ h => h) (by simp [Region.wanted, yielded, Act.put, hsz]) hS0 (fun W hW => by simp [execOp, go_sem, Act.put, hsz, s0, s3, s12, s13, hkn, p0, p1, p2, d1, f1, t1, t2, t3, t4, d2]) ?_
        refine g_take (i := 10) (.int .i64 (k : Int)) rfl (by kernel_rfl) (by kernel_rfl) (by kernel_rfl) (fun _ _ _ h => h) (by simp [Region.wanted, yielded, Act.put, hsz]) hS0 (fun W hW => by simp [execOp, go_sem, Act.put, hsz, s0, s3, s12, s13, hkn, p0, p1, p2, d1, f1, t1, t2, t3, t4, d2]) ?_
        refine g_take (i := 11) (.pointer (some ⟨g, off + k, none⟩)) rfl (by kernel_rfl) (by kernel_rfl) (by kernel_rfl) (fun _ _ _ h => h) (by simp [Region.wanted, yielded, Act.put, hsz]) hS0 (fun W hW => by simp [execOp, go_sem, Act.put, hsz, s0, s3, s12, s13, hkn, p0, p1, p2, d1, f1, t1, t2, t3, t4, d2]) ?_
        refine g_take (i := 12) (.int .i64 (p : Int)) rfl (by kernel_rfl) (by kernel_rfl) (by kernel_rfl) (fun _ _ _ h => h) (by simp [Region.wanted, yielded, Act.put, hsz]) hS0 (fun W hW => ex_getv (p := ⟨g, off + k, none⟩) rfl (.inl rfl) (by simp [go_sem, Act.put, hsz]) (HCL.out W hW.below)) ?_
        refine g_take (i := 13) (.int .i64 (q : Int)) rfl (by kernel_rfl) (by kernel_rfl) (by kernel_rfl) (fun _ _ _ h => h) (by simp [Region.wanted, yielded, Act.put, hsz]) hS0 (fun W hW => by simp [execOp, go_sem, Act.put, hsz, s0, s3, s12, s13, hkn, p0, p1, p2, d1, f1, t1, t2, t3, t4, d2]) ?_
        refine g_take (i := 14) (.bool true) rfl (by kernel_rfl) (by kernel_rfl) (by kernel_rfl) (fun _ _ _ h => h) (by simp [Region.wanted, yielded, Act.put, hsz]) hS0 (fun W hW => by simp [execOp, go_sem, Act.put, hsz, s0, s3, s12, s13, hkn, p0, p1, p2, d1, f1, t1, t2, t3, t4, d2]) ?_
        refine h_take (i := 15) (.bool true) rfl (by kernel_rfl) (by kernel_rfl) (by kernel_rfl) (fun _ _ _ h => h) rfl hS0 (fun W hW => by simp [execOp, go_sem, Act.put, hsz, s0, s3, s12, s13, hkn, p0, p1, p2, d1, f1, t1, t2, t3, t4, d2]) ?_
        refine wpAnyH_done (by kernel_rfl) ?_ _
        subst ha0
        have hM := hS0
        clear hsz s0 s3 s12 s13 hS0 HM HCL hud
        go_simp
        have hc0 : ud.cell? ⟨zb, 0, none⟩ = some (.int .i64 (ln : Int)) := bv_cell hM.at0 rfl
        repeat' (first | (go_big_may; first | (refine v_get rfl rfl (.inl rfl) rfl hM.at0 rfl ?_) | (refine v_puti rfl rfl rfl rfl hM.at1 HLA.out ?_; intro u hv hc; replace hM := hM.put1 hc hv; clear hv hc hc0; rw [HST.out] at hM)) | go_values | go_skip | go_guarded | go_step | go_upon | (simp only [Int.not_lt, Int.not_le] at *; go_simp))
        go_roundw
        case rel => exact ⟨k + 1, by omega, by go_num, _, hM.sub (.cons _ (List.Sublist.refl _)), HQ.out⟩
        case measure => simp [intOf]; omega
      · have d2 : ((q : Int) == 0) = false := by simp; omega
        have HQ : Hid (At E F M (k + 1) A) := HNo.out (fun h => c2 (HF3.out.1 h))
        clear HY HNo HF3 HFr2 hq hD
        go_upto_region 10 with (fail)
        refine wp_abs (fun a0 => a0.tmps.size = 73 ∧ (∀ h, a0.tmps[0]'h = .slice (some ⟨g, off, none⟩) n c) ∧ (∀ h, a0.tmps[3]'h = .int .i64 (F : Int)) ∧ (∀ h, a0.tmps[12]'h = .int .i64 (k : Int)) ∧ (∀ h, a0.tmps[13]'h = .pointer (some ⟨zb, 0, none⟩))) ⟨rfl, fun _ => rfl, fun _ => rfl, fun _ => rfl, fun _ => rfl⟩ ?_
        rintro a0 ⟨hsz, s0, s3, s12, s13⟩ ha0
        refine wp_region_held (S := fun W => Mm w W [(zb, 29, ivs [(ln : Int), (ph : Int)]), (ga, 3, ivs A)]) (by kernel_rfl) ?_
        obtain ⟨ud, hud⟩ : ∃ ud, u.drew = ud := ⟨_, rfl⟩
        have hS0 : Mm w ud [(zb, 29, ivs [(ln : Int), (ph : Int)]), (ga, 3, ivs A)] := by rw [← hud]; exact HM.out.drew
        show wpAnyH _ _ _ _ _ _ _ _ u.drew
        rw [hud]
        refine h_take (i := 0) (.int .i64 (F : Int)) rfl (by kernel_rfl) (by kernel_rfl) (by kernel_rfl) (fun _ _ _ h => h) rfl hS0 (fun W hW => by simp [execOp, go_sem, Act.put, hsz, s0, s3, s12, s13, hkn, p0, p1, p2, d1, f1, t1, t2, t3, t4, d2]) ?_
        refine h_take (i := 1) (.pointer (some ⟨zb, 1, none⟩)) rfl (by kernel_rfl) (by kernel_rfl) (by kernel_rfl) (fun _ _ _ h => h) rfl hS0 (fun W hW => by simp [execOp, go_sem, Act.put, hsz, s0, s3, s12, s13, hkn, p0, p1, p2, d1, f1, t1, t2, t3, t4, d2]) ?_
        refine h_take (i := 2) (.int .i64 (ph : Int)) rfl (by kernel_rfl) (by kernel_rfl) (by kernel_rfl) (fun _ _ _ h => h) rfl hS0 (fun W hW => ex_getv (p := ⟨zb, 1, none⟩) rfl (.inl rfl) (by simp [go_sem, Act.put, hsz]) (bv_cell hW.at0 rfl)) ?_
        refine h_take (i := 3) (.bool true) rfl (by kernel_rfl) (by kernel_rfl) (by kernel_rfl) (fun _ _ _ h => h) rfl hS0 (fun W hW => by simp [execOp, go_sem, Act.put, hsz, s0, s3, s12, s13, hkn, p0, p1, p2, d1, f1, t1, t2, t3, t4, d2]) ?_
        refine h_take (i := 4) (.bool true) rfl (by kernel_rfl) (by kernel_rfl) (by kernel_rfl) (fun _ _ _ h => h) rfl hS0 (fun W hW => by simp [execOp, go_sem, Act.put, hsz, s0, s3, s12, s13, hkn, p0, p1, p2, d1, f1, t1, t2, t3, t4, d2]) ?_
        refine g_take (i := 5) (.int .i64 (F : Int)) rfl (by kernel_rfl) (by kernel_rfl) (by kernel_rfl) (fun _ _ _ h => h) (by simp [Region.wanted, yielded, Act.put, hsz]) hS0 (fun W hW => by simp [execOp, go_sem, Act.put, hsz, s0, s3, s12, s13, hkn, p0, p1, p2, d1, f1, t1, t2, t3, t4, d2]) ?_
        refine g_take (i := 6) (.pointer (some ⟨zb, 1, none⟩)) rfl (by kernel_rfl) (by kernel_rfl) (by kernel_rfl) (fun _ _ _ h => h) (by simp [Region.wanted, yielded, Act.put, hsz]) hS0 (fun W hW => by simp [execOp, go_sem, Act.put, hsz, s0, s3, s12, s13, hkn, p0, p1, p2, d1, f1, t1, t2, t3, t4, d2]) ?_
        refine g_take (i := 7) (.int .i64 (ph : Int)) rfl (by kernel_rfl) (by kernel_rfl) (by kernel_rfl) (fun _ _ _ h => h) (by simp [Region.wanted, yielded, Act.put, hsz]) hS0 (fun W hW => ex_getv (p := ⟨zb, 1, none⟩) rfl (.inl rfl) (by simp [go_sem, Act.put, hsz]) (bv_cell hW.at0 rfl)) ?_
        refine g_take (i := 8) (.int .i64 (D : Int)) rfl (by kernel_rfl) (by kernel_rfl) (by kernel_rfl) (fun _ _ _ h => h) (by simp [Region.wanted, yielded, Act.put, hsz]) hS0 (fun W hW => by simp [execOp, go_sem, Act.put, hsz, s0, s3, s12, s13, hkn, p0, p1, p2, d1, f1, t1, t2, t3, t4, d2]) ?_
        refine g_take (i := 9) (.slice (some ⟨g, off, none⟩) n c) rfl (by kernel_rfl) (by kernel_rfl) (by kernel_rfl) (fun _ _ _ h => h) (by simp [Region.wanted, yielded, Act.put, hsz]) hS0 (fun W hW => by simp [execOp, go_sem, Act.put, hsz, s0, s3, s12, s13, hkn, p0, p1, p2, d1, f1, t1, t2, t3, t4, d2]) ?_
        refine g_take (i := 10) (.int .i64 (k : Int)) rfl (by kernel_rfl) (by kernel_rfl) (by kernel_rfl) (fun _ _ _ h => h) (by simp [Region.wanted, yielded, Act.put, hsz]) hS0 (fun W hW => by simp [execOp, go_sem, Act.put, hsz, s0, s3, s12, s13, hkn, p0, p1, p2, d1, f1, t1, t2, t3, t4, d2]) ?_
        refine g_take (i := 11) (.pointer (some ⟨g, off + k, none⟩)) rfl (by kernel_rfl) (by kernel_rfl) (by kernel_rfl) (fun _ _ _ h => h) (by simp [Region.wanted, yielded, Act.put, hsz]) hS0 (fun W hW => by simp [execOp, go_sem, Act.put, hsz, s0, s3, s12, s13, hkn, p0, p1, p2, d1, f1, t1, t2, t3, t4, d2]) ?_
        refine g_take (i := 12) (.int .i64 (p : Int)) rfl (by kernel_rfl) (by kernel_rfl) (by kernel_rfl) (fun _ _ _ h => h) (by simp [Region.wanted, yielded, Act.put, hsz]) hS0 (fun W hW => ex_getv (p := ⟨g, off + k, none⟩) rfl (.inl rfl) (by simp [go_sem, Act.put, hsz]) (HCL.out W hW.below)) ?_
        refine g_take (i := 13) (.int .i64 (q : Int)) rfl (by kernel_rfl) (by kernel_rfl) (by kernel_rfl) (fun _ _ _ h => h) (by simp [Region.wanted, yielded, Act.put, hsz]) hS0 (fun W hW => by simp [execOp, go_sem, Act.put, hsz, s0, s3, s12, s13, hkn, p0, p1, p2, d1, f1, t1, t2, t3, t4, d2]) ?_
        refine g_take (i := 14) (.bool false) rfl (by kernel_rfl) (by kernel_rfl) (by kernel_rfl) (fun _ _ _ h => h) (by simp [Region.wanted, yielded, Act.put, hsz]) hS0 (fun W hW => by simp [execOp, go_sem, Act.put, hsz, s0, s3, s12, s13, hkn, p0, p1, p2, d1, f1, t1, t2, t3, t4, d2]) ?_
        refine h_take (i := 15) (.bool false) rfl (by kernel_rfl) (by kernel_rfl) (by kernel_rfl) (fun _ _ _ h => h) rfl hS0 (fun W hW => by simp [execOp, go_sem, Act.put, hsz, s0, s3, s12, s13, hkn, p0, p1, p2, d1, f1, t1, t2, t3, t4, d2]) ?_
        refine wpAnyH_done (by kernel_rfl) ?_ _
        subst ha0
        have hM := hS0
        clear hsz s0 s3 s12 s13 hS0 HM HCL hud
        go_simp
        have HB : Hid (Mm w ud [(ga, 3, ivs A)]) := hM.sub (.cons _ (List.Sublist.refl _))
        clear hM HST HLA
        go_wp2
        go_roundw
        case rel => exact ⟨k + 1, by omega, by go_num, _, HB.out, HQ.out⟩
        case measure => simp [intOf]; omega
    · have d1 : decide ((ph : Int) ≤ (F : Int)) = false := decide_eq_false (by omega)
      have f1 : ¬ (ph : Int) ≤ (F : Int) := by omega
      have HQ : Hid (At E F M (k + 1) A) := HNo.out (fun h => c1 (HFr2.out.1 h).1)
      clear HY HNo HFr2
      go_upto_region 10 with (fail)
      refine wp_abs (fun a0 => a0.tmps.size = 73 ∧ (∀ h, a0.tmps[0]'h = .slice (some ⟨g, off, none⟩) n c) ∧ (∀ h, a0.tmps[3]'h = .int .i64 (F : Int)) ∧ (∀ h, a0.tmps[12]'h = .int .i64 (k : Int)) ∧ (∀ h, a0.tmps[13]'h = .pointer (some ⟨zb, 0, none⟩))) ⟨rfl, fun _ => rfl, fun _ => rfl, fun _ => rfl, fun _ => rfl⟩ ?_
      rintro a0 ⟨hsz, s0, s3, s12, s13⟩ ha0
      refine wp_region_held (S := fun W => Mm w W [(zb, 29, ivs [(ln : Int), (ph : Int)]), (ga, 3, ivs A)]) (by kernel_rfl) ?_
      obtain ⟨ud, hud⟩ : ∃ ud, u.drew = ud := ⟨_, rfl⟩
      have hS0 : Mm w ud [(zb, 29, ivs [(ln : Int), (ph : Int)]), (ga, 3, ivs A)] := by rw [← hud]; exact HM.out.drew
      show wpAnyH _ _ _ _ _ _ _ _ u.drew
      rw [hud]
      refine h_take (i := 0) (.int .i64 (F : Int)) rfl (by kernel_rfl) (by kernel_rfl) (by kernel_rfl) (fun _ _ _ h => h) rfl hS0 (fun W hW => by simp [execOp, go_sem, Act.put, hsz, s0, s3, s12, s13, hkn, p0, p1, p2, d1, f1]) ?_
      refine h_take (i := 1) (.pointer (some ⟨zb, 1, none⟩)) rfl (by kernel_rfl) (by kernel_rfl) (by kernel_rfl) (fun _ _ _ h => h) rfl hS0 (fun W hW => by simp [execOp, go_sem, Act.put, hsz, s0, s3, s12, s13, hkn, p0, p1, p2, d1, f1]) ?_
      refine h_take (i := 2) (.int .i64 (ph : Int)) rfl (by kernel_rfl) (by kernel_rfl) (by kernel_rfl) (fun _ _ _ h => h) rfl hS0 (fun W hW => ex_getv (p := ⟨zb, 1, none⟩) rfl (.inl rfl) (by simp [go_sem, Act.put, hsz]) (bv_cell hW.at0 rfl)) ?_
      refine h_take (i := 3) (.bool false) rfl (by kernel_rfl) (by kernel_rfl) (by kernel_rfl) (fun _ _ _ h => h) rfl hS0 (fun W hW => by simp [execOp, go_sem, Act.put, hsz, s0, s3, s12, s13, hkn, p0, p1, p2, d1, f1]) ?_
      refine h_take (i := 4) (.bool false) rfl (by kernel_rfl) (by kernel_rfl) (by kernel_rfl) (fun _ _ _ h => h) rfl hS0 (fun W hW => by simp [execOp, go_sem, Act.put, hsz, s0, s3, s12, s13, hkn, p0, p1, p2, d1, f1]) ?_
      refine g_pass (i := 5) rfl (by kernel_rfl) (by kernel_rfl) (by kernel_rfl) (fun _ _ _ h => h) (by simp [Region.wanted, yielded, Act.put, hsz]) hS0 ?_
      refine g_pass (i := 6) rfl (by kernel_rfl) (by kernel_rfl) (by kernel_rfl) (fun _ _ _ h => h) (by simp [Region.wanted, yielded, Act.put, hsz]) hS0 ?_
      refine g_pass (i := 7) rfl (by kernel_rfl) (by kernel_rfl) (by kernel_rfl) (fun _ _ _ h => h) (by simp [Region.wanted, yielded, Act.put, hsz]) hS0 ?_
      refine g_pass (i := 8) rfl (by kernel_rfl) (by kernel_rfl) (by kernel_rfl) (fun _ _ _ h => h) (by simp [Region.wanted, yielded, Act.put, hsz]) hS0 ?_
      refine g_pass (i := 9) rfl (by kernel_rfl) (by kernel_rfl) (by kernel_rfl) (fun _ _ _ h => h) (by simp [Region.wanted, yielded, Act.put, hsz]) hS0 ?_
      refine g_pass (i := 10) rfl (by kernel_rfl) (by kernel_rfl) (by kernel_rfl) (fun _ _ _ h => h) (by simp [Region.wanted, yielded, Act.put, hsz]) hS0 ?_
      refine g_pass (i := 11) rfl (by kernel_rfl) (by kernel_rfl) (by kernel_rfl) (fun _ _ _ h => h) (by simp [Region.wanted, yielded, Act.put, hsz]) hS0 ?_
      refine g_pass (i := 12) rfl (by kernel_rfl) (by kernel_rfl) (by kernel_rfl) (fun _ _ _ h => h) (by simp [Region.wanted, yielded, Act.put, hsz]) hS0 ?_
      refine g_pass (i := 13) rfl (by kernel_rfl) (by kernel_rfl) (by kernel_rfl) (fun _ _ _ h => h) (by simp [Region.wanted, yielded, Act.put, hsz]) hS0 ?_
      refine g_pass (i := 14) rfl (by kernel_rfl) (by kernel_rfl) (by kernel_rfl) (fun _ _ _ h => h) (by simp [Region.wanted, yielded, Act.put, hsz]) hS0 ?_
      refine h_take (i := 15) (.bool false) rfl (by kernel_rfl) (by kernel_rfl) (by kernel_rfl) (fun _ _ _ h => h) rfl hS0 (fun W hW => by simp [execOp, go_sem, Act.put, hsz, s0, s3, s12, s13, hkn, p0, p1, p2, d1, f1]) ?_
      refine wpAnyH_done (by kernel_rfl) ?_ _
      subst ha0
      have hM := hS0
      clear hsz s0 s3 s12 s13 hS0 HM HCL hud
      go_simp
      have HB : Hid (Mm w ud [(ga, 3, ivs A)]) := hM.sub (.cons _ (List.Sublist.refl _))
      clear hM HST HLA
      go_wp2
      go_roundw
      case rel => exact ⟨k + 1, by omega, by go_num, _, HB.out, HQ.out⟩
      case measure => simp [intOf]; omega
set_option maxHeartbeats 2000000 in
theorem loaded_any (v pv : Value) (P : List Int) (T : List Bi) (m f : Int) (w : World) (hv : Ris w v P) (hp : Rbs w pv T) (hf : f ≤ 9223372036854775807) :
    Calls Try.prog 13 #[v, pv, .int .i64 m, .int .i64 f] w fun e u => ∃ tv, e = .returned (.tuple #[tv, .int .i64 (ldC P T m f)]) ∧ Iw u w.heap.size tv (ldV P T m f) ∧ Below w.heap.size w u := by
  have HC : Hid (Calls Try.prog 15 #[v, pv, .int .i64 m] w fun e u => e = .returned (.int .i64 (chkP P T m)) ∧ Below w.heap.size w u) := rightR_any v pv P T m w hv hp
  unfold ldC ldV
  by_cases h0 : chkP P T m = 0
  · by_cases h1 : f < 0
    · rw [if_pos h0, if_pos h1, if_neg (by omega)]
      rw [h0] at HC
      clear hv hp h0
      go_enter Try.func13, Try.ntmps13
      go_wp2_with fail
      refine (HC.out).mono ?_
      rintro e u ⟨rfl, hb⟩
      have HB : Hid (Below w.heap.size w u) := hb
      clear HC hb
      go_wp2
      go_ret2
      exact ⟨_, rfl, Iw.nil _ _, HB.out⟩
    · obtain ⟨F, rfl⟩ := Int.eq_ofNat_of_zero_le (show 0 ≤ f by omega)
      rw [if_pos h0, if_neg h1, if_pos ⟨h0, by omega⟩, Int.toNat_natCast]
      exact loaded_ok v pv P T m F w hv hp h0 hf
  · rw [if_neg h0, if_neg (by omega)]
    obtain ⟨z, hz⟩ : ∃ z, chkP P T m = z := ⟨_, rfl⟩
    rw [hz] at HC h0 ⊢
    have e0 : (z != 0) = true := by simpa using h0
    clear hv hp hz h0
    go_enter Try.func13, Try.ntmps13
    go_wp2_with fail
    refine (HC.out).mono ?_
    rintro e u ⟨rfl, hb⟩
    have HB : Hid (Below w.heap.size w u) := hb
    clear HC hb
    go_wp2
    go_ret2
    exact ⟨_, rfl, Iw.nil _ _, HB.out⟩
end Go.Proofs.Ytcenaleladjakaa.budget
