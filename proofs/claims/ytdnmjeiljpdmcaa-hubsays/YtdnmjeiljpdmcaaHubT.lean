/- plugref's hub: what HubChanges answers. -/
import Derived.Test.YtdnmjeiljpdmcaaHubS
import Derived.Test.YtdnmjeiljpdmcaaHubI
namespace Go.Proofs.Ytdnmjeiljpdmcaa.hub
open Go Go.RowKit
open Go.Proofs.Ytdnmjeiljpdmcaa.slots (cl cl_at cl_set cl_ext allF allF_step allF_end allF_iff anyF)
open Go.PlainAid
open Go.Proofs.Ytdnmjeiljpdmcaa.lane (str_append str_size)
open Go.Proofs.Ytdnmjeiljpdmcaa.setup (wrd)
set_option linter.unusedVariables false
set_option linter.unusedSimpArgs false
set_option maxRecDepth 100000

theorem num_top {F : List Int} (h : Ok F) : ∀ d, (cn F).toNat + 1 + d ≤ 16 → num F ((cn F).toNat + 1 + d) = num F ((cn F).toNat + 1)
  | 0, _ => rfl
  | d + 1, hd => by
    have h1 := h.lo
    rw [show (cn F).toNat + 1 + (d + 1) = (cn F).toNat + 1 + d + 1 by omega, num_succ, num_top h d (by omega), bit_off h (by omega) (by omega)]
    omega
theorem num_16 {F : List Int} (h : Ok F) : num F 16 = rem F ((cn F).toNat + 1) 0 := by
  have h1 := h.lo
  have h2 := h.hi
  have := num_top h (15 - (cn F).toNat) (by omega)
  rw [show (cn F).toNat + 1 + (15 - (cn F).toNat) = 16 by omega] at this
  rw [this, num_zero]
theorem num_16_range {F : List Int} (h : Ok F) : 0 ≤ num F 16 ∧ num F 16 ≤ 65535 := by
  have := num_range F 16
  have e : (2 : Int) ^ 16 = 65536 := by decide
  omega
set_option maxHeartbeats 4000000 in
theorem rchanges_any (F : List Int) (w : World) (hb : Hb F) : Calls Try.prog 18 #[ag F] w fun e w' => e = .returned (.tuple #[.string (strOfNums (cgT F)), .int .i64 (chk F)]) ∧ Below w.heap.size w w' := by
  have HL : Hid (F.length = 33) := hb.len
  have H0 : Hid (F[0]? = some (cn F)) := cl_at (by rw [hb.len]; omega)
  have HC : Hid (cut F 0 33 = F) := cut_all hb.len
  have HE : Hid (0 + 33 ≤ F.length) := by show 0 + 33 ≤ _; rw [hb.len]; omega
  have HK : Hid (∀ u, Calls Try.prog 14 #[ag F] u fun e w' => e = .returned (.int .i64 (chk F)) ∧ Below u.heap.size u w') := fun u => rhub_any F u hb
  have hM := Mm.nil w
  by_cases h0 : ¬ chk F = 0
  · have HV : Hid (strOfNums (cgT F) = ⟨#[]⟩) := by show _ = _; unfold cgT; rw [if_pos h0]; rfl
    rw [HV.out]
    have e0 : (chk F != 0) = true := by simpa using h0
    clear h0 HV hb
    generalize chk F = z at *
    go_enter Try.func18, Try.ntmps18
    repeat' (first | (go_big_may; first | (refine a_box rfl rfl rfl ?_; intro u zb hN; replace hM := hM.new hN; clear hN) | (refine a_load rfl rfl row_hub rfl hM.at0 HE.out HC.out ?_)) | go_values | go_skip | go_guarded | go_step | go_upon | (simp only [Int.not_lt, Int.not_le] at *; go_simp))
    refine (HK.out _).mono ?_
    rintro r u ⟨rfl, hv⟩
    replace hM := hM.call hv
    clear hv
    repeat' (first | go_values | go_skip | go_guarded | go_step | go_upon | (simp only [Int.not_lt, Int.not_le] at *; go_simp))
    go_ret2
    exact ⟨rfl, hM.below⟩
  have h0 : chk F = 0 := by omega
  have hok := chk_ok hb.len h0
  have HOK : Hid (Ok F) := hok
  have hc1 := hok.lo
  have hc2 := hok.hi
  rw [h0] at HK
  rw [h0]
  obtain ⟨N, hN⟩ : ∃ N, num F 16 = N := ⟨_, rfl⟩
  obtain ⟨hN0, hN1⟩ := num_16_range hok
  rw [hN] at hN0 hN1
  have HN : Hid (rem F ((cn F).toNat + 1) 0 = N) := by show _ = N; rw [← hN, num_16 hok]
  obtain ⟨m1, hm⟩ : ∃ m1 : Nat, cn F / 8 = (m1 : Int) := ⟨(cn F / 8).toNat, by omega⟩
  have hm2 : m1 ≤ 1 := by omega
  have HCG : Hid (cgT F = [N % 256, N / 256].take (m1 + 1)) := by
    show _ = _
    rw [← byT_end hok hm]
    unfold byT
    rw [hN]
  have HT2 : Hid (∀ u : World, Calls Try.prog 34 #[.int .i64 N] u fun e w' => e = .returned (.string (strOfNums (wrd N))) ∧ Below u.heap.size u w') := fun u => setup.twoBytes_any _ hN0 hN1 u
  have HCT : Hid (((strOfNums (wrd N)).extract 0 (m1 + 1)) = strOfNums (cgT F)) := by
    show _ = _
    rw [HCG.out]
    apply setup.nums_inj
    rw [lane.nums_extract, lane.nums_str, lane.nums_str]
    · rcases (by omega : m1 = 0 ∨ m1 = 1) with rfl | rfl <;> rfl
    · intro x hx
      have := List.mem_of_mem_take hx
      simp at this
      omega
    · intro x hx
      simp [wrd] at hx
      omega
  have hTz : (strOfNums (wrd N)).size = 2 := by rw [str_size]; rfl
  clear h0 hb hok hN HCG
  obtain ⟨c, hcc⟩ : ∃ c, cn F = c := ⟨_, rfl⟩
  have HCN : Hid (cn F = c) := hcc
  rw [hcc] at H0 hm hc1 hc2 HN
  clear hcc
  generalize strOfNums (wrd N) = T2 at *
  go_enter Try.func18, Try.ntmps18
  repeat' (first | (go_big_may; first | (refine a_box rfl rfl rfl ?_; intro u zb hN; replace hM := hM.new hN; clear hN) | (refine a_load rfl rfl row_hub rfl hM.at0 HE.out HC.out ?_)) | go_values | go_skip | go_guarded | go_step | go_upon | (simp only [Int.not_lt, Int.not_le] at *; go_simp))
  refine (HK.out _).mono ?_
  rintro r u ⟨rfl, hv⟩
  replace hM := hM.call hv
  clear hv
  repeat' (first | (go_big_may; first | (refine a_get rfl rfl rfl hM.at0 H0.out ?_)) | go_values | go_skip | go_guarded | go_step | go_upon | (simp only [Int.not_lt, Int.not_le] at *; go_simp))
  go_loopw [5, 6] (fun nv kv wr => ∃ q n : Int, nv = .int .i64 n ∧ kv = .int .i64 q ∧ -1 ≤ q ∧ q ≤ 15 ∧ 0 ≤ n ∧ n ≤ 65535 ∧ Hid ((∃ kk : Nat, q = (kk : Int) - 1 ∧ kk ≤ c.toNat + 1 ∧ n = rem F (c.toNat + 1 - kk) kk) ∧ Mm w wr [(zb, 26, F)])) (fun _ kv _ => (intOf kv + 1).toNat)
  case atStart => exact ⟨c, 0, rfl, rfl, by omega, by omega, by omega, by omega, ⟨c.toNat + 1, by omega, by omega, by rw [Nat.sub_self]; rfl⟩, hM⟩
  case round =>
    clear hM
    obtain ⟨q, n, rfl, rfl, hq1, hq2, hn1, hn2, HA⟩ := hrel
    have hM := HA.out.2
    by_cases hq0 : ¬ 0 ≤ q
    · obtain ⟨kk, hk1, hk2, hk3⟩ := HA.out.1
      have hkz : kk = 0 := by omega
      subst hkz
      rw [Nat.sub_zero, HN.out] at hk3
      have hq : q = -1 := by omega
      subst hq hk3
      clear HA hk1 hk2 HN hq0 hq1 hq2
      have hw4 : IntKind.i64.wrap (c.tdiv 8) = (m1 : Int) := by rw [Int.tdiv_eq_ediv_of_nonneg (by omega), hm, IntKind.wrap_i64]; omega
      have hw5 : IntKind.i64.wrap ((m1 : Int) + 1) = (m1 : Int) + 1 := by rw [IntKind.wrap_i64]; omega
      repeat' (first | go_values | go_skip | go_guarded | go_step | go_upon | (simp only [Int.not_lt, Int.not_le] at *; go_simp))
      go_simp
      refine reg.wp_abs (fun a0 => a0.tmps.size = 35 ∧ (∀ h, a0.tmps[1]'h = .pointer (some ⟨zb, 0, none⟩)) ∧ (∀ h, a0.tmps[5]'h = .int .i64 n)) ⟨rfl, fun _ => rfl, fun _ => rfl⟩ ?_
      rintro a0 ⟨hsz, s1, s5⟩ ha0
      refine reg.wp_region_E (S := fun W => Ls W [(zb, 26, F)]) (E := fun _ => false) (by kernel_rfl) ?_
      replace hM := hM.drew
      refine reg.e_take (i := 0) (.int .i64 n) rfl (by kernel_rfl) (by kernel_rfl) (by kernel_rfl) (by kernel_rfl) (fun _ _ _ h => h) (reg.wanted_none rfl) (hM.ls (by simp)) (fun W hW => by simp [execOp, go_sem, Act.put, hsz, s1, s5]) ?_
      refine reg.e_take (i := 2) (.pointer (some ⟨zb, 0, none⟩)) rfl (by kernel_rfl) (by kernel_rfl) (by kernel_rfl) (by kernel_rfl) (fun _ _ _ h => h) (reg.wanted_none rfl) (hM.ls (by simp)) (fun W hW => by simp [execOp, go_sem, Act.put, hsz, s1, s5]) ?_
      refine reg.e_take (i := 3) (.int .i64 c) rfl (by kernel_rfl) (by kernel_rfl) (by kernel_rfl) (by kernel_rfl) (fun _ _ _ h => h) (reg.wanted_none rfl) (hM.ls (by simp)) (fun W hW => ex_get rfl (by simp [go_sem, Act.put, hsz, s1, s5]) hW.at0 H0.out) ?_
      refine reg.e_take (i := 4) (.int .i64 (m1 : Int)) rfl (by kernel_rfl) (by kernel_rfl) (by kernel_rfl) (by kernel_rfl) (fun _ _ _ h => h) (reg.wanted_none rfl) (hM.ls (by simp)) (fun W hW => by simp [execOp, go_sem, Act.put, hsz, s1, s5, hw4]) ?_
      refine reg.e_take (i := 5) (.int .i64 ((m1 : Int) + 1)) rfl (by kernel_rfl) (by kernel_rfl) (by kernel_rfl) (by kernel_rfl) (fun _ _ _ h => h) (reg.wanted_none rfl) (hM.ls (by simp)) (fun W hW => by simp [execOp, go_sem, Act.put, hsz, s1, s5, hw5]) ?_
      refine reg.e_one 1 (by kernel_rfl) rfl ?_
      refine reg.r_call (i := 1) 34 #[.int .i64 n] rfl (reg.wanted_none rfl) (by simp [execOp, go_sem, Act.put, hsz, s1, s5]) ((HT2.out _).mono ?_)
      rintro re ru1 ⟨rfl, rhv⟩
      replace hM := hM.call rhv
      clear rhv
      refine ⟨_, rfl, hM.ls (by simp), ?_⟩
      refine reg.e_take (i := 6) (.string (strOfNums (cgT F))) rfl (by kernel_rfl) (by kernel_rfl) (by kernel_rfl) (by kernel_rfl) (fun _ _ _ h => h) (reg.wanted_none rfl) (hM.ls (by simp)) (fun W hW => by rw [← HCT.out]; rcases (by omega : m1 = 0 ∨ m1 = 1) with rfl | rfl <;> simp [execOp, go_sem, Act.put, hsz, s1, s5, hTz]) ?_
      refine reg.e_take (i := 7) (.string (strOfNums (cgT F))) rfl (by kernel_rfl) (by kernel_rfl) (by kernel_rfl) (by kernel_rfl) (fun _ _ _ h => h) (reg.wanted_none rfl) (hM.ls (by simp)) (fun W hW => by simp [execOp, go_sem, Act.put, hsz, s1, s5]) ?_
      refine reg.e_take (i := 8) (.int .i64 0) rfl (by kernel_rfl) (by kernel_rfl) (by kernel_rfl) (by kernel_rfl) (fun _ _ _ h => h) (reg.wanted_none rfl) (hM.ls (by simp)) (fun W hW => by simp [execOp, go_sem, Act.put, hsz, s1, s5]) ?_
      refine reg.e_done (by kernel_rfl) ?_ _
      subst ha0
      clear hsz s1 s5
      go_simp
      repeat' (first | go_values | go_skip | go_guarded | go_step | go_upon | (simp only [Int.not_lt, Int.not_le] at *; go_simp))
      go_ret2
      exact ⟨rfl, hM.below⟩
    obtain ⟨j, rfl⟩ : ∃ j : Nat, q = (j : Int) := ⟨q.toNat, by omega⟩
    obtain ⟨kk, hk1, hk2, hk3⟩ := HA.out.1
    have hkj : kk = j + 1 := by omega
    subst hkj
    have hj16 : j < 16 := by omega
    have HG : Hid (F[1 + j * 2 + 1]? = some (chg F j)) := cl_at (by rw [HL.out]; omega)
    have hstep : rem F (c.toNat + 1 - j) j = bit F j + 2 * n := by
      rw [show c.toNat + 1 - j = (c.toNat + 1 - (j + 1)) + 1 by omega, rem_succ, ← hk3]
    have hrr := rem_range F (c.toNat + 1 - j) j
    have hpw : (2 : Int) ^ (c.toNat + 1 - j) ≤ 65536 := by
      have e : (2 : Nat) ^ (c.toNat + 1 - j) ≤ 2 ^ 16 := Nat.pow_le_pow_right (by omega) (by omega)
      have e2 : ((2 ^ (c.toNat + 1 - j) : Nat) : Int) = 2 ^ (c.toNat + 1 - j) := by simp
      have e3 : (2 : Nat) ^ 16 = 65536 := by decide
      omega
    have hch := HOK.out.ch hj16
    by_cases hc : chg F j = 0
    · have HS : Hid (n * 2 = rem F (c.toNat + 1 - j) j) := by
        show _ = _
        rw [hstep]; unfold bit; rw [if_pos hc]; omega
      have hb2 : n * 2 ≤ 65535 := by have := HS.out; omega
      rw [hc] at HG
      have hk2' : j ≤ c.toNat + 1 := by omega
      clear HA hk1 hk2 hk3 hstep hrr hpw hch hc HN
      repeat' (first | (go_big_may; first | (refine a_get rfl rfl rfl hM.at0 HG.out ?_)) | go_values | go_skip | go_guarded | go_step | go_upon | (simp only [Int.not_lt, Int.not_le] at *; go_simp))
      go_roundw
      case rel => exact ⟨by omega, by omega, by omega, ⟨j, rfl, hk2', HS.out⟩⟩
      case measure => simp [intOf]; omega
    · have HS : Hid (n * 2 + 1 = rem F (c.toNat + 1 - j) j) := by
        show _ = _
        rw [hstep]; unfold bit; rw [if_neg hc]; omega
      have hb2 : n * 2 + 1 ≤ 65535 := by have := HS.out; omega
      have hpos : 0 < chg F j := by omega
      have hk2' : j ≤ c.toNat + 1 := by omega
      clear HA hk1 hk2 hk3 hstep hrr hpw hch hc HN
      generalize chg F j = x at *
      repeat' (first | (go_big_may; first | (refine a_get rfl rfl rfl hM.at0 HG.out ?_)) | go_values | go_skip | go_guarded | go_step | go_upon | (simp only [Int.not_lt, Int.not_le] at *; go_simp))
      go_roundw
      case rel => exact ⟨by omega, by omega, by omega, ⟨j, rfl, hk2', HS.out⟩⟩
      case measure => simp [intOf]; omega
end Go.Proofs.Ytdnmjeiljpdmcaa.hub
