/- slots, the document's answer: what Two and Configured answer. -/
import Derived.Test.YtfhlbndilkidhaaSltT
import Derived.Test.YtfhlbndilkidhaaSltRa
import Derived.Test.YtfhlbndilkidhaaSltV
namespace Go.Proofs.Ytfhlbndilkidhaa.slots
open Go Go.RowKit
set_option linter.unusedVariables false
set_option linter.unusedSimpArgs false
set_option maxRecDepth 100000

theorem pow_bd : ∀ j : Fin 33, (1 : Int) ≤ 2 ^ j.val ∧ (2 : Int) ^ j.val ≤ 4294967296 := by decide
theorem ret_i64 {a b : Int} (h : a = b) : Ending.returned (.int .i64 a) = .returned (.int .i64 b) := by rw [h]
theorem two_any (k : Nat) (hk : k ≤ 32) (w : World) : Calls Try.prog 37 #[.int .i64 (k : Int)] w fun e w' => e = .returned (.int .i64 (2 ^ k)) ∧ w' = w := by
  go_enter Try.func37, Try.ntmps37
  go_wp2
  go_loop [3, 5] (fun n i => ∃ (j : Nat) (p : Int), j ≤ k ∧ 1 ≤ p ∧ p ≤ 4294967296 ∧ i = .int .i64 j ∧ n = .int .i64 p ∧ Hid (p = 2 ^ j)) (fun _ i => k - (intOf i).toNat)
  case atStart => exact ⟨0, 1, Nat.zero_le _, by omega, by omega, rfl, rfl, rfl⟩
  case round =>
    obtain ⟨j, p, hj, h1, h2, rfl, rfl, HP⟩ := hrel
    by_cases hlt : j < k
    · have hb := pow_bd ⟨j + 1, by omega⟩
      simp only [Int.pow_succ, ← HP.out] at hb
      go_wp2
      go_round
      case rel => exact ⟨j + 1, p * 2, by omega, hb.1, hb.2, by go_num, rfl, by show _ = _; rw [Int.pow_succ, HP.out]⟩
      case measure => simp [intOf]; omega
    · obtain rfl : j = k := by omega
      go_wp2
      go_ret
      exact ⟨ret_i64 HP.out, rfl⟩
theorem bld_two (x : Int) (w : World) : (Instr.build 24 #[(0, .int .i64 2), (1, .int .i64 x)]).run Try.prog w = .ok (ag (two66 x)) w := by kernel_rfl
theorem h_put {md : Region.Mode} {ops : Array Oper} {Q : Exit → Act → World → Prop} {S : World → Prop} {i : Nat} {o : Oper} {fuel : Nat} {L : Array Bool} {a : Act} {W : World} (hi : ops[i]? = some o) (hrd : Region.ready md ops L = [i]) (hg : o.guard = none)
    {x y : Operand} (ho : o.op = .store 3 x y) {B j : Nat} {T : TypeId} {l : List Int} {v : Int} (hx : a.eval x = .pointer (some ⟨B, j, none⟩)) (hy : a.eval y = .int .i64 v) (hB : W.heap[B]? = some (bx T l)) (hj : j < l.length)
    (h : ∀ u, u.heap[B]? = some (bx T (l.set j v)) → Chg B W u → S u ∧ wpAnyH Try.prog md ops Q S fuel (L.setIfInBounds i true) (a.put o.dst undef) u) : wpAnyH Try.prog md ops Q S (fuel + 1) L a W := by
  have hc := bx_cell hB (List.getElem?_eq_getElem hj)
  have hf := bx_free hB j
  have hs : (Instr.storeAt 3 (.pointer (some ⟨B, j, none⟩)) (.int .i64 v)).run Try.prog W = .ok () (W.setCell ⟨B, j, none⟩ (.int .i64 v)) := by
    simp [go_sem, hc, hf]
  have hr : (execOp a.eval o).run Try.prog W = .ok .skip (W.setCell ⟨B, j, none⟩ (.int .i64 v)) := by
    unfold execOp
    simp only [ho, hx, hy, Sem.run_bind, hs, Result.andThen_ok, Sem.run_pure]
  have hu := h _ (set_bx hB).1 (set_bx hB).2
  exact h_skip hi hrd hg hr hu.1 hu.2
set_option maxHeartbeats 16000000 in
theorem configured_any (s : List Int) (a : Int) (w : World) (hs : s.length = 66) (hr : right s = true) (h0 : ¬ st s = 0) : Calls Try.prog 27 #[ag s, .int .i64 a] w fun r w' => r = .returned (.tuple #[ag (cfg s a).1, .int .i64 (cfg s a).2]) ∧ Below w.heap.size w w' := by
  have HL : Hid (s.length = 66) := hs
  have HE : Hid (0 + 66 ≤ s.length) := by show 0 + 66 ≤ _; omega
  have HC : Hid (cut s 0 66 = s) := cut_all hs
  have H0 : Hid (s[0]? = some (cl s 0)) := cl_at (by omega)
  have H1 : Hid (s[1]? = some (cl s 1)) := cl_at (by omega)
  have H3 : Hid (s[3]? = some (cl s 3)) := cl_at (by omega)
  have H35 : Hid (s[35]? = some (cl s 35)) := cl_at (by omega)
  have HT : Hid (∀ w : World, Calls Try.prog 37 #[.int .i64 32] w fun e w' => e = .returned (.int .i64 4294967296) ∧ w' = w) := two_any 32 (by omega)
  have HB : Hid (∀ u, Calls Try.prog 13 #[.int .i64 a, .int .i64 0, .int .i64 4294967295] u fun e w' => e = .returned (.bool (decide (0 ≤ a) && decide (a ≤ 4294967295))) ∧ u = w') := between_any _ _ _
  have hM := Mm.nil w
  cases hbw : (decide (0 ≤ a) && decide (a ≤ 4294967295))
  · have HQ : Hid (cfg s a = (s, 17)) := by show cfg s a = _; unfold cfg stB; rw [hbw, if_pos (by rfl)]
    rw [hbw] at HB
    clear hs hbw hr h0
    go_enter Try.func27, Try.ntmps27
    repeat' (first | (go_big_may; first | (refine a_box rfl rfl rfl ?_; intro u zb hN; replace hM := hM.new hN; clear hN) | (refine a_alloc rfl zer_slot rfl ?_; intro u zb hN; replace hM := hM.new hN; clear hN)) | go_values | go_skip | go_guarded | go_step | go_upon | (simp only [Int.not_lt, Int.not_le] at *; go_simp))
    refine (HT.out _).mono ?_
    rintro r u ⟨rfl, rfl⟩
    repeat' (first | go_values | go_skip | go_guarded | go_step | go_upon | (simp only [Int.not_lt, Int.not_le] at *; go_simp))
    refine (HB.out _).mono ?_
    rintro r u ⟨rfl, rfl⟩
    repeat' (first | (go_big_may; first | (refine a_load rfl rfl row_slot rfl hM.at1 HE.out HC.out ?_) | (refine a_fill rfl rfl row_slot rfl rfl hM.at0 HL.out List.length_replicate ?_; intro u hv hc; replace hM := hM.put0 hc hv; clear hv hc)) | go_values | go_skip | go_guarded | go_step | go_upon | (simp only [Int.not_lt, Int.not_le] at *; go_simp))
    rw [HQ.out]
    exact bodyPost_ret (ret_2 Try.results27 rfl (ld_var row_slot hM.at0 HL.out) rfl) rfl ⟨rfl, hM.below⟩
  rw [hbw] at HB
  have hb2 : 0 ≤ a ∧ a ≤ 4294967295 := by simpa using hbw
  obtain ⟨n, rfl⟩ : ∃ n : Nat, a = n := ⟨a.toNat, by omega⟩
  have hn : n ≤ 4294967295 := by omega
  by_cases h4 : ¬ (n : Int) % 4 = 0
  · have HQ : Hid (cfg s (n : Int) = (s, 17)) := by show cfg s n = _; unfold cfg stB; rw [hbw, if_pos (by rw [decide_eq_false h4]; rfl)]
    have e4 : ((n : Int) % 4 != 0) = true := by simpa using h4
    clear hs hbw hr h0 hb2 h4
    go_enter Try.func27, Try.ntmps27
    repeat' (first | (go_big_may; first | (refine a_box rfl rfl rfl ?_; intro u zb hN; replace hM := hM.new hN; clear hN) | (refine a_alloc rfl zer_slot rfl ?_; intro u zb hN; replace hM := hM.new hN; clear hN)) | go_values | go_skip | go_guarded | go_step | go_upon | (simp only [Int.not_lt, Int.not_le] at *; go_simp))
    refine (HT.out _).mono ?_
    rintro r u ⟨rfl, rfl⟩
    repeat' (first | go_values | go_skip | go_guarded | go_step | go_upon | (simp only [Int.not_lt, Int.not_le] at *; go_simp))
    refine (HB.out _).mono ?_
    rintro r u ⟨rfl, rfl⟩
    repeat' (first | (go_big_may; first | (refine a_load rfl rfl row_slot rfl hM.at1 HE.out HC.out ?_) | (refine a_fill rfl rfl row_slot rfl rfl hM.at0 HL.out List.length_replicate ?_; intro u hv hc; replace hM := hM.put0 hc hv; clear hv hc)) | go_values | go_skip | go_guarded | go_step | go_upon | (simp only [Int.not_lt, Int.not_le] at *; go_simp))
    rw [HQ.out]
    exact bodyPost_ret (ret_2 Try.results27 rfl (ld_var row_slot hM.at0 HL.out) rfl) rfl ⟨rfl, hM.below⟩
  have h4 : (n : Int) % 4 = 0 := by omega
  have e4 : ((n : Int) % 4 != 0) = false := by simpa using h4
  have hst : stB (n : Int) = true := by unfold stB; rw [hbw, decide_eq_true h4]; rfl
  by_cases h3 : cl s 0 = 1
  · have HQ : Hid (cfg s (n : Int) = (s, 19)) := by show cfg s n = _; unfold cfg st; rw [hst, if_neg (by simp), if_pos h3]
    have e1 : (cl s 0 == 1) = true := by simpa using h3
    clear hs hbw hr h0 hb2 h4 h3 hst
    go_enter Try.func27, Try.ntmps27
    repeat' (first | (go_big_may; first | (refine a_box rfl rfl rfl ?_; intro u zb hN; replace hM := hM.new hN; clear hN) | (refine a_alloc rfl zer_slot rfl ?_; intro u zb hN; replace hM := hM.new hN; clear hN)) | go_values | go_skip | go_guarded | go_step | go_upon | (simp only [Int.not_lt, Int.not_le] at *; go_simp))
    refine (HT.out _).mono ?_
    rintro r u ⟨rfl, rfl⟩
    repeat' (first | go_values | go_skip | go_guarded | go_step | go_upon | (simp only [Int.not_lt, Int.not_le] at *; go_simp))
    refine (HB.out _).mono ?_
    rintro r u ⟨rfl, rfl⟩
    repeat' (first | (go_big_may; first | (refine a_get rfl rfl rfl hM.at1 H0.out ?_) | (refine a_load rfl rfl row_slot rfl hM.at1 HE.out HC.out ?_) | (refine a_fill rfl rfl row_slot rfl rfl hM.at0 HL.out List.length_replicate ?_; intro u hv hc; replace hM := hM.put0 hc hv; clear hv hc)) | go_values | go_skip | go_guarded | go_step | go_upon | (simp only [Int.not_lt, Int.not_le] at *; go_simp))
    rw [HQ.out]
    exact bodyPost_ret (ret_2 Try.results27 rfl (ld_var row_slot hM.at0 HL.out) rfl) rfl ⟨rfl, hM.below⟩
  have HQ : Hid (cfg s (n : Int) = (rfL s (n : Int) 32, 1)) := by show cfg s n = _; unfold cfg st; rw [hst, if_neg (by simp), if_neg h3, rf_end hs (right_big hr h0 h3) hst]
  have e1 : (cl s 0 == 1) = false := by simpa using h3
  have HTL : Hid ((two66 (cl s 1)).length = 66) := two_len _
  have hbt := bld_two (cl s 1)
  rw [HQ.out]
  clear hs hbw hr h0 hb2 h4 h3 hst HQ
  go_enter Try.func27, Try.ntmps27
  repeat' (first | (go_big_may; first | (refine a_box rfl rfl rfl ?_; intro u zs hN; replace hM := hM.new hN; clear hN) | (refine a_alloc rfl zer_slot rfl ?_; intro u zr hN; replace hM := hM.new hN; clear hN)) | go_values | go_skip | go_guarded | go_step | go_upon | (simp only [Int.not_lt, Int.not_le] at *; go_simp))
  refine (HT.out _).mono ?_
  rintro r u ⟨rfl, rfl⟩
  repeat' (first | go_values | go_skip | go_guarded | go_step | go_upon | (simp only [Int.not_lt, Int.not_le] at *; go_simp))
  refine (HB.out _).mono ?_
  rintro r u ⟨rfl, rfl⟩
  repeat' (first | (go_big_may; first | (refine a_get rfl rfl rfl hM.at1 H0.out ?_) | (refine a_get rfl rfl rfl hM.at1 H1.out ?_) | (refine a_build rfl rfl hbt (by simp [Act.eval, Act.put]) ?_) | (refine a_alloc rfl zer_slot rfl ?_; intro u zt hN; replace hM := hM.new hN; clear hN) | (refine a_fill rfl rfl row_slot rfl rfl hM.at0 HTL.out List.length_replicate ?_; intro u hv hc; replace hM := hM.put0 hc hv; clear hv hc)) | go_values | go_skip | go_guarded | go_step | go_upon | (simp only [Int.not_lt, Int.not_le] at *; go_simp))
  go_simp
  refine wp_abs (fun a0 => a0.tmps.size = 63 ∧ (∀ h, a0.tmps[2]'h = .pointer (some ⟨zs, 0, none⟩)) ∧ (∀ h, a0.tmps[6]'h = .pointer (some ⟨zt, 0, none⟩))) ⟨rfl, fun _ => rfl, fun _ => rfl⟩ ?_
  rintro a0 ⟨hsz, s2, s6⟩ ha0
  refine wp_region_held (S := fun W => ∃ l : List Int, l.length = 66 ∧ Mm w W [(zt, 24, l), (zr, 24, List.replicate 66 0), (zs, 24, s)]) (by kernel_rfl) ?_
  have hd0 : Mm w u.drew [(zt, 24, two66 (cl s 1)), (zr, 24, List.replicate 66 0), (zs, 24, s)] := ⟨hM.lies, hM.own, hM.ap, hM.below.drew⟩
  have hS0 : ∃ l : List Int, l.length = 66 ∧ Mm w u.drew [(zt, 24, l), (zr, 24, List.replicate 66 0), (zs, 24, s)] := ⟨_, HTL.out, hd0⟩
  refine h_take (i := 0) (.pointer (some ⟨zs, 2, none⟩)) rfl (by kernel_rfl) (by kernel_rfl) (by kernel_rfl) (fun _ _ _ h => h) rfl hS0 (fun W hW => by simp [execOp, go_sem, Act.put, hsz, s2, s6]) ?_
  refine h_take (i := 1) (.pointer (some ⟨zs, 3, none⟩)) rfl (by kernel_rfl) (by kernel_rfl) (by kernel_rfl) (fun _ _ _ h => h) rfl hS0 (fun W hW => by simp [execOp, go_sem, Act.put, hsz, s2, s6]) ?_
  refine h_take (i := 2) (.int .i64 (cl s 3)) rfl (by kernel_rfl) (by kernel_rfl) (by kernel_rfl) (fun _ _ _ h => h) rfl hS0 (fun W hW => by
      obtain ⟨l, hl, hm⟩ := hW
      exact ex_get rfl (by simp [go_sem, Act.put, hsz, s2, s6]) hm.at2 H3.out) ?_
  refine h_take (i := 3) (.pointer (some ⟨zs, 34, none⟩)) rfl (by kernel_rfl) (by kernel_rfl) (by kernel_rfl) (fun _ _ _ h => h) rfl hS0 (fun W hW => by simp [execOp, go_sem, Act.put, hsz, s2, s6]) ?_
  refine h_take (i := 4) (.pointer (some ⟨zs, 35, none⟩)) rfl (by kernel_rfl) (by kernel_rfl) (by kernel_rfl) (fun _ _ _ h => h) rfl hS0 (fun W hW => by simp [execOp, go_sem, Act.put, hsz, s2, s6]) ?_
  refine h_take (i := 5) (.int .i64 (cl s 35)) rfl (by kernel_rfl) (by kernel_rfl) (by kernel_rfl) (fun _ _ _ h => h) rfl hS0 (fun W hW => by
      obtain ⟨l, hl, hm⟩ := hW
      exact ex_get rfl (by simp [go_sem, Act.put, hsz, s2, s6]) hm.at2 H35.out) ?_
  refine h_take (i := 6) (.pointer (some ⟨zt, 2, none⟩)) rfl (by kernel_rfl) (by kernel_rfl) (by kernel_rfl) (fun _ _ _ h => h) rfl hS0 (fun W hW => by simp [execOp, go_sem, Act.put, hsz, s2, s6]) ?_
  refine h_take (i := 9) (.pointer (some ⟨zt, 34, none⟩)) rfl (by kernel_rfl) (by kernel_rfl) (by kernel_rfl) (fun _ _ _ h => h) rfl hS0 (fun W hW => by simp [execOp, go_sem, Act.put, hsz, s2, s6]) ?_
  refine h_take (i := 7) (.pointer (some ⟨zt, 3, none⟩)) rfl (by kernel_rfl) (by kernel_rfl) (by kernel_rfl) (fun _ _ _ h => h) rfl hS0 (fun W hW => by simp [execOp, go_sem, Act.put, hsz, s2, s6]) ?_
  refine h_put (i := 8) (B := zt) (j := 3) (v := cl s 3) rfl (by kernel_rfl) rfl rfl (by simp [go_sem, Act.put, hsz, s2, s6]) (by simp [go_sem, Act.put, hsz, s2, s6]) hd0.at0 (by rw [HTL.out]; omega) (fun u1 hl1 hc1 => ?_)
  have hd1 := hd0.put0 hc1 hl1
  have hS1 : ∃ l : List Int, l.length = 66 ∧ Mm w u1 [(zt, 24, l), (zr, 24, List.replicate 66 0), (zs, 24, s)] := ⟨_, by simp only [List.length_set]; exact HTL.out, hd1⟩
  refine ⟨hS1, ?_⟩
  refine h_take (i := 10) (.pointer (some ⟨zt, 35, none⟩)) rfl (by kernel_rfl) (by kernel_rfl) (by kernel_rfl) (fun _ _ _ h => h) rfl hS1 (fun W hW => by simp [execOp, go_sem, Act.put, hsz, s2, s6]) ?_
  refine h_put (i := 11) (B := zt) (j := 35) (v := cl s 35) rfl (by kernel_rfl) rfl rfl (by simp [go_sem, Act.put, hsz, s2, s6]) (by simp [go_sem, Act.put, hsz, s2, s6]) hd1.at0 (by simp only [List.length_set]; exact (by rw [HTL.out]; omega)) (fun u2 hl2 hc2 => ?_)
  have hd2 := hd1.put0 hc2 hl2
  have hS2 : ∃ l : List Int, l.length = 66 ∧ Mm w u2 [(zt, 24, l), (zr, 24, List.replicate 66 0), (zs, 24, s)] := ⟨_, by simp only [List.length_set]; exact HTL.out, hd2⟩
  refine ⟨hS2, ?_⟩
  rw [rf_start (a := (n : Int))] at hd2
  refine wpAnyH_done (by kernel_rfl) ?_ _
  subst ha0
  clear hsz s2 s6 hS0 hS1 hS2 hd0 hd1 hM
  go_simp
  repeat' (first | go_values | go_skip | go_guarded | go_step | go_upon | (simp only [Int.not_lt, Int.not_le] at *; go_simp))
  have HM : Hid (Mm w u2 [(zt, 24, rfL s (n : Int) 2), (zr, 24, List.replicate 66 0), (zs, 24, s)]) := hd2
  clear hd2 HT HB hbt HTL H0 H1 H3 H35
  go_loopw [7] (fun i wr => ∃ k : Nat, 2 ≤ k ∧ k ≤ 32 ∧ i = .int .i64 (k : Int) ∧ Hid (Mm w wr [(zt, 24, rfL s (n : Int) k), (zr, 24, List.replicate 66 0), (zs, 24, s)])) (fun i _ => 32 - (intOf i).toNat)
  case atStart => exact ⟨2, by omega, by omega, rfl, HM.out⟩
  case round =>
    obtain ⟨k, hk2, hk, rfl, HA⟩ := hrel
    have hM := HA.out
    clear HA HM
    by_cases hlt : ¬ k < 32
    · have hk32 : k = 32 := by omega
      subst hk32
      have HFL : Hid ((rfL s (n : Int) 32).length = 66) := rfL_length _ _ _
      have HFE : Hid (0 + 66 ≤ (rfL s (n : Int) 32).length) := by show 0 + 66 ≤ _; rw [rfL_length]; omega
      have HFC : Hid (cut (rfL s (n : Int) 32) 0 66 = rfL s (n : Int) 32) := cut_all (rfL_length _ _ _)

      repeat' (first | (go_big_may; first | (refine a_load rfl rfl row_slot rfl hM.at0 HFE.out HFC.out ?_) | (refine a_fill rfl rfl row_slot rfl rfl hM.at1 HFL.out List.length_replicate ?_; intro u hv hc; replace hM := hM.put1 hc hv; clear hv hc)) | go_values | go_skip | go_guarded | go_step | go_upon | (simp only [Int.not_lt, Int.not_le] at *; go_simp))
      exact bodyPost_ret (ret_2 Try.results27 rfl (ld_var row_slot hM.at1 HFL.out) rfl) rfl ⟨rfl, hM.below⟩
    have hlt : k < 32 := by omega
    have HGe : Hid (s[2 + k]? = some (cl s (2 + k))) := cl_at (by rw [HL.out]; omega)
    have HGm : Hid (s[34 + k]? = some (cl s (34 + k))) := cl_at (by rw [HL.out]; omega)
    obtain ⟨p, hp1, hp2, hpe, HTW⟩ : ∃ p : Int, 1 ≤ p ∧ p ≤ 4294967296 ∧ p = 2 ^ k ∧ Hid (∀ w : World, Calls Try.prog 37 #[.int .i64 (k : Int)] w fun e w' => e = .returned (.int .i64 p) ∧ w' = w) := ⟨2 ^ k, (pow_bd ⟨k, by omega⟩).1, (pow_bd ⟨k, by omega⟩).2, rfl, two_any k (by omega)⟩
    obtain ⟨d, hd, hdb, hdk⟩ : ∃ d : Nat, (n : Int) / p = (d : Int) ∧ d ≤ 4294967295 ∧ bit (n : Int) k = (d : Int) % 2 := by
      have e : ((2 ^ k : Nat) : Int) = 2 ^ k := by simp
      refine ⟨n / 2 ^ k, ?_, Nat.le_trans (Nat.div_le_self _ _) hn, ?_⟩
      · rw [hpe, ← e]; rfl
      · unfold bit; rw [← e]; rfl
    have HDK : Hid (bit (n : Int) k = (d : Int) % 2) := hdk
    clear hpe hdk
    by_cases hbit : ¬ bit (n : Int) k = 1
    · have eb : ((d : Int) % 2 == 1) = false := by rw [HDK.out] at hbit; simpa using hbit
      have HN : Hid (rfL s (n : Int) k = rfL s (n : Int) (k + 1)) := rf_out hk2 hlt hbit
      clear hbit
      repeat' (first | go_values | go_skip | go_guarded | go_step | go_upon | (simp only [Int.not_lt, Int.not_le] at *; go_simp))
      refine (HTW.out _).mono ?_
      rintro r v ⟨rfl, rfl⟩
      repeat' (first | go_values | go_skip | go_guarded | go_step | go_upon | (simp only [Int.not_lt, Int.not_le] at *; go_simp))
      rw [HN.out] at hM
      go_roundw
      case rel => exact ⟨k + 1, by omega, by omega, by go_num, hM⟩
      case measure => simp [intOf]; omega
    have hbit : bit (n : Int) k = 1 := by
      by_cases z : bit (n : Int) k = 1
      · exact z
      · exact absurd z hbit
    have eb : ((d : Int) % 2 == 1) = true := by rw [HDK.out] at hbit; simpa using hbit
    have HBit : Hid (bit (n : Int) k = 1) := hbit
    clear hbit
    repeat' (first | go_values | go_skip | go_guarded | go_step | go_upon | (simp only [Int.not_lt, Int.not_le] at *; go_simp))
    refine (HTW.out _).mono ?_
    rintro r v ⟨rfl, rfl⟩
    repeat' (first | go_values | go_skip | go_guarded | go_step | go_upon | (simp only [Int.not_lt, Int.not_le] at *; go_simp))
    have hbit := HBit.out
    rename World => wr
    refine wp_abs (fun a0 => a0.tmps.size = 63 ∧ (∀ h, a0.tmps[2]'h = .pointer (some ⟨zs, 0, none⟩)) ∧ (∀ h, a0.tmps[6]'h = .pointer (some ⟨zt, 0, none⟩)) ∧ (∀ h, a0.tmps[7]'h = .int .i64 (k : Int))) ⟨rfl, fun _ => rfl, fun _ => rfl, fun _ => rfl⟩ ?_
    rintro a0 ⟨hsz, s2, s6, s7⟩ ha0
    refine wp_region_held (S := fun W => ∃ l : List Int, l.length = 66 ∧ Mm w W [(zt, 24, l), (zr, 24, List.replicate 66 0), (zs, 24, s)]) (by kernel_rfl) ?_
    have hd0 : Mm w wr.drew [(zt, 24, rfL s (n : Int) k), (zr, 24, List.replicate 66 0), (zs, 24, s)] := ⟨hM.lies, hM.own, hM.ap, hM.below.drew⟩
    have hS0 : ∃ l : List Int, l.length = 66 ∧ Mm w wr.drew [(zt, 24, l), (zr, 24, List.replicate 66 0), (zs, 24, s)] := ⟨_, rfL_length _ _ _, hd0⟩
    refine h_take (i := 0) (.int .i64 (k : Int)) rfl (by kernel_rfl) (by kernel_rfl) (by kernel_rfl) (fun _ _ _ h => h) rfl hS0 (fun W hW => by simp [execOp, go_sem, Act.put, hsz, s2, s6, s7]) ?_
    refine h_take (i := 1) (.int .i64 (k : Int)) rfl (by kernel_rfl) (by kernel_rfl) (by kernel_rfl) (fun _ _ _ h => h) rfl hS0 (fun W hW => by simp [execOp, go_sem, Act.put, hsz, s2, s6, s7]) ?_
    refine h_take (i := 2) (.int .i64 (k : Int)) rfl (by kernel_rfl) (by kernel_rfl) (by kernel_rfl) (fun _ _ _ h => h) rfl hS0 (fun W hW => by simp [execOp, go_sem, Act.put, hsz, s2, s6, s7]) ?_
    refine h_take (i := 3) (.pointer (some ⟨zs, 2, none⟩)) rfl (by kernel_rfl) (by kernel_rfl) (by kernel_rfl) (fun _ _ _ h => h) rfl hS0 (fun W hW => by simp [execOp, go_sem, Act.put, hsz, s2, s6, s7]) ?_
    refine h_take (i := 4) (.pointer (some ⟨zs, 2 + k, none⟩)) rfl (by kernel_rfl) (by kernel_rfl) (by kernel_rfl) (fun _ _ _ h => h) rfl hS0 (fun W hW => by simp [execOp, go_sem, Act.put, hsz, s2, s6, s7, hlt]; intro h; omega) ?_
    refine h_take (i := 5) (.int .i64 (cl s (2 + k))) rfl (by kernel_rfl) (by kernel_rfl) (by kernel_rfl) (fun _ _ _ h => h) rfl hS0 (fun W hW => by
        obtain ⟨l, hl, hm⟩ := hW
        exact ex_get rfl (by simp [go_sem, Act.put, hsz, s2, s6, s7]) hm.at2 HGe.out) ?_
    refine h_take (i := 6) (.int .i64 (if 1 < cl s (2 + k) then cl s (2 + k) else 1)) rfl (by kernel_rfl) (by kernel_rfl) (by kernel_rfl) (fun _ _ _ h => h) rfl hS0 (fun W hW => by simp [execOp, go_sem, Act.put, hsz, s2, s6, s7]) ?_
    refine h_take (i := 7) (.int .i64 (k : Int)) rfl (by kernel_rfl) (by kernel_rfl) (by kernel_rfl) (fun _ _ _ h => h) rfl hS0 (fun W hW => by simp [execOp, go_sem, Act.put, hsz, s2, s6, s7]) ?_
    refine h_take (i := 8) (.pointer (some ⟨zs, 34, none⟩)) rfl (by kernel_rfl) (by kernel_rfl) (by kernel_rfl) (fun _ _ _ h => h) rfl hS0 (fun W hW => by simp [execOp, go_sem, Act.put, hsz, s2, s6, s7]) ?_
    refine h_take (i := 9) (.pointer (some ⟨zs, 34 + k, none⟩)) rfl (by kernel_rfl) (by kernel_rfl) (by kernel_rfl) (fun _ _ _ h => h) rfl hS0 (fun W hW => by simp [execOp, go_sem, Act.put, hsz, s2, s6, s7, hlt]; intro h; omega) ?_
    refine h_take (i := 10) (.int .i64 (cl s (34 + k))) rfl (by kernel_rfl) (by kernel_rfl) (by kernel_rfl) (fun _ _ _ h => h) rfl hS0 (fun W hW => by
        obtain ⟨l, hl, hm⟩ := hW
        exact ex_get rfl (by simp [go_sem, Act.put, hsz, s2, s6, s7]) hm.at2 HGm.out) ?_
    refine h_take (i := 11) (.pointer (some ⟨zt, 0, none⟩)) rfl (by kernel_rfl) (by kernel_rfl) (by kernel_rfl) (fun _ _ _ h => h) rfl hS0 (fun W hW => by simp [execOp, go_sem, Act.put, hsz, s2, s6, s7]) ?_
    refine h_take (i := 13) (.pointer (some ⟨zt, 2, none⟩)) rfl (by kernel_rfl) (by kernel_rfl) (by kernel_rfl) (fun _ _ _ h => h) rfl hS0 (fun W hW => by simp [execOp, go_sem, Act.put, hsz, s2, s6, s7]) ?_
    refine h_take (i := 16) (.pointer (some ⟨zt, 34, none⟩)) rfl (by kernel_rfl) (by kernel_rfl) (by kernel_rfl) (fun _ _ _ h => h) rfl hS0 (fun W hW => by simp [execOp, go_sem, Act.put, hsz, s2, s6, s7]) ?_
    refine h_put (i := 12) (B := zt) (j := 0) (v := 3) rfl (by kernel_rfl) rfl rfl (by simp [go_sem, Act.put, hsz, s2, s6, s7]) (by simp [go_sem, Act.put, hsz, s2, s6, s7]) hd0.at0 (by rw [rfL_length]; omega) (fun u1 hl1 hc1 => ?_)
    have hd1 := hd0.put0 hc1 hl1
    have hS1 : ∃ l : List Int, l.length = 66 ∧ Mm w u1 [(zt, 24, l), (zr, 24, List.replicate 66 0), (zs, 24, s)] := ⟨_, by simp only [List.length_set]; exact rfL_length _ _ _, hd1⟩
    refine ⟨hS1, ?_⟩
    refine h_take (i := 14) (.pointer (some ⟨zt, 2 + k, none⟩)) rfl (by kernel_rfl) (by kernel_rfl) (by kernel_rfl) (fun _ _ _ h => h) rfl hS1 (fun W hW => by simp [execOp, go_sem, Act.put, hsz, s2, s6, s7, hlt]; intro h; omega) ?_
    refine h_put (i := 15) (B := zt) (j := 2 + k) (v := if 1 < cl s (2 + k) then cl s (2 + k) else 1) rfl (by kernel_rfl) rfl rfl (by simp [go_sem, Act.put, hsz, s2, s6, s7]) (by simp [go_sem, Act.put, hsz, s2, s6, s7]) hd1.at0 (by simp only [List.length_set]; exact (by rw [rfL_length]; omega)) (fun u2 hl2 hc2 => ?_)
    have hd2 := hd1.put0 hc2 hl2
    have hS2 : ∃ l : List Int, l.length = 66 ∧ Mm w u2 [(zt, 24, l), (zr, 24, List.replicate 66 0), (zs, 24, s)] := ⟨_, by simp only [List.length_set]; exact rfL_length _ _ _, hd2⟩
    refine ⟨hS2, ?_⟩
    refine h_take (i := 17) (.pointer (some ⟨zt, 34 + k, none⟩)) rfl (by kernel_rfl) (by kernel_rfl) (by kernel_rfl) (fun _ _ _ h => h) rfl hS2 (fun W hW => by simp [execOp, go_sem, Act.put, hsz, s2, s6, s7, hlt]; intro h; omega) ?_
    refine h_put (i := 18) (B := zt) (j := 34 + k) (v := cl s (34 + k)) rfl (by kernel_rfl) rfl rfl (by simp [go_sem, Act.put, hsz, s2, s6, s7]) (by simp [go_sem, Act.put, hsz, s2, s6, s7]) hd2.at0 (by simp only [List.length_set]; exact (by rw [rfL_length]; omega)) (fun u3 hl3 hc3 => ?_)
    have hd3 := hd2.put0 hc3 hl3
    have hS3 : ∃ l : List Int, l.length = 66 ∧ Mm w u3 [(zt, 24, l), (zr, 24, List.replicate 66 0), (zs, 24, s)] := ⟨_, by simp only [List.length_set]; exact rfL_length _ _ _, hd3⟩
    refine ⟨hS3, ?_⟩
    rw [rf_in hk2 hlt hbit] at hd3
    refine wpAnyH_done (by kernel_rfl) ?_ _
    subst ha0
    clear hsz s2 s6 s7 hS0 hS1 hS2 hS3 hd0 hd1 hd2 hM
    go_simp
    repeat' (first | go_values | go_skip | go_guarded | go_step | go_upon | (simp only [Int.not_lt, Int.not_le] at *; go_simp))
    go_roundw
    case rel => exact ⟨k + 1, by omega, by omega, by go_num, hd3⟩
    case measure => simp [intOf]; omega
end Go.Proofs.Ytfhlbndilkidhaa.slots
