/- HubTwice: a plug, a tick, an ask done twice in a row is done once. -/
import Derived.Test.YtdnmjeiljpdmcabHubL
import Derived.Test.YtdnmjeiljpdmcabHubO
namespace Go.Proofs.Ytdnmjeiljpdmcab.hubTwice
open Go Go.RowKit Go.PlainAid Go.Proofs.Ytdnmjeiljpdmcab.hub
set_option linter.unusedVariables false
set_option linter.unusedSimpArgs false
set_option maxRecDepth 100000

set_option maxHeartbeats 16000000 in
theorem walk (F : List Int) (n : Int) (t : Bool) (q : ByteArray) (hn : (Lit.int .i64 n).wf = true) (hq : q.size ≤ maxLen) (w : World) (hb : Hb F) : Calls Try.prog 3 #[ag F, .int .i64 n, .bool t, .string q] w fun r w' => r = .returned (.bool true) ∧ Below w.heap.size w w' := by
  have HL : Hid (F.length = 33) := hb.len
  have HC : Hid (cut F 0 33 = F) := cut_all hb.len
  have HE : Hid (0 + 33 ≤ F.length) := by show 0 + 33 ≤ _; rw [hb.len]; omega
  have HP1 : Hid (∀ u, Calls Try.prog 4 #[ag F, .int .i64 n, .bool t] u fun e w' => e = .returned (.tuple #[ag (plugV F n t), .int .i64 (plugC F n)]) ∧ Below u.heap.size u w') := fun u => plug_any F n t u hb
  have HP2 : Hid (∀ u, Calls Try.prog 4 #[ag (plugV F n t), .int .i64 n, .bool t] u fun e w' => e = .returned (.tuple #[ag (plugV F n t), .int .i64 (plugC F n)]) ∧ Below u.heap.size u w') := fun u => by
    have := plug_any (plugV F n t) n t u (plugV_hb n t hb)
    rw [(plug_again hb.len).1, (plug_again hb.len).2] at this
    exact this
  have HC1 : Hid (∀ u, Calls Try.prog 5 #[ag F, .string q] u fun e w' => e = .returned (.tuple #[ag (ctlV F (qs q)), .string (ctS F q), .int .i64 (ctlE F (qs q))]) ∧ Below u.heap.size u w') := fun u => control_any F q u hb hq
  have HC2 : Hid (∀ u, Calls Try.prog 5 #[ag (ctlV F (qs q)), .string q] u fun e w' => e = .returned (.tuple #[ag (ctlV F (qs q)), .string (ctS (ctlV F (qs q)) q), .int .i64 (ctlE F (qs q))]) ∧ Below u.heap.size u w') := fun u => by
    have := control_any (ctlV F (qs q)) q u (ctlV_hb q hb) hq
    rw [(ctl_again hb.len).1, (ctl_again hb.len).2] at this
    exact this
  have HT1 : Hid (∀ u, Calls Try.prog 6 #[ag F] u fun e w' => e = .returned (.tuple #[ag (tickV F), .int .i64 (chk F)]) ∧ Below u.heap.size u w') := fun u => tick_any F u hb
  have HT2 : Hid (∀ u, Calls Try.prog 6 #[ag (tickV F)] u fun e w' => e = .returned (.tuple #[ag (tickV F), .int .i64 (chk F)]) ∧ Below u.heap.size u w') := fun u => by
    have := tick_any (tickV F) u (tickV_hb hb)
    rw [(tick_again hb.len).1, (tick_again hb.len).2] at this
    exact this
  have HLv : Hid (∀ u, Calls Try.prog 7 #[] u fun e w' => e = .returned (.bool true) ∧ Below u.heap.size u w') := lives_any
  have HL1 : Hid ((plugV F n t).length = 33) := plugV_len n t hb.len
  have HL2 : Hid ((ctlV F (qs q)).length = 33) := ctlV_len _ hb.len
  have HL3 : Hid ((tickV F).length = 33) := tickV_len hb.len
  have hM := Mm.nil w
  clear hb hq hn
  generalize ctS (ctlV F (qs q)) q = T2 at *
  generalize ctS F q = T1 at *
  generalize plugV F n t = G1 at *
  generalize ctlV F (qs q) = G2 at *
  generalize tickV F = G3 at *
  generalize plugC F n = c1 at *
  generalize ctlE F (qs q) = c2 at *
  generalize chk F = c3 at *
  have HCa : Hid (cut G1 0 33 = G1) := cut_all HL1.out
  have HEa : Hid (0 + 33 ≤ G1.length) := by show 0 + 33 ≤ _; rw [HL1.out]; omega
  have HCb : Hid (cut G2 0 33 = G2) := cut_all HL2.out
  have HEb : Hid (0 + 33 ≤ G2.length) := by show 0 + 33 ≤ _; rw [HL2.out]; omega
  have HCc : Hid (cut G3 0 33 = G3) := cut_all HL3.out
  have HEc : Hid (0 + 33 ≤ G3.length) := by show 0 + 33 ≤ _; rw [HL3.out]; omega
  go_enter Try.func3, Try.ntmps3
  repeat' (first | (go_big_may; first | (refine a_box rfl rfl rfl ?_; intro u za hN; replace hM := hM.new hN; clear hN) | (refine a_load rfl rfl row_hub rfl hM.at0 HE.out HC.out ?_)) | go_values | go_skip | go_guarded | go_step | go_upon | (simp only [Int.not_lt, Int.not_le] at *; go_simp))
  refine (HP1.out _).mono ?_
  rintro r u ⟨rfl, hv⟩
  replace hM := hM.call hv
  clear hv
  repeat' (first | (go_big_may; first | (refine a_alloc rfl zer_hub rfl ?_; intro u z1 hN; replace hM := hM.new hN; clear hN) | (refine a_fill rfl rfl row_hub rfl rfl hM.at0 HL1.out rep_33 ?_; intro u hv hc; replace hM := hM.put0 hc hv; clear hv hc) | (refine a_load rfl rfl row_hub rfl hM.at0 HEa.out HCa.out ?_)) | go_values | go_skip | go_guarded | go_step | go_upon | (simp only [Int.not_lt, Int.not_le] at *; go_simp))
  refine (HP2.out _).mono ?_
  rintro r u ⟨rfl, hv⟩
  replace hM := hM.call hv
  clear hv
  repeat' (first | (go_big_may; first | (refine a_alloc rfl zer_hub rfl ?_; intro u z2 hN; replace hM := hM.new hN; clear hN) | (refine a_fill rfl rfl row_hub rfl rfl hM.at0 HL1.out rep_33 ?_; intro u hv hc; replace hM := hM.put0 hc hv; clear hv hc) | (refine a_load rfl rfl row_hub rfl hM.at2 HE.out HC.out ?_)) | go_values | go_skip | go_guarded | go_step | go_upon | (simp only [Int.not_lt, Int.not_le] at *; go_simp))
  refine (HC1.out _).mono ?_
  rintro r u ⟨rfl, hv⟩
  replace hM := hM.call hv
  clear hv
  repeat' (first | (go_big_may; first | (refine a_alloc rfl zer_hub rfl ?_; intro u z3 hN; replace hM := hM.new hN; clear hN) | (refine a_fill rfl rfl row_hub rfl rfl hM.at0 HL2.out rep_33 ?_; intro u hv hc; replace hM := hM.put0 hc hv; clear hv hc) | (refine a_load rfl rfl row_hub rfl hM.at0 HEb.out HCb.out ?_)) | go_values | go_skip | go_guarded | go_step | go_upon | (simp only [Int.not_lt, Int.not_le] at *; go_simp))
  refine (HC2.out _).mono ?_
  rintro r u ⟨rfl, hv⟩
  replace hM := hM.call hv
  clear hv
  repeat' (first | (go_big_may; first | (refine a_alloc rfl zer_hub rfl ?_; intro u z4 hN; replace hM := hM.new hN; clear hN) | (refine a_fill rfl rfl row_hub rfl rfl hM.at0 HL2.out rep_33 ?_; intro u hv hc; replace hM := hM.put0 hc hv; clear hv hc) | (refine a_load rfl rfl row_hub rfl hM.at4 HE.out HC.out ?_)) | go_values | go_skip | go_guarded | go_step | go_upon | (simp only [Int.not_lt, Int.not_le] at *; go_simp))
  refine (HT1.out _).mono ?_
  rintro r u ⟨rfl, hv⟩
  replace hM := hM.call hv
  clear hv
  repeat' (first | (go_big_may; first | (refine a_alloc rfl zer_hub rfl ?_; intro u z5 hN; replace hM := hM.new hN; clear hN) | (refine a_fill rfl rfl row_hub rfl rfl hM.at0 HL3.out rep_33 ?_; intro u hv hc; replace hM := hM.put0 hc hv; clear hv hc) | (refine a_load rfl rfl row_hub rfl hM.at0 HEc.out HCc.out ?_)) | go_values | go_skip | go_guarded | go_step | go_upon | (simp only [Int.not_lt, Int.not_le] at *; go_simp))
  refine (HT2.out _).mono ?_
  rintro r u ⟨rfl, hv⟩
  replace hM := hM.call hv
  clear hv
  repeat' (first | (go_big_may; first | (refine a_alloc rfl zer_hub rfl ?_; intro u z6 hN; replace hM := hM.new hN; clear hN) | (refine a_fill rfl rfl row_hub rfl rfl hM.at0 HL3.out rep_33 ?_; intro u hv hc; replace hM := hM.put0 hc hv; clear hv hc)) | go_values | go_skip | go_guarded | go_step | go_upon | (simp only [Int.not_lt, Int.not_le] at *; go_simp))
  refine (HLv.out _).mono ?_
  rintro r u ⟨rfl, hv⟩
  replace hM := hM.call hv
  clear hv
  have e1 : decide (G1 = G1) = true := decide_eq_true rfl
  have e2 : decide (G2 = G2) = true := decide_eq_true rfl
  have e3 : decide (G3 = G3) = true := decide_eq_true rfl
  repeat' (first | (go_big_may; first | (refine a_load rfl rfl row_hub rfl hM.at5 HEa.out HCa.out ?_) | (refine a_load rfl rfl row_hub rfl hM.at4 HEa.out HCa.out ?_) | (refine a_load rfl rfl row_hub rfl hM.at3 HEb.out HCb.out ?_) | (refine a_load rfl rfl row_hub rfl hM.at2 HEb.out HCb.out ?_) | (refine a_load rfl rfl row_hub rfl hM.at1 HEc.out HCc.out ?_) | (refine a_load rfl rfl row_hub rfl hM.at0 HEc.out HCc.out ?_) | (refine a_eql rfl rfl cmp_hub rfl rfl HL1.out HL1.out ?_; rw [show decide (G1 = G1) = true from decide_eq_true rfl]) | (refine a_eql rfl rfl cmp_hub rfl rfl HL2.out HL2.out ?_; rw [show decide (G2 = G2) = true from decide_eq_true rfl]) | (refine a_eql rfl rfl cmp_hub rfl rfl HL3.out HL3.out ?_; rw [show decide (G3 = G3) = true from decide_eq_true rfl])) | go_values | go_skip | go_guarded | go_step | go_upon | (simp only [Int.not_lt, Int.not_le] at *; go_simp))
  go_ret
  exact ⟨rfl, hM.below⟩
end Go.Proofs.Ytdnmjeiljpdmcab.hubTwice
