/- HubSays: Control and Changes answer what the document says. -/
import Derived.Test.YtdnmjeiljpdmcaaHubT
import Derived.Test.YtdnmjeiljpdmcaaHubO
namespace Go.Proofs.Ytdnmjeiljpdmcaa.hubSays
open Go Go.RowKit Go.PlainAid Go.Proofs.Ytdnmjeiljpdmcaa.hub
set_option linter.unusedVariables false
set_option linter.unusedSimpArgs false
set_option maxRecDepth 100000

set_option maxHeartbeats 8000000 in
theorem walk (F : List Int) (t : ByteArray) (ht : t.size ≤ maxLen) (w : World) (hb : Hb F) : Calls Try.prog 4 #[ag F, .string t] w fun r w' => r = .returned (.bool true) ∧ Below w.heap.size w w' := by
  have HL : Hid (F.length = 33) := hb.len
  have HC : Hid (cut F 0 33 = F) := cut_all hb.len
  have HE : Hid (0 + 33 ≤ F.length) := by show 0 + 33 ≤ _; rw [hb.len]; omega
  have H1 : Hid (∀ u, Calls Try.prog 15 #[ag F, .string t] u fun e w' => e = .returned (.tuple #[ag (ctlV F (qs t)), .string (ctS F t), .int .i64 (ctlE F (qs t))]) ∧ Below u.heap.size u w') := fun u => control_any F t u hb ht
  have H2 : Hid (∀ u, Calls Try.prog 16 #[ag F, .string t] u fun e w' => e = .returned (.tuple #[ag (ctlV F (qs t)), .string (ctS F t), .int .i64 (ctlE F (qs t))]) ∧ Below u.heap.size u w') := fun u => rcontrol_any F t u hb ht
  have H3 : Hid (∀ u, Calls Try.prog 17 #[ag F] u fun e w' => e = .returned (.tuple #[.string (strOfNums (cgT F)), .int .i64 (chk F)]) ∧ Below u.heap.size u w') := fun u => changes_any F u hb
  have H4 : Hid (∀ u, Calls Try.prog 18 #[ag F] u fun e w' => e = .returned (.tuple #[.string (strOfNums (cgT F)), .int .i64 (chk F)]) ∧ Below u.heap.size u w') := fun u => rchanges_any F u hb
  have HL1 : Hid ((ctlV F (qs t)).length = 33) := ctlV_len _ hb.len
  have hM := Mm.nil w
  clear hb ht
  generalize ctlV F (qs t) = G1 at *
  generalize ctS F t = T1 at *
  generalize ctlE F (qs t) = z1 at *
  generalize strOfNums (cgT F) = T2 at *
  generalize chk F = ck at *
  have HC1 : Hid (cut G1 0 33 = G1) := cut_all HL1.out
  have HE1 : Hid (0 + 33 ≤ G1.length) := by show 0 + 33 ≤ _; rw [HL1.out]; omega
  have HD : Hid (decide (G1 = G1) = true) := decide_eq_true rfl
  go_enter Try.func4, Try.ntmps4
  repeat' (first | (go_big_may; first | (refine a_box rfl rfl rfl ?_; intro u za hN; replace hM := hM.new hN; clear hN) | (refine a_load rfl rfl row_hub rfl hM.at0 HE.out HC.out ?_)) | go_values | go_skip | go_guarded | go_step | go_upon | (simp only [Int.not_lt, Int.not_le] at *; go_simp))
  refine (H1.out _).mono ?_
  rintro r u ⟨rfl, hv⟩
  replace hM := hM.call hv
  clear hv
  repeat' (first | (go_big_may; first | (refine a_alloc rfl zer_hub rfl ?_; intro u zb hN; replace hM := hM.new hN; clear hN) | (refine a_fill rfl rfl row_hub rfl rfl hM.at0 HL1.out rep_33 ?_; intro u hv hc; replace hM := hM.put0 hc hv; clear hv hc) | (refine a_load rfl rfl row_hub rfl hM.at1 HE.out HC.out ?_)) | go_values | go_skip | go_guarded | go_step | go_upon | (simp only [Int.not_lt, Int.not_le] at *; go_simp))
  refine (H2.out _).mono ?_
  rintro r u ⟨rfl, hv⟩
  replace hM := hM.call hv
  clear hv
  repeat' (first | (go_big_may; first | (refine a_alloc rfl zer_hub rfl ?_; intro u zc hN; replace hM := hM.new hN; clear hN) | (refine a_fill rfl rfl row_hub rfl rfl hM.at0 HL1.out rep_33 ?_; intro u hv hc; replace hM := hM.put0 hc hv; clear hv hc) | (refine a_load rfl rfl row_hub rfl hM.at2 HE.out HC.out ?_)) | go_values | go_skip | go_guarded | go_step | go_upon | (simp only [Int.not_lt, Int.not_le] at *; go_simp))
  refine (H3.out _).mono ?_
  rintro r u ⟨rfl, hv⟩
  replace hM := hM.call hv
  clear hv
  repeat' (first | (go_big_may; first | (refine a_load rfl rfl row_hub rfl hM.at2 HE.out HC.out ?_)) | go_values | go_skip | go_guarded | go_step | go_upon | (simp only [Int.not_lt, Int.not_le] at *; go_simp))
  refine (H4.out _).mono ?_
  rintro r u ⟨rfl, hv⟩
  replace hM := hM.call hv
  clear hv
  repeat' (first | (go_big_may; first | (refine a_load rfl rfl row_hub rfl hM.at1 HE1.out HC1.out ?_) | (refine a_load rfl rfl row_hub rfl hM.at0 HE1.out HC1.out ?_) | (refine a_eql rfl rfl cmp_hub rfl rfl HL1.out HL1.out ?_; rw [show decide (G1 = G1) = true from decide_eq_true rfl])) | go_values | go_skip | go_guarded | go_step | go_upon | (simp only [Int.not_lt, Int.not_le] at *; go_simp))
  go_ret
  exact ⟨rfl, hM.below⟩
end Go.Proofs.Ytdnmjeiljpdmcaa.hubSays
