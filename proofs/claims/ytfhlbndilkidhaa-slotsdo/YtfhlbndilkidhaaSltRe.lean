/- slots, the document's answer: what Done answers. -/
import Derived.Test.YtfhlbndilkidhaaSltRd
namespace Go.Proofs.Ytfhlbndilkidhaa.slots
open Go Go.RowKit
set_option linter.unusedVariables false
set_option linter.unusedSimpArgs false
set_option maxRecDepth 100000

theorem cmR_n {B : Bd} {k n e a : Int} : 0 ≤ (cmR B k n e a).n ∧ (cmR B k n e a).n ≤ 8 := by
  by_cases c0 : chk B = false
  · rw [cm_0 c0]; exact ⟨Int.le_refl _, by decide⟩
  by_cases c1 : k = 1
  · subst c1; rw [cm_1 c0]; exact ⟨Int.le_refl _, by decide⟩
  by_cases c2 : k = 2
  · subst c2
    rw [cm_2 c0]
    by_cases f : fr B ≤ 8
    · rw [if_pos f]
      show (0 : Int) ≤ (fr B : Int) ∧ (fr B : Int) ≤ 8
      omega
    · rw [if_neg f]; exact ⟨Int.le_refl _, by decide⟩
  by_cases c3 : 3 ≤ k ∧ k ≤ 9 ∧ slB n = true
  · rw [cm_b c0 c1 c2 c3]
    have := sl_in c3.2.2
    show (0 : Int) ≤ n ∧ n ≤ 8
    omega
  · rw [cm_5 c0 c1 c2 c3]; exact ⟨Int.le_refl _, by decide⟩
set_option maxHeartbeats 8000000 in
theorem done_any (B : Bd) (k n e a : Int) (w : World) (hw : Wf B) : Calls Try.prog 10 #[ag (fl B), ag [k, n, e, a]] w fun r w' => r = .returned (ansV (doB B k n e a)) ∧ Below w.heap.size w w' := by
  have HL : Hid ((fl B).length = 594) := hw.length
  have HE : Hid (0 + 594 ≤ (fl B).length) := by show 0 + 594 ≤ _; rw [hw.length]; omega
  have HC : Hid (cut (fl B) 0 594 = fl B) := cut_all hw.length
  have HC4 : Hid (cut [k, n, e, a] 0 4 = [k, n, e, a]) := rfl
  have HE4 : Hid (0 + 4 ≤ ([k, n, e, a] : List Int).length) := Nat.le_refl _
  have HCm : Hid (∀ u, Calls Try.prog 19 #[ag (fl B), ag [k, n, e, a]] u fun r w' => r = .returned (.tuple #[ag (cmR B k n e a).s, .int .i64 (cmR B k n e a).c, .int .i64 (cmR B k n e a).n]) ∧ Below u.heap.size u w') := fun u => command_any B k n e a u hw
  have HSL : Hid ((cmR B k n e a).s.length = 66) := cmR_len hw
  have hn := cmR_n (B := B) (k := k) (n := n) (e := e) (a := a)
  rw [← dn_do hw]
  generalize cmR B k n e a = r at *
  obtain ⟨rs, rc, rn⟩ := r
  simp only at hn HSL HCm
  obtain ⟨m, rfl⟩ : ∃ m : Nat, rn = m := ⟨rn.toNat, by omega⟩
  have hm8 : m ≤ 8 := by omega
  have HSC : Hid (cut rs 0 66 = rs) := cut_all HSL.out
  have HSE : Hid (0 + 66 ≤ rs.length) := by show 0 + 66 ≤ _; rw [HSL.out]; omega
  have hM := Mm.nil w
  by_cases hc : rc = 1 ∧ 0 < m
  · have HD : Hid (dnB B ⟨rs, rc, (m : Int)⟩ = B.set m rs) := by
      show _ = _
      unfold dnB
      have ht : ((m : Int)).toNat = m := by omega
      show (if rc = 1 ∧ (0 : Int) < (m : Int) then B.set ((m : Int)).toNat rs else B) = _
      rw [if_pos ⟨hc.1, by omega⟩, ht]
    have e1 : (rc == 1) = true := by simpa using hc.1
    have e2 : decide ((m : Int) > 0) = true := decide_eq_true (by omega)
    have HP : Hid (putL (fl B) (m * 66) rs = fl (B.set m rs)) := fl_put hw (by omega) HSL.out
    have HL2 : Hid ((fl (B.set m rs)).length = 594) := (hw.set HSL.out).length
    have HPE : Hid (m * 66 + 66 ≤ (fl B).length) := by show _ ≤ _; rw [hw.length]; omega
    have HE2 : Hid (0 + 594 ≤ (fl (B.set m rs)).length) := by show 0 + 594 ≤ _; rw [HL2.out]; omega
    have HC2 : Hid (cut (fl (B.set m rs)) 0 594 = fl (B.set m rs)) := cut_all HL2.out
    rw [HD.out]
    have e3 : 0 < m := hc.2
    clear hw hn hc HD
    go_enter Try.func10, Try.ntmps10
    repeat' (first | (go_big_may; first | (refine a_box (t := 27) rfl rfl rfl ?_; intro u z2 hN; replace hM := hM.new hN; clear hN) | (refine a_box (t := 29) rfl rfl rfl ?_; intro u z3 hN; replace hM := hM.new hN; clear hN) | (refine a_alloc rfl zer_board rfl ?_; intro u z4 hN; replace hM := hM.new hN; clear hN) | (refine a_load rfl rfl row_board rfl hM.at2 HE.out HC.out ?_) | (refine a_load rfl rfl row_cmd rfl hM.at1 HE4.out HC4.out ?_)) | go_values | go_skip | go_guarded | go_step | go_upon | (simp only [Int.not_lt, Int.not_le] at *; go_simp))
    refine (HCm.out _).mono ?_
    rintro r u ⟨rfl, hv⟩
    replace hM := hM.call hv
    clear hv
    repeat' (first | (go_big_may; first | (refine a_alloc rfl zer_slot rfl ?_; intro u z7 hN; replace hM := hM.new hN; clear hN) | (refine a_fill rfl rfl row_slot rfl rfl hM.at0 HSL.out List.length_replicate ?_; intro u hv hc; replace hM := hM.put0 hc hv; clear hv hc) | (refine a_load rfl rfl row_slot rfl hM.at0 HSE.out HSC.out ?_) | (refine a_store rfl rfl row_slot rfl rfl hM.at3 HSL.out HPE.out HP.out ?_; intro u hv hc; replace hM := hM.put3 hc hv; clear hv hc) | (refine a_load rfl rfl row_board rfl hM.at3 HE2.out HC2.out ?_) | (refine a_fill rfl rfl row_board rfl rfl hM.at1 HL2.out rep_594 ?_; intro u hv hc; replace hM := hM.put1 hc hv; clear hv hc)) | go_values | go_skip | go_guarded | go_step | go_upon | (simp only [Int.not_lt, Int.not_le] at *; go_simp))
    exact bodyPost_ret (ret_3 Try.results10 rfl (ld_var row_board hM.at1 HL2.out) rfl rfl) rfl ⟨rfl, hM.below⟩
  · have HD : Hid (dnB B ⟨rs, rc, (m : Int)⟩ = B) := by
      show _ = _
      unfold dnB
      show (if rc = 1 ∧ (0 : Int) < (m : Int) then B.set ((m : Int)).toNat rs else B) = _
      rw [if_neg (fun h => hc ⟨h.1, by omega⟩)]
    have ee : (rc == 1) = false ∨ (rc == 1) = true ∧ ¬ 0 < m := by
      by_cases z : rc = 1
      · exact .inr ⟨by simpa using z, fun h => hc ⟨z, h⟩⟩
      · exact .inl (by simpa using z)
    rw [HD.out]
    clear hw hn hc HD
    rcases ee with e1 | ⟨e1, e2⟩
    all_goals
      go_enter Try.func10, Try.ntmps10
      repeat' (first | (go_big_may; first | (refine a_box (t := 27) rfl rfl rfl ?_; intro u z2 hN; replace hM := hM.new hN; clear hN) | (refine a_box (t := 29) rfl rfl rfl ?_; intro u z3 hN; replace hM := hM.new hN; clear hN) | (refine a_alloc rfl zer_board rfl ?_; intro u z4 hN; replace hM := hM.new hN; clear hN) | (refine a_load rfl rfl row_board rfl hM.at2 HE.out HC.out ?_) | (refine a_load rfl rfl row_cmd rfl hM.at1 HE4.out HC4.out ?_)) | go_values | go_skip | go_guarded | go_step | go_upon | (simp only [Int.not_lt, Int.not_le] at *; go_simp))
      refine (HCm.out _).mono ?_
      rintro r u ⟨rfl, hv⟩
      replace hM := hM.call hv
      clear hv
      repeat' (first | (go_big_may; first | (refine a_alloc rfl zer_slot rfl ?_; intro u z7 hN; replace hM := hM.new hN; clear hN) | (refine a_fill rfl rfl row_slot rfl rfl hM.at0 HSL.out List.length_replicate ?_; intro u hv hc; replace hM := hM.put0 hc hv; clear hv hc) | (refine a_load rfl rfl row_board rfl hM.at3 HE.out HC.out ?_) | (refine a_fill rfl rfl row_board rfl rfl hM.at1 HL.out rep_594 ?_; intro u hv hc; replace hM := hM.put1 hc hv; clear hv hc)) | go_values | go_skip | go_guarded | go_step | go_upon | (simp only [Int.not_lt, Int.not_le] at *; go_simp))
      exact bodyPost_ret (ret_3 Try.results10 rfl (ld_var row_board hM.at1 HL.out) rfl rfl) rfl ⟨rfl, hM.below⟩
end Go.Proofs.Ytfhlbndilkidhaa.slots
