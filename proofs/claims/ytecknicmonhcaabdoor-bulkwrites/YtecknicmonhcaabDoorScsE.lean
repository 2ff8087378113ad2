/- scsi: checkForm. -/
import Derived.Test.YtecknicmonhcaabDoorScsB
import Derived.BigQuiet
namespace Go.Proofs.YtecknicmonhcaabDoor.scsi
open Go.RowKit Go.PlainAid Go.Proofs.YtecknicmonhcaabDoor.lane Go.Proofs.YtecknicmonhcaabDoor.pipe Go.Proofs.YtecknicmonhcaabDoor.strike
set_option linter.unusedVariables false
set_option linter.unusedSimpArgs false
set_option maxRecDepth 100000

/-- a failure as an error -/
def fmI (k : Int) : Value := if k = 0 then .nilIface else .iface 83 (.agg #[.int .i64 k])
theorem frm_byt (b : Int) : Byt (frm b) := by
  intro x hx
  unfold frm at hx
  split at hx
  · simp at hx; omega
  · split at hx
    · simp at hx; omega
    · split at hx
      · simp at hx; omega
      · split at hx
        · simp at hx; omega
        · split at hx
          · simp at hx; omega
          · simp at hx
theorem frm_len (b : Int) : (frm b).length = 0 ∨ (frm b).length = 5 ∨ (frm b).length = 9 := by
  unfold frm
  repeat' split
  all_goals simp
theorem fm_cons (c : ByteArray) (hc : 0 < c.size) : fmC (nums c) = if frm (bt c 0) = [] then 32 else if c.size - 1 ≠ (frm (bt c 0)).length then 36 else if ok2 (frm (bt c 0)) ((nums c).drop 1) = true then 0 else 36 := by
  have h := drop_nums c 0 hc
  rw [List.drop_zero] at h
  have hl : ((nums c).drop 1).length = c.size - 1 := by rw [List.length_drop, nums_length]
  rw [← hl, h]
  simp [fmC]
theorem nums_rest (c : ByteArray) (i : Nat) : nums (c.extract i c.size) = (nums c).drop i := by
  unfold nums
  rw [ex_list, List.take_of_length_le, List.map_drop]
  rw [List.length_drop, ← size_list]
  omega
theorem ok2_step {F R : List Int} {k : Nat} (h1 : k < F.length) (h2 : k < R.length) : ok2 (F.drop k) (R.drop k) = (okb (F.getD k 0) (R.getD k 0) && ok2 (F.drop (k + 1)) (R.drop (k + 1))) := by
  rw [List.drop_eq_getElem_cons h1, List.drop_eq_getElem_cons h2]
  simp [ok2, List.getD, List.getElem?_eq_getElem h1, List.getElem?_eq_getElem h2]
set_option maxHeartbeats 4000000 in
theorem checkForm_any (c : ByteArray) (hm : c.size ≤ maxLen) (w : World) : Calls Tryd.prog 49 #[.string c] w fun e w' => e = .returned (fmI (fmC (nums c))) ∧ Below w.heap.size w w' := by
  unfold maxLen at hm
  by_cases hc : c.size = 0
  · have he : c = ⟨#[]⟩ := by apply ByteArray.ext; apply Array.eq_empty_of_size_eq_zero; exact hc
    subst he
    have e : fmI (fmC (nums ⟨#[]⟩)) = .iface 83 (.agg #[.int .i64 32]) := rfl
    rw [e]
    clear hm hc e
    go_enter Tryd.func49, Tryd.ntmps49
    go_wp2
    go_ret
    exact ⟨rfl, Below.refl _ _⟩
  have hc : 0 < c.size := by omega
  have hbt := get_bt c
  have hes : c.toList.isEmpty = false := str_full c hc
  obtain ⟨v, hv⟩ : ∃ v, fmI (fmC (nums c)) = v := ⟨_, rfl⟩
  have HV : Hid (fmI (if frm (bt c 0) = [] then 32 else if c.size - 1 ≠ (frm (bt c 0)).length then 36 else if ok2 (frm (bt c 0)) ((nums c).drop 1) = true then 0 else 36) = v) := by rw [fm_cons c hc] at hv; exact hv
  rw [hv]
  clear hv
  have HF : Hid (∀ u, Calls Tryd.prog 65 #[.int .u8 (bt c 0)] u fun e w' => e = .returned (.string (strOfNums (frm (bt c 0)))) ∧ u = w') := fun u => form_any _ u
  obtain ⟨F, hF⟩ : ∃ F, frm (bt c 0) = F := ⟨_, rfl⟩
  have hFb : Byt F := hF ▸ frm_byt _
  have hFl : F.length = 0 ∨ F.length = 5 ∨ F.length = 9 := hF ▸ frm_len _
  rw [hF] at HV HF
  clear hF
  by_cases h0 : F = []
  · subst h0
    have HE : Hid (.iface 83 (.agg #[.int .i64 32]) = v) := HV.out
    have e : strOfNums [] = ⟨#[]⟩ := rfl
    rw [e] at HF
    clear HV hFb hFl e
    go_enter Tryd.func49, Tryd.ntmps49
    go_wp2_with fail
    refine (HF.out _).mono ?_
    rintro e u ⟨rfl, rfl⟩
    clear HF
    go_wp2
    go_ret
    rw [← HE.out]
    exact ⟨rfl, Below.refl _ _⟩
  have hl0 : 0 < F.length := List.length_pos_iff.2 h0
  have ht : (strOfNums F).size = F.length := str_size F
  have hte : (strOfNums F).toList.isEmpty = false := str_full _ (by omega)
  have HT : Hid (∀ k, k < F.length → bt (strOfNums F) k = F.getD k 0) := fun k hk => by rw [bt_nums _ _ (by omega), nums_str F hFb]
  have htb := get_bt (strOfNums F)
  obtain ⟨x, hx⟩ : ∃ x, c.extract 1 c.size = x := ⟨_, rfl⟩
  have hxs : x.size = c.size - 1 := by rw [← hx, ByteArray.size_extract]; omega
  have HX : Hid (∀ k, k < x.size → bt x k = ((nums c).drop 1).getD k 0) := fun k hk => by
    rw [bt_nums _ _ hk, ← hx, nums_rest]
  have hxb := get_bt x
  have HL : Hid (((nums c).drop 1).length = x.size) := by show _ = _; rw [List.length_drop, nums_length, hxs]
  generalize strOfNums F = t at *
  rw [if_neg h0, ← hxs] at HV
  by_cases hne : ¬ x.size = F.length
  · have HE : Hid (.iface 83 (.agg #[.int .i64 36]) = v) := by
      have := HV.out
      rw [if_pos hne] at this
      exact this
    have e1 : ((x.size : Int) != (t.size : Int)) = true := by rw [bne_iff_ne]; omega
    clear HV hFb hFl HT HX HL
    go_enter Tryd.func49, Tryd.ntmps49
    go_wp2_with fail
    refine (HF.out _).mono ?_
    rintro e u ⟨rfl, rfl⟩
    go_wp2_with fail
    go_quiet ((go_at_call 65; exact Calls.quiet_of_same ((HF.out _).mono fun e w' h => ⟨h.1, h.2.symm⟩)))
    go_wp2
    go_ret
    rw [← HE.out]
    exact ⟨rfl, below_drewN (Below.refl _ _) _⟩
  have heq : x.size = F.length := Classical.not_not.1 hne
  have e1 : ((x.size : Int) != (t.size : Int)) = false := by rw [bne_eq_false_iff_eq]; omega
  have HE : Hid (fmI (if ok2 F ((nums c).drop 1) = true then 0 else 36) = v) := by
    have := HV.out
    rw [if_neg hne] at this
    exact this
  have HLF : Hid (x.size = F.length) := heq
  obtain ⟨n, hn⟩ : ∃ n, x.size = n := ⟨_, rfl⟩
  have hn2 : t.size = n := by omega
  have HN : Hid (x.size = n ∧ F.length = n ∧ ((nums c).drop 1).length = n) := ⟨hn, by omega, by rw [HL.out]; exact hn⟩
  obtain ⟨R, hR⟩ : ∃ R, (nums c).drop 1 = R := ⟨_, rfl⟩
  rw [hR] at HE HX HN
  have hn9 : n ≤ 9 := by omega
  clear HV hFb hFl HL hl0 h0 hne heq ht hR HLF
  go_enter Tryd.func49, Tryd.ntmps49
  go_wp2_with fail
  refine (HF.out _).mono ?_
  rintro e u ⟨rfl, rfl⟩
  go_wp2_with fail
  go_quiet ((go_at_call 65; exact Calls.quiet_of_same ((HF.out _).mono fun e w' h => ⟨h.1, h.2.symm⟩)))
  clear HF hbt hes hte e1
  go_wp2
  go_loopw [30] (fun i wr => ∃ k q : Nat, k ≤ n ∧ i = .int .i64 (k : Int) ∧ wr = w.drewN q ∧ Hid (ok2 (F.drop k) (R.drop k) = ok2 F R)) (fun i _ => n - (intOf i).toNat)
  case atStart => exact ⟨0, _, Nat.zero_le _, rfl, rfl, rfl⟩
  case round =>
    obtain ⟨k, q, hk, rfl, rfl, HR⟩ := hrel
    by_cases hlt : ¬ k < n
    · have HG : Hid (.nilIface = v) := by
        have := HR.out
        rw [List.drop_eq_nil_of_le (by have := HN.out.2.1; omega)] at this
        show _ = _
        rw [← HE.out, ← this]
        rfl
      clear HR HE HX HT htb hxb
      go_wp2
      go_ret
      rw [← HG.out]
      exact ⟨rfl, below_drewN (Below.refl _ _) _⟩
    have hlt : k < n := Classical.not_not.1 hlt
    have hR := HR.out
    rw [ok2_step (by rw [HN.out.2.1]; exact hlt) (by rw [HN.out.2.2]; exact hlt), ← HX.out k (by rw [hn]; exact hlt), ← HT.out k (by rw [HN.out.2.1]; exact hlt)] at hR
    obtain ⟨f, hf⟩ : ∃ f, bt t k = f := ⟨_, rfl⟩
    obtain ⟨b, hb⟩ : ∃ b, bt x k = b := ⟨_, rfl⟩
    rw [hf, hb] at hR
    unfold okb at hR
    have HB : Hid (okb f b = false → .iface 83 (.agg #[.int .i64 36]) = v) := fun h => by
      unfold okb at h
      rw [h, Bool.false_and] at hR
      rw [← HE.out, ← hR]
      rfl
    have HC : Hid (okb f b = true → ok2 (F.drop (k + 1)) (R.drop (k + 1)) = ok2 F R) := fun h => by
      unfold okb at h
      rw [h, Bool.true_and] at hR
      exact hR
    unfold okb at HB HC
    clear hR HR HX HT HE
    cases q1 : (f == 48) with
    | true =>
      have q3 : (f == 80) = false := by have : f = 48 := by simpa using q1
                                        rw [this]; rfl
      cases q2 : (b != 0) with
      | true =>
        have HG : Hid (.iface 83 (.agg #[.int .i64 36]) = v) := HB.out (by rw [q1, q2]; rfl)
        clear HB HC
        go_wp2
        go_ret
        rw [← HG.out]
        exact ⟨rfl, below_drewN (Below.refl _ _) _⟩
      | false =>
        have HG : Hid (ok2 (F.drop (k + 1)) (R.drop (k + 1)) = ok2 F R) := HC.out (by rw [q1, q2, q3]; rfl)
        clear HB HC
        go_wp2
        go_roundw
        case rel => exact ⟨k + 1, q, by omega, by go_num, rfl, HG.out⟩
        case measure => simp [intOf]; omega
    | false =>
      cases q3 : (f == 80) with
      | true =>
        cases q2 : (b != 63) with
        | true =>
          have HG : Hid (.iface 83 (.agg #[.int .i64 36]) = v) := HB.out (by rw [q1, q2, q3]; rfl)
          clear HB HC
          go_wp2
          go_ret
          rw [← HG.out]
          exact ⟨rfl, below_drewN (Below.refl _ _) _⟩
        | false =>
          have HG : Hid (ok2 (F.drop (k + 1)) (R.drop (k + 1)) = ok2 F R) := HC.out (by rw [q1, q2, q3]; rfl)
          clear HB HC
          go_wp2
          go_roundw
          case rel => exact ⟨k + 1, q, by omega, by go_num, rfl, HG.out⟩
          case measure => simp [intOf]; omega
      | false =>
        have HG : Hid (ok2 (F.drop (k + 1)) (R.drop (k + 1)) = ok2 F R) := HC.out (by rw [q1, q3]; rfl)
        clear HB HC
        go_wp2
        go_roundw
        case rel => exact ⟨k + 1, q, by omega, by go_num, rfl, HG.out⟩
        case measure => simp [intOf]; omega
end Go.Proofs.YtecknicmonhcaabDoor.scsi
