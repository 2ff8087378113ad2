/- slots: what isRight, owners, leastAddr and Check answer. -/
import Derived.Test.YthjmcopknkemnaaSltB
namespace Go.Proofs.Ythjmcopknkemnaa.slots
open Go Go.RowKit
set_option linter.unusedVariables false
set_option linter.unusedSimpArgs false
set_option maxRecDepth 100000

set_option maxHeartbeats 4000000 in
theorem isRight_any (s : List Int) (w : World) (hs : s.length = 66) : Calls Try.prog 77 #[ag s] w fun e w' => e = .returned (.bool (right s)) ∧ Below w.heap.size w w' := by
  have HE : Hid (∀ u, Calls Try.prog 89 #[ag s] u fun e w' => e = .returned (.bool (areE s)) ∧ Below u.heap.size u w') := fun u => areEnds_any s u hs
  have HH : Hid (∀ u, Calls Try.prog 90 #[ag s] u fun e w' => e = .returned (.bool (hasS s)) ∧ Below u.heap.size u w') := fun u => hasSet_any s u hs
  have HA : Hid (∀ u, Calls Try.prog 88 #[.int .i64 (cl s 1)] u fun e w' => e = .returned (.bool (adB (cl s 1))) ∧ u = w') := isAddr_any (cl s 1)
  have HL : Hid (s.length = 66) := hs
  have HC : Hid (cut s 0 66 = s) := cut_all hs
  have HF : Hid (∀ u B, New w u B 38 s → u.cell? ⟨B, 0, none⟩ = some (.int .i64 (cl s 0)) ∧ u.cell? ⟨B, 1, none⟩ = some (.int .i64 (cl s 1))) := fun u B h => ⟨bx_cell h.lies (cl_at (by omega)), bx_cell h.lies (cl_at (by omega))⟩
  obtain ⟨q, hq⟩ : ∃ q, right s = q := ⟨_, rfl⟩
  have HQ : Hid (right s = q) := hq
  rw [hq]
  clear hq hs
  by_cases h01 : cl s 0 = 0 ∨ cl s 0 = 1
  · have HR : Hid (decide (s = one (cl s 0)) = q) := by show _ = q; rw [← HQ.out]; unfold right st; rw [if_pos h01]
    have hb := bld_1 (cl s 0)
    have H1 : Hid ((one (cl s 0)).length = 66) := by show _ = 66; simp [one]
    clear HQ HE HH HA
    have e0 : (cl s 0 == 0) = true ∨ (cl s 0 == 0) = false ∧ (cl s 0 == 1) = true := by
      rcases h01 with h | h
      · left; simp [h]
      · right; simp [h]
    clear h01
    generalize one (cl s 0) = t1 at *
    rcases e0 with e0 | ⟨e0, e1⟩
    all_goals
      go_enter Try.func77, Try.ntmps77
      go_wp2_with (first
        | (refine a_box rfl rfl rfl ?_; intro u B hN; have hB := hN.lies; have HB : Hid (Below w.heap.size w u) := hN.below; obtain ⟨c0, c1⟩ := HF.out u B hN; clear hN)
        | (refine a_load rfl rfl row_slot rfl hB (by have := HL.out; omega) HC.out ?_)
        | (refine a_build rfl rfl hb (by simp [Act.eval]) ?_)
        | (refine a_eql rfl rfl cmp_slot rfl rfl HL.out H1.out ?_))
      go_ret
      rw [← HR.out]
      exact ⟨rfl, HB.out⟩
  have e0 : (cl s 0 == 0) = false := by simp; omega
  have e1 : (cl s 0 == 1) = false := by simp; omega
  by_cases h23 : ¬ (cl s 0 = 2 ∨ cl s 0 = 3)
  · have HR : Hid (false = q) := by show _ = q; rw [← HQ.out]; unfold right st; rw [if_neg h01, if_neg (fun h => h23 (.inl h)), if_neg (fun h => h23 (.inr h))]
    have e2 : (cl s 0 == 2) = false := by simp; omega
    have e3 : (cl s 0 == 3) = false := by simp; omega
    clear HQ HE HH HA h01 h23
    go_enter Try.func77, Try.ntmps77
    go_wp2_with (refine a_box rfl rfl rfl ?_; intro u B hN; have hB := hN.lies; have HB : Hid (Below w.heap.size w u) := hN.below; obtain ⟨c0, c1⟩ := HF.out u B hN; clear hN)
    go_ret
    rw [← HR.out]
    exact ⟨rfl, HB.out⟩
  have HR : Hid (cl s 0 = 2 ∧ (adB (cl s 1) && areE s && !hasS s) = q ∨ cl s 0 = 3 ∧ (adB (cl s 1) && areE s && hasS s) = q) := by
    have := HQ.out
    unfold right st ad at this
    rw [if_neg h01] at this
    by_cases h2 : cl s 0 = 2
    · rw [if_pos h2] at this; exact .inl ⟨h2, this⟩
    · have h3 : cl s 0 = 3 := by omega
      rw [if_neg h2, if_pos h3] at this; exact .inr ⟨h3, this⟩
  clear HQ h01 h23
  generalize areE s = ae at *
  generalize hasS s = ha at *
  generalize adB (cl s 1) = aa at *
  rcases HR.out with ⟨h2, h3⟩ | ⟨h2, h3⟩
  all_goals
    have HR2 := h3
    first
    | (have e2 : (cl s 0 == 2) = true := by simp [h2])
    | (have e2 : (cl s 0 == 2) = false := by simp [h2]
       have e3 : (cl s 0 == 3) = true := by simp [h2])
    clear h2 HR
    cases aa
    · have HR3 : Hid (false = q) := h3
      clear HR2 h3
      go_enter Try.func77, Try.ntmps77
      go_wp2_with (refine a_box rfl rfl rfl ?_; intro u B hN; have hB := hN.lies; have HB : Hid (Below w.heap.size w u) := hN.below; obtain ⟨c0, c1⟩ := HF.out u B hN; clear hN)
      refine (HA.out _).mono ?_
      rintro e v ⟨rfl, rfl⟩
      go_wp2
      go_ret
      rw [← HR3.out]
      exact ⟨rfl, HB.out⟩
    · go_enter Try.func77, Try.ntmps77
      go_wp2_with (refine a_box rfl rfl rfl ?_; intro u B hN; have hB := hN.lies; have HB : Hid (Below w.heap.size w u) := hN.below; obtain ⟨c0, c1⟩ := HF.out u B hN; clear hN)
      refine (HA.out _).mono ?_
      rintro e v ⟨rfl, rfl⟩
      go_wp2_with (refine a_load rfl rfl row_slot rfl hB (by have := HL.out; omega) HC.out ?_)
      refine (HE.out _).mono ?_
      rintro e v ⟨rfl, hv⟩
      have hB2 := keep hB hv
      have HB2 : Hid (Below w.heap.size w v) := bsq HB.out hv
      clear hB c0 c1 hv
      cases ae
      · have HR3 : Hid (false = q) := h3
        clear HR2 h3
        go_wp2
        go_ret
        rw [← HR3.out]
        exact ⟨rfl, HB2.out⟩
      · have HR3 : Hid _ := h3
        clear HR2 h3
        go_wp2_with (refine a_load rfl rfl row_slot rfl hB2 (by have := HL.out; omega) HC.out ?_)
        refine (HH.out _).mono ?_
        rintro e v2 ⟨rfl, hv⟩
        have HB3 : Hid (Below w.heap.size w v2) := bsq HB2.out hv
        clear hv hB2
        go_wp2
        go_ret
        rw [← HR3.out]
        exact ⟨rfl, HB3.out⟩
/-- slots with an address are counted -/
theorem own_step {B : Bd} {k : Nat} {x : Int} (h : k < B.length) : own (B.drop k) x = (if ad (sl B k) = x then 1 else 0) + own (B.drop (k + 1)) x := by
  unfold own
  have e : B[k]'h = sl B k := by
    have := sl_at h
    rw [List.getElem?_eq_getElem h] at this
    exact Option.some.inj this
  rw [List.drop_eq_getElem_cons h, e, List.countP_cons]
  by_cases q : ad (sl B k) = x
  · simp [q]; omega
  · simp [q]
theorem own_le (B : Bd) (x : Int) : own B x ≤ B.length := List.countP_le_length
theorem fl_cut {B : Bd} (h : Wf B) {i : Nat} (hi : i < 9) : cut (fl B) (i * 66) 66 = sl B i := fl_sl h hi
set_option maxHeartbeats 4000000 in
theorem owners_any (B : Bd) (x : Int) (w : World) (hw : Wf B) : Calls Try.prog 78 #[ag (fl B), .int .i64 x] w fun e w' => e = .returned (.int .i64 (own B x : Int)) ∧ Below w.heap.size w w' := by
  have HL : Hid ((fl B).length = 594) := hw.length
  have HC : Hid (cut (fl B) 0 594 = fl B) := cut_all hw.length
  have HW : Hid (Wf B) := hw
  obtain ⟨q, hq⟩ : ∃ q, own B x = q := ⟨_, rfl⟩
  have HQ : Hid (own B x = q) := hq
  have hq9 : q ≤ 9 := by rw [← hq, ← hw.nine]; exact own_le B x
  rw [hq]
  clear hq hw
  go_enter Try.func78, Try.ntmps78
  go_wp2_with (first
    | (refine a_box rfl rfl rfl ?_; intro u Z hN; have hB := hN.lies; have HB : Hid (Below w.heap.size w u) := hN.below; clear hN)
    | (refine a_load rfl rfl row_slots rfl hB (by have := HL.out; omega) HC.out ?_))
  clear hB
  go_loopw [5, 7, 10] (fun c _ i wr => ∃ k n : Nat, k ≤ 9 ∧ i = .int .i64 (k : Int) ∧ c = .int .i64 (n : Int) ∧ Hid (n + own (B.drop k) x = q ∧ Below w.heap.size w wr)) (fun _ _ i _ => 9 - (intOf i).toNat)
  case atStart => exact ⟨0, 0, by omega, rfl, rfl, by rw [List.drop_zero, HQ.out]; exact Nat.zero_add _, HB.out⟩
  case round =>
    obtain ⟨k, n, hk, rfl, rfl, HA⟩ := hrel
    have hn : n ≤ 9 := by have := HA.out.1; omega
    by_cases hlt : ¬ k < 9
    · have HQ2 : Hid (n = q) := by
        have := HA.out.1
        rw [List.drop_eq_nil_of_le (by rw [HW.out.nine]; omega)] at this
        exact this
      go_wp2
      go_ret
      rw [← HQ2.out]
      exact ⟨rfl, HA.out.2⟩
    have hlt : k < 9 := by omega
    have hix := run_indexS (fl B) k hlt
    rw [fl_cut HW.out hlt] at hix
    have HS := HA.out.1
    rw [own_step (by rw [HW.out.nine]; omega)] at HS
    have HSL : Hid ((sl B k).length = 66) := HW.out.sl hlt
    have HBr : Hid (Below w.heap.size w wr) := HA.out.2
    have HS2 : Hid _ := HS
    clear HS HA
    by_cases hx : cl (sl B k) 1 = x
    all_goals
      go_wp2_with (first
        | (refine a_alloc rfl zer_slot rfl ?_; intro u1 Y hN)
        | (refine a_fill rfl rfl row_slot rfl rfl hN.lies HSL.out List.length_replicate ?_; intro u2 hY hC; have HB2 : Hid (Below w.heap.size w u2) := hC.below _ _ (by rw [hN.at']; exact HBr.out.size) (bsq HBr.out hN.below); have hc := bx_cell (j := 1) hY (cl_at (by rw [HSL.out]; omega)); clear hN hC hY))
    · have HS3 : Hid (n + 1 + own (B.drop (k + 1)) x = q) := by
        have := HS2.out
        rw [if_pos (show ad (sl B k) = x from hx)] at this
        show _ = q
        omega
      go_roundw
      case rel => exact ⟨k + 1, n + 1, by omega, by go_num, by go_num, HS3.out, HB2.out⟩
      case measure => simp [intOf]; omega
    · have HS3 : Hid (n + own (B.drop (k + 1)) x = q) := by
        have := HS2.out
        rw [if_neg (show ¬ ad (sl B k) = x from hx)] at this
        show _ = q
        omega
      go_roundw
      case rel => exact ⟨k + 1, n, by omega, by go_num, rfl, HS3.out, HB2.out⟩
      case measure => simp [intOf]; omega
end Go.Proofs.Ythjmcopknkemnaa.slots
