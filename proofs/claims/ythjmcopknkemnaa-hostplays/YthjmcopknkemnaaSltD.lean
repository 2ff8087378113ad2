/- slots: what Check and leastAddr answer. -/
import Derived.Test.YthjmcopknkemnaaSltC
import Derived.Test.YthjmcopknkemnaaSltN
namespace Go.Proofs.Ythjmcopknkemnaa.slots
open Go Go.RowKit
set_option linter.unusedVariables false
set_option linter.unusedSimpArgs false
set_option maxRecDepth 100000

theorem all_step {B : Bd} {k : Nat} {f : List Int → Bool} (h : k < B.length) : (B.drop k).all f = (f (sl B k) && (B.drop (k + 1)).all f) := by
  have e : B[k]'h = sl B k := by
    have := sl_at h
    rw [List.getElem?_eq_getElem h] at this
    exact Option.some.inj this
  rw [List.drop_eq_getElem_cons h, e, List.all_cons]
def chE (B : Bd) : Int := if chk B = true then 0 else 4
theorem z_length : z66.length = 66 := by simp [z66]
set_option maxHeartbeats 8000000 in
theorem check_any (B : Bd) (w : World) (hw : Wf B) : Calls Try.prog 53 #[ag (fl B)] w fun e w' => e = .returned (.int .i64 (chE B)) ∧ Below w.heap.size w w' := by
  have HL : Hid ((fl B).length = 594) := hw.length
  have HC : Hid (cut (fl B) 0 594 = fl B) := cut_all hw.length
  have HW : Hid (Wf B) := hw
  have H0 : Hid (cut (fl B) 0 66 = sl B 0) := fl_cut hw (i := 0) (by omega)
  have H0L : Hid ((sl B 0).length = 66) := hw.sl (by omega)
  have HR : Hid (∀ k u, k < 9 → Calls Try.prog 77 #[ag (sl B k)] u fun e w' => e = .returned (.bool (right (sl B k))) ∧ Below u.heap.size u w') := fun k u hk => isRight_any _ u (hw.sl hk)
  have HO : Hid (∀ x u, Calls Try.prog 78 #[ag (fl B), .int .i64 x] u fun e w' => e = .returned (.int .i64 (own B x : Int)) ∧ Below u.heap.size u w') := fun x u => owners_any B x u hw
  have H9 : Hid (∀ x, own B x ≤ 9) := fun x => by rw [← hw.nine]; exact own_le B x
  have hb := bld_0
  obtain ⟨q, hq⟩ : ∃ q, chE B = q := ⟨_, rfl⟩
  have HQ : Hid (chE B = q) := hq
  rw [hq]
  clear hq hw
  by_cases hz : ¬ sl B 0 = z66
  · have HQ2 : Hid (4 = q) := by
      show _ = q
      rw [← HQ.out]; unfold chE chk; rw [decide_eq_false hz]; rfl
    have e0 : decide (sl B 0 = z66) = false := decide_eq_false hz
    clear HQ hz
    go_enter Try.func53, Try.ntmps53
    go_wp2_with (first
      | (refine a_box rfl rfl rfl ?_; intro u Z hN; have hB := hN.lies; have HB : Hid (Below w.heap.size w u) := hN.below; clear hN)
      | (refine a_load rfl rfl row_slot rfl hB (by have := HL.out; omega) H0.out ?_)
      | (refine a_build rfl rfl hb (by simp [Act.eval]) ?_)
      | (refine a_neq rfl rfl cmp_slot rfl rfl H0L.out z_length ?_; rw [e0]))
    go_ret
    rw [← HQ2.out]
    exact ⟨rfl, HB.out⟩
  have hz : sl B 0 = z66 := by simpa using hz
  have HQ2 : Hid ((if B.all (okS B) = true then 0 else 4) = q) := by
    show _ = q
    rw [← HQ.out]; unfold chE chk; rw [decide_eq_true hz, Bool.true_and]
  have e0 : decide (sl B 0 = z66) = true := decide_eq_true hz
  clear HQ hz
  go_enter Try.func53, Try.ntmps53
  go_wp2_with (first
    | (refine a_box rfl rfl rfl ?_; intro u Z hN; have hB := hN.lies; have HB : Hid (Below w.heap.size w u) := hN.below; clear hN)
    | (refine a_load rfl rfl row_slot rfl hB (by have := HL.out; omega) H0.out ?_)
    | (refine a_load rfl rfl row_slots rfl hB (by have := HL.out; omega) HC.out ?_)
    | (refine a_build rfl rfl hb (by simp [Act.eval]) ?_)
    | (refine a_neq rfl rfl cmp_slot rfl rfl H0L.out z_length ?_; rw [e0]))
  have HZ : Hid (∀ v, Below u.heap.size u v → v.heap[Z]? = some (bx 41 (fl B))) := fun v hv => keep hB hv
  clear hB e0 H0 H0L hb
  go_loopw [4, 12] (fun _ i wr => ∃ k : Nat, k ≤ 9 ∧ i = .int .i64 (k : Int) ∧ Hid ((if (B.drop k).all (okS B) = true then 0 else 4) = q ∧ Below u.heap.size u wr)) (fun _ i _ => 9 - (intOf i).toNat)
  case atStart => exact ⟨0, by omega, rfl, by rw [List.drop_zero]; exact HQ2.out, Below.refl _ _⟩
  case round =>
    obtain ⟨k, hk, rfl, HA⟩ := hrel
    by_cases hlt : ¬ k < 9
    · have HQ3 : Hid (0 = q) := by
        have := HA.out.1
        rw [List.drop_eq_nil_of_le (by rw [HW.out.nine]; omega)] at this
        exact this
      have HBr : Hid (Below w.heap.size w wr) := bsq HB.out HA.out.2
      clear HA HQ2
      go_wp2
      go_ret
      rw [← HQ3.out]
      exact ⟨rfl, HBr.out⟩
    have hlt : k < 9 := by omega
    have hix := run_indexS (fl B) k hlt
    rw [fl_cut HW.out hlt] at hix
    have HS := HA.out.1
    rw [all_step (by rw [HW.out.nine]; omega)] at HS
    have HSL : Hid ((sl B k).length = 66) := HW.out.sl hlt
    have HSC : Hid (cut (sl B k) 0 66 = sl B k) := cut_all (HW.out.sl hlt)
    have HBr : Hid (Below u.heap.size u wr) := HA.out.2
    have HRk : Hid (∀ u, Calls Try.prog 77 #[ag (sl B k)] u fun e w' => e = .returned (.bool (right (sl B k))) ∧ Below u.heap.size u w') := fun u => HR.out k u hlt
    have HOk : Hid (∀ u, Calls Try.prog 78 #[ag (fl B), .int .i64 (cl (sl B k) 1)] u fun e w' => e = .returned (.int .i64 (own B (cl (sl B k) 1) : Int)) ∧ Below u.heap.size u w') := HO.out _
    have hn9 : own B (cl (sl B k) 1) ≤ 9 := H9.out _
    have HS2 : Hid ((if (okS B (sl B k) && (B.drop (k + 1)).all (okS B)) = true then 0 else 4) = q) := HS
    have HOK : Hid (okS B (sl B k) = (right (sl B k) && (cl (sl B k) 1 == 0 || decide (own B (cl (sl B k) 1) ≤ 1)))) := rfl
    clear HS HA HQ2 HR HO H9
    generalize okS B (sl B k) = ok at *
    generalize right (sl B k) = rg at *
    generalize own B (cl (sl B k) 1) = nw at *
    generalize hsk : sl B k = s at *
    clear hsk
    go_upto_region 6 with (first
      | (refine a_alloc rfl zer_slot rfl ?_; intro u1 Y hN)
      | (refine a_fill rfl rfl row_slot rfl rfl hN.lies HSL.out List.length_replicate ?_; intro u2 hY hC; have HB2 : Hid (Below u.heap.size u u2) := hC.below _ _ (by rw [hN.at']; exact HBr.out.size) (bsq HBr.out hN.below); clear hN hC))
    clear HBr hix
    go_simp
    rename World => u2
    have hc := bx_cell (j := 1) hY (cl_at (by rw [HSL.out]; omega))
    go_cut [29] from 13 to 30 (fun bv wx => bv = .bool (!ok) ∧ Hid (Below u.heap.size u wx))
    case first =>
      go_wp2_with (refine a_load rfl rfl row_slot rfl hY (by have := HSL.out; omega) HSC.out ?_)
      refine (HRk.out _).mono ?_
      rintro e v ⟨rfl, hv⟩
      have hY2 := keep hY hv
      have HB3 : Hid (Below u.heap.size u v) := bsq HB2.out hv
      have hc2 := bx_cell (j := 1) hY2 (cl_at (by rw [HSL.out]; omega))
      have hZ := HZ.out v HB3.out
      clear hY hc hv HB2
      cases rg
      · have HE : Hid (ok = false) := HOK.out
        clear HOK
        go_wp2
        go_meet
        case rel => exact ⟨by rw [HE.out]; rfl, HB3.out⟩
      · by_cases hx : cl s 1 = 0
        · have HE : Hid (ok = true) := by show ok = true; rw [HOK.out, hx]; rfl
          clear HOK
          go_wp2
          go_meet
          case rel => exact ⟨by rw [HE.out]; rfl, HB3.out⟩
        · have e1 : (cl s 1 != 0) = true := by simpa using hx
          have HE : Hid (ok = decide (nw ≤ 1)) := by
            show ok = _
            rw [HOK.out]
            have : (cl s 1 == 0) = false := by simpa using hx
            rw [this]; rfl
          clear HOK hx
          go_wp2_with (refine a_load rfl rfl row_board rfl hZ (by have := HL.out; omega) HC.out ?_)
          refine (HOk.out _).mono ?_
          rintro e v2 ⟨rfl, hv⟩
          have HB4 : Hid (Below u.heap.size u v2) := bsq HB3.out hv
          clear hv hc2 hY2 hZ
          go_wp2
          go_meet
          case rel => exact ⟨by
            rw [HE.out]
            congr 1
            rw [Bool.eq_iff_iff]
            simp
            try omega, HB4.out⟩
    case rest =>
    obtain ⟨rfl, HW2⟩ := hcut
    rename World => wx
    clear hY hc HB2
    cases ok
    · have HQ3 : Hid (4 = q) := HS2.out
      clear HS2
      go_wp2
      go_ret
      rw [← HQ3.out]
      exact ⟨rfl, bsq HB.out HW2.out⟩
    · have HQ3 : Hid ((if (B.drop (k + 1)).all (okS B) = true then 0 else 4) = q) := HS2.out
      clear HS2
      go_wp2
      go_roundw
      case rel => exact ⟨k + 1, by omega, by go_num, HQ3.out, HW2.out⟩
      case measure => simp [intOf]; omega
set_option maxHeartbeats 4000000 in
theorem leastAddr_any (B : Bd) (w : World) (hw : Wf B) : Calls Try.prog 92 #[ag (fl B)] w fun e w' => e = .returned (.int .i64 (la B : Int)) ∧ Below w.heap.size w w' := by
  have HL : Hid ((fl B).length = 594) := hw.length
  have HC : Hid (cut (fl B) 0 594 = fl B) := cut_all hw.length
  have HW : Hid (Wf B) := hw
  have HO : Hid (∀ x u, Calls Try.prog 78 #[ag (fl B), .int .i64 x] u fun e w' => e = .returned (.int .i64 (own B x : Int)) ∧ Below u.heap.size u w') := fun x u => owners_any B x u hw
  obtain ⟨q, hq⟩ : ∃ q, la B = q := ⟨_, rfl⟩
  have HQ : Hid (la B = q) := hq
  rw [hq]
  clear hq hw
  go_enter Try.func92, Try.ntmps92
  go_wp2_with (refine a_box rfl rfl rfl ?_; intro u Z hN; have hB := hN.lies; have HB : Hid (Below w.heap.size w u) := hN.below; clear hN)
  have HZ : Hid (∀ v, Below u.heap.size u v → v.heap[Z]? = some (bx 41 (fl B))) := fun v hv => keep hB hv
  clear hB
  go_loopw [3] (fun i wr => ∃ k : Nat, 1 ≤ k ∧ k ≤ 10 ∧ i = .int .i64 (k : Int) ∧ Hid ((∀ x : Nat, 1 ≤ x → x < k → (x : Int) ∈ ads B) ∧ Below u.heap.size u wr)) (fun i _ => 10 - (intOf i).toNat)
  case atStart => exact ⟨1, by omega, by omega, rfl, fun x h1 h2 => by omega, Below.refl _ _⟩
  case round =>
    obtain ⟨k, hk1, hk, rfl, HA⟩ := hrel
    have hZ := HZ.out wr HA.out.2
    have HOk : Hid (∀ u, Calls Try.prog 78 #[ag (fl B), .int .i64 (k : Int)] u fun e w' => e = .returned (.int .i64 (own B (k : Int) : Int)) ∧ Below u.heap.size u w') := HO.out _
    have HN : Hid (0 < own B (k : Int) ↔ (k : Int) ∈ ads B) := own_pos
    generalize own B (k : Int) = n at *
    go_wp2_with (refine a_load rfl rfl row_board rfl hZ (by have := HL.out; omega) HC.out ?_)
    refine (HOk.out _).mono ?_
    rintro e v ⟨rfl, hv⟩
    have HB2 : Hid (Below u.heap.size u v) := bsq HA.out.2 hv
    clear hv hZ HOk
    by_cases hn : ¬ 0 < n
    · have HE : Hid (k = q) := by show k = q; rw [← HQ.out]; exact (lst_eq ⟨hk1, fun h => hn (HN.out.2 h), HA.out.1⟩).symm
      have e1 : n = 0 := by omega
      subst e1
      clear HN HA HQ
      go_wp2
      go_ret
      rw [← HE.out]
      exact ⟨rfl, bsq HB.out HB2.out⟩
    · have hn : 0 < n := by omega
      have HA2 : Hid (∀ x : Nat, 1 ≤ x → x < k + 1 → (x : Int) ∈ ads B) := fun x h1 h2 => by
        by_cases e : x = k
        · rw [e]; exact HN.out.1 hn
        · exact HA.out.1 x h1 (by omega)
      have hk9 : k + 1 ≤ 10 := by
        have := pig k (ads B) (fun x h1 h2 => HA2.out x h1 (by omega))
        unfold ads at this
        rw [List.length_map, HW.out.nine] at this
        omega
      clear HN HA HQ
      go_wp2
      go_roundw
      case rel => exact ⟨k + 1, by omega, by omega, by go_num, HA2.out, HB2.out⟩
      case measure => simp [intOf]; omega
end Go.Proofs.Ythjmcopknkemnaa.slots
