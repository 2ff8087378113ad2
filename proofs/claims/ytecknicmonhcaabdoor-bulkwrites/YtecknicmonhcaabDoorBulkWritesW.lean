/- BulkWrites: the walk. (Written by tools/genbulwrites.py.) -/
import Derived.Test.YtecknicmonhcaabDoorBulK
namespace Go.Proofs.YtecknicmonhcaabDoor.bulkWrites
open Go Go.RowKit Go.PlainAid Go.Proofs.YtecknicmonhcaabDoor.lane Go.Proofs.YtecknicmonhcaabDoor.pipe Go.Proofs.YtecknicmonhcaabDoor.strike Go.Proofs.YtecknicmonhcaabDoor.bulk
open Go.Proofs.YtecknicmonhcaabDoor.scsi (mkT mkB mk_both wrB wr_zero wr_set wr_length txs_some txs_set txs_cell txs_free txs_block run_part rts_form)
set_option linter.unusedVariables false
set_option linter.unusedSimpArgs false
set_option maxRecDepth 100000

set_option maxHeartbeats 16000000 in
theorem walk (x0 : Value) (l0 : List ByteArray) (s0 : Int) (a1 a2 a3 : Int) (t : ByteArray) (w1 : (Lit.int .i64 a1).wf = true) (w2 : (Lit.int .i64 a2).wf = true) (w3 : (Lit.int .i64 a3).wf = true) (w4 : t.size ≤ maxLen) (w : World) (hp : Rts w x0 l0) (hk : l0.length * 16 ≤ reachBytes) (m0 : Int) (hw : w.cell? ⟨0, 0, none⟩ = some (.int .i64 m0)) :
    Calls Tryd.prog 3 #[ag (dkl x0 s0), .int .i64 a1, .int .i64 a2, .int .i64 a3, .string t] w fun e w' => e = .returned (.bool true) ∧ Below w.heap.size w w' := by
  clear w1 w2 w3
  have hw0 : 0 < w.heap.size := World.block_lt_of_cell? w _ hw
  have HW : Hid (∀ u, Below w.heap.size w u → u.cell? ⟨0, 0, none⟩ = some (.int .i64 m0)) := fun u hb => (hb.cell (p := ⟨0, 0, none⟩) hw0).trans hw
  clear hw hw0
  have HL : Hid (∀ u, Calls Tryd.prog 4 #[] u fun e w' => e = .returned (.bool true) ∧ Below u.heap.size u w') := fun u => lives_any u
  have hC0 := rtp hp
  have hM := Mm.nil w
  obtain ⟨xa, xc, rfl, _, _⟩ := rts_form hp
  by_cases q1 : a1 < 0
  · clear hk hp HW w4 hC0
    generalize l0.length = n0 at *
    go_enter Tryd.func3, Tryd.ntmps3
    repeat' (first | (go_big_may; first | (refine v_box rfl rfl rfl ?_; intro u zd hN; replace hM := Mm.new (L := []) hM hN; clear hN)) | go_values | go_skip | go_guarded | go_step | go_upon | (simp only [Int.not_lt, Int.not_le] at *; go_simp))
    refine (HL.out _).mono ?_
    rintro e y ⟨rfl, hb⟩
    replace hM := hM.call hb
    clear hb
    repeat' (first | (go_big_may; first | (refine v_get rfl rfl (by first | exact lod_int | exact lod_str | exact lod_fcs | exact lod_err | exact lod_bool | exact lod_txs) rfl hM.at0 rfl ?_)) | go_values | go_skip | go_guarded | go_step | go_upon | (simp only [Int.not_lt, Int.not_le] at *; go_simp))
    refine (HL.out _).mono ?_
    rintro e y ⟨rfl, hb⟩
    replace hM := hM.call hb
    clear hb HL
    repeat' (first | go_values | go_skip | go_guarded | go_step | go_upon | (simp only [Int.not_lt, Int.not_le] at *; go_simp))
    go_ret
    exact ⟨rfl, hM.below⟩
  by_cases q2 : a1 > 255
  · clear hk hp HW w4 hC0
    generalize l0.length = n0 at *
    go_enter Tryd.func3, Tryd.ntmps3
    repeat' (first | (go_big_may; first | (refine v_box rfl rfl rfl ?_; intro u zd hN; replace hM := Mm.new (L := []) hM hN; clear hN)) | go_values | go_skip | go_guarded | go_step | go_upon | (simp only [Int.not_lt, Int.not_le] at *; go_simp))
    refine (HL.out _).mono ?_
    rintro e y ⟨rfl, hb⟩
    replace hM := hM.call hb
    clear hb
    repeat' (first | (go_big_may; first | (refine v_get rfl rfl (by first | exact lod_int | exact lod_str | exact lod_fcs | exact lod_err | exact lod_bool | exact lod_txs) rfl hM.at0 rfl ?_)) | go_values | go_skip | go_guarded | go_step | go_upon | (simp only [Int.not_lt, Int.not_le] at *; go_simp))
    refine (HL.out _).mono ?_
    rintro e y ⟨rfl, hb⟩
    replace hM := hM.call hb
    clear hb HL
    repeat' (first | go_values | go_skip | go_guarded | go_step | go_upon | (simp only [Int.not_lt, Int.not_le] at *; go_simp))
    go_ret
    exact ⟨rfl, hM.below⟩
  by_cases q3 : a2 < 0
  · clear hk hp HW w4 hC0
    generalize l0.length = n0 at *
    go_enter Tryd.func3, Tryd.ntmps3
    repeat' (first | (go_big_may; first | (refine v_box rfl rfl rfl ?_; intro u zd hN; replace hM := Mm.new (L := []) hM hN; clear hN)) | go_values | go_skip | go_guarded | go_step | go_upon | (simp only [Int.not_lt, Int.not_le] at *; go_simp))
    refine (HL.out _).mono ?_
    rintro e y ⟨rfl, hb⟩
    replace hM := hM.call hb
    clear hb
    repeat' (first | (go_big_may; first | (refine v_get rfl rfl (by first | exact lod_int | exact lod_str | exact lod_fcs | exact lod_err | exact lod_bool | exact lod_txs) rfl hM.at0 rfl ?_)) | go_values | go_skip | go_guarded | go_step | go_upon | (simp only [Int.not_lt, Int.not_le] at *; go_simp))
    refine (HL.out _).mono ?_
    rintro e y ⟨rfl, hb⟩
    replace hM := hM.call hb
    clear hb HL
    repeat' (first | go_values | go_skip | go_guarded | go_step | go_upon | (simp only [Int.not_lt, Int.not_le] at *; go_simp))
    go_ret
    exact ⟨rfl, hM.below⟩
  by_cases q4 : a2 > 255
  · clear hk hp HW w4 hC0
    generalize l0.length = n0 at *
    go_enter Tryd.func3, Tryd.ntmps3
    repeat' (first | (go_big_may; first | (refine v_box rfl rfl rfl ?_; intro u zd hN; replace hM := Mm.new (L := []) hM hN; clear hN)) | go_values | go_skip | go_guarded | go_step | go_upon | (simp only [Int.not_lt, Int.not_le] at *; go_simp))
    refine (HL.out _).mono ?_
    rintro e y ⟨rfl, hb⟩
    replace hM := hM.call hb
    clear hb
    repeat' (first | (go_big_may; first | (refine v_get rfl rfl (by first | exact lod_int | exact lod_str | exact lod_fcs | exact lod_err | exact lod_bool | exact lod_txs) rfl hM.at0 rfl ?_)) | go_values | go_skip | go_guarded | go_step | go_upon | (simp only [Int.not_lt, Int.not_le] at *; go_simp))
    refine (HL.out _).mono ?_
    rintro e y ⟨rfl, hb⟩
    replace hM := hM.call hb
    clear hb HL
    repeat' (first | go_values | go_skip | go_guarded | go_step | go_upon | (simp only [Int.not_lt, Int.not_le] at *; go_simp))
    go_ret
    exact ⟨rfl, hM.below⟩
  by_cases q5 : a3 < 0
  · clear hk hp HW w4 hC0
    generalize l0.length = n0 at *
    go_enter Tryd.func3, Tryd.ntmps3
    repeat' (first | (go_big_may; first | (refine v_box rfl rfl rfl ?_; intro u zd hN; replace hM := Mm.new (L := []) hM hN; clear hN)) | go_values | go_skip | go_guarded | go_step | go_upon | (simp only [Int.not_lt, Int.not_le] at *; go_simp))
    refine (HL.out _).mono ?_
    rintro e y ⟨rfl, hb⟩
    replace hM := hM.call hb
    clear hb
    repeat' (first | (go_big_may; first | (refine v_get rfl rfl (by first | exact lod_int | exact lod_str | exact lod_fcs | exact lod_err | exact lod_bool | exact lod_txs) rfl hM.at0 rfl ?_)) | go_values | go_skip | go_guarded | go_step | go_upon | (simp only [Int.not_lt, Int.not_le] at *; go_simp))
    refine (HL.out _).mono ?_
    rintro e y ⟨rfl, hb⟩
    replace hM := hM.call hb
    clear hb HL
    repeat' (first | go_values | go_skip | go_guarded | go_step | go_upon | (simp only [Int.not_lt, Int.not_le] at *; go_simp))
    go_ret
    exact ⟨rfl, hM.below⟩
  by_cases q6 : a3 > 4294967295
  · clear hk hp HW w4 hC0
    generalize l0.length = n0 at *
    go_enter Tryd.func3, Tryd.ntmps3
    repeat' (first | (go_big_may; first | (refine v_box rfl rfl rfl ?_; intro u zd hN; replace hM := Mm.new (L := []) hM hN; clear hN)) | go_values | go_skip | go_guarded | go_step | go_upon | (simp only [Int.not_lt, Int.not_le] at *; go_simp))
    refine (HL.out _).mono ?_
    rintro e y ⟨rfl, hb⟩
    replace hM := hM.call hb
    clear hb
    repeat' (first | (go_big_may; first | (refine v_get rfl rfl (by first | exact lod_int | exact lod_str | exact lod_fcs | exact lod_err | exact lod_bool | exact lod_txs) rfl hM.at0 rfl ?_)) | go_values | go_skip | go_guarded | go_step | go_upon | (simp only [Int.not_lt, Int.not_le] at *; go_simp))
    refine (HL.out _).mono ?_
    rintro e y ⟨rfl, hb⟩
    replace hM := hM.call hb
    clear hb HL
    repeat' (first | go_values | go_skip | go_guarded | go_step | go_upon | (simp only [Int.not_lt, Int.not_le] at *; go_simp))
    go_ret
    exact ⟨rfl, hM.below⟩
  have d1 : decide (a1 < 0) = false := decide_eq_false q1
  have d2 : decide (255 < a1) = false := decide_eq_false (by omega)
  have d3 : decide (a2 < 0) = false := decide_eq_false q3
  have d4 : decide (255 < a2) = false := decide_eq_false (by omega)
  have d5 : decide (a3 < 0) = false := decide_eq_false q5
  have d6 : decide (4294967295 < a3) = false := decide_eq_false (by omega)
  by_cases q7 : l0.length > 64
  · clear hk hp HW w4 hC0
    generalize l0.length = n0 at *
    go_enter Tryd.func3, Tryd.ntmps3
    repeat' (first | (go_big_may; first | (refine v_box rfl rfl rfl ?_; intro u zd hN; replace hM := Mm.new (L := []) hM hN; clear hN)) | go_values | go_skip | go_guarded | go_step | go_upon | (simp only [Int.not_lt, Int.not_le] at *; go_simp))
    refine (HL.out _).mono ?_
    rintro e y ⟨rfl, hb⟩
    replace hM := hM.call hb
    clear hb
    repeat' (first | (go_big_may; first | (refine v_get rfl rfl (by first | exact lod_int | exact lod_str | exact lod_fcs | exact lod_err | exact lod_bool | exact lod_txs) rfl hM.at0 rfl ?_)) | go_values | go_skip | go_guarded | go_step | go_upon | (simp only [Int.not_lt, Int.not_le] at *; go_simp))
    refine (HL.out _).mono ?_
    rintro e y ⟨rfl, hb⟩
    replace hM := hM.call hb
    clear hb HL
    repeat' (first | go_values | go_skip | go_guarded | go_step | go_upon | (simp only [Int.not_lt, Int.not_le] at *; go_simp))
    go_ret
    exact ⟨rfl, hM.below⟩
  have b1 : 0 ≤ a1 := by omega
  have b2 : a1 ≤ 255 := by omega
  have b3 : 0 ≤ a2 := by omega
  have b4 : a2 ≤ 255 := by omega
  have b5 : 0 ≤ a3 := by omega
  have b6 : a3 ≤ 4294967295 := by omega
  have b7 : l0.length ≤ 64 := by omega
  have d7 : decide (64 < l0.length) = false := decide_eq_false (by omega)
  have d8 : decide ((64 : Int) < (l0.length : Int)) = false := decide_eq_false (by omega)
  clear q1 q2 q3 q4 q5 q6 q7
  obtain ⟨hm, h10⟩ := ten_mk b1 b2 b3 b4
  have hm4 : mkB 40 a1 a2 = true := (mk_both 40 42 a1 a2 rfl rfl).trans hm
  have hk1 := wy_ok b5 b6 hm
  have e1 : wrC (wy a3 (mkT 42 a1 a2)) = 0 := if_pos hk1
  have hsz1 : (wrT (wy a3 (mkT 42 a1 a2))).size ≤ maxLen := by rw [wr_size hk1]; decide
  have hcs : (wy a3 (mkT 42 a1 a2)).cmd.size ≤ maxLen := scsi.mk_max 42 a1 a2
  obtain ⟨K, hK⟩ : ∃ K, mkT 42 a1 a2 = K := ⟨_, rfl⟩
  have H1 : Hid (∀ u, Calls Tryd.prog 5 #[ag (wpl (wy a3 K))] u fun e w' => e = .returned (.tuple #[.string (wrT (wy a3 K)), .int .i64 0]) ∧ Below u.heap.size u w') := fun u => by
    have := writeWrap_any _ hcs u
    rw [e1, hK] at this
    exact this
  have H4 : Hid (∀ u, Below w.heap.size w u → Calls Tryd.prog 9 #[.string K, .string ⟨#[42]⟩, .string ⟨#[40]⟩, .int .i64 1] u fun e w' => e = .returned (.string (mkT 40 a1 a2)) ∧ Below u.heap.size u w') := fun u hb => by
    have := rep2_any hm m0 u (HW.out u hb)
    rw [hK] at this
    exact this
  clear HW
  obtain ⟨A, hA⟩ : ∃ A, svA ⟨l0, s0⟩ (wrT (wy a3 (mkT 42 a1 a2))) t = A := ⟨_, rfl⟩
  obtain ⟨T, hT⟩ : ∃ T, svT ⟨l0, s0⟩ (wrT (wy a3 (mkT 42 a1 a2))) t = T := ⟨_, rfl⟩
  obtain ⟨C, hC⟩ : ∃ C, tkE ⟨l0, s0⟩ (wrT (wy a3 (mkT 42 a1 a2))) t = C := ⟨_, rfl⟩
  obtain ⟨D, hD⟩ : ∃ D, svD ⟨l0, s0⟩ (wrT (wy a3 (mkT 42 a1 a2))) t = D := ⟨_, rfl⟩
  obtain ⟨N, S⟩ := D
  have H2 : Hid (∀ u, Rts u (.slice xa l0.length xc) l0 → Calls Tryd.prog 6 #[ag (dkl (.slice xa l0.length xc) s0), .string (wrT (wy a3 K)), .string t] u fun e w' => ∃ a cp, e = .returned (.tuple #[ag (dkl (.slice a N.length cp) S), .string A, .string T, .int .i64 C]) ∧ Rts w' (.slice a N.length cp) N ∧ Below u.heap.size u w') := fun u hu => by
    have := serve_any _ ⟨l0, s0⟩ (wrT (wy a3 (mkT 42 a1 a2))) t u hu (by show l0.length ≤ _; omega) hsz1 w4
    rw [hK] at this
    refine this.mono ?_
    rintro e w' ⟨v', rfl, hr, hb⟩
    rw [← hK, hD] at hr
    obtain ⟨a, cp, rfl, _, _⟩ := hr.form
    exact ⟨a, cp, by rw [← hK, hA, hT, hC, hD], hr.rts, hb⟩
  have u1 : IntKind.u8.wrap a1 = a1 := by rw [IntKind.wrap_u8]; omega
  have u2 : IntKind.u8.wrap a2 = a2 := by rw [IntKind.wrap_u8]; omega
  have u3 : a1 % 256 = a1 := by omega
  have u4 : a2 % 256 = a2 := by omega
  rw [hK] at h10
  by_cases h0 : C ≠ 0
  · have hD1 : (⟨N, S⟩ : scsi.Dk) = ⟨l0, s0⟩ := by rw [← hD]; unfold svD; rw [if_pos (by rw [hC]; exact h0)]
    injection hD1 with hN1 hS1
    subst hN1 hS1
    have H3 : Hid (∀ v1 v2 u, Rts u v1 N → Rts u v2 N → Calls Tryd.prog 7 #[ag (dkl v1 S), ag (dkl v2 S)] u fun e w' => e = .returned (.bool true) ∧ Below u.heap.size u w') := fun v1 v2 u a b => by
      have := scsi.same_any v1 v2 N N S S u a b
      rw [decide_eq_true rfl, decide_eq_true rfl] at this
      exact this
    have e2 : (C != 0) = true := by simp [h0]
    clear hk hp w4 hA hT hC hD h0 hsz1 hcs e1 hk1 hm4 H4
    generalize hnn : N.length = nn at *
    clear hnn
    go_enter Tryd.func3, Tryd.ntmps3
    repeat' (first | (go_big_may; first | (refine v_box rfl rfl rfl ?_; intro u zd hN; replace hM := Mm.new (L := []) hM hN; clear hN)) | go_values | go_skip | go_guarded | go_step | go_upon | (simp only [Int.not_lt, Int.not_le] at *; go_simp))
    refine (HL.out _).mono ?_
    rintro e y ⟨rfl, hb⟩
    replace hM := hM.call hb
    clear hb
    repeat' (first | (go_big_may; first | (refine v_get rfl rfl (by first | exact lod_int | exact lod_str | exact lod_fcs | exact lod_err | exact lod_bool | exact lod_txs) rfl hM.at0 rfl ?_) | (refine v_bsn rfl rfl (bs_ten a1 a2) ?hbv ?_; (case hbv => simp [Act.eval, Act.put]); intro u zb hN; replace hM := hM.new hN; clear hN) | (refine v_cnv rfl rfl rfl hM.at0 rfl ?_; rw [h10]) | (refine v_build rfl rfl (bld_wy a3 K) ?hbv ?_; (case hbv => simp [Act.eval, Act.put]))) | go_values | go_skip | go_guarded | go_step | go_upon | (simp only [Int.not_lt, Int.not_le] at *; go_simp))
    refine (H1.out _).mono ?_
    rintro e y ⟨rfl, hb⟩
    replace hM := hM.call hb
    clear hb H1
    repeat' (first | (go_big_may; first | (refine v_load rfl rfl row_disk rfl hM.at1 (Nat.le_refl _) (cut_all rfl) ?_)) | go_values | go_skip | go_guarded | go_step | go_upon | (simp only [Int.not_lt, Int.not_le] at *; go_simp))
    refine (H2.out _ (hC0.call hM.below).out).mono ?_
    rintro e y3 ⟨ya, yc, rfl, hr, hb⟩
    replace hM := hM.call hb
    have hR := rtp hr
    clear hb hr H2
    clear b1 b2 b3 b4 b5 b6 b7 hm hK h10 u1 u2 u3 u4
    repeat' (first | (go_big_may; first | (refine v_alloc rfl zer_disk rfl ?_; intro u za hN; replace hR := hR.call hN.below; replace hM := hM.new hN; clear hN) | (refine v_fill rfl rfl row_disk rfl rfl hM.at0 (dkl_vs (v := .slice ya nn yc) S rfl) rfl ?_; intro u hv hc; replace hR := rtp (rtz_chg hR.out hM.at0 (fun x q => by cases q) hc); replace hM := hM.put0 hc hv; clear hv hc) | (refine v_load rfl rfl row_disk rfl hM.at0 (Nat.le_refl _) (cut_all rfl) ?_) | (refine v_load rfl rfl row_disk rfl hM.at2 (Nat.le_refl _) (cut_all rfl) ?_)) | go_values | go_skip | go_guarded | go_step | go_upon | (simp only [Int.not_lt, Int.not_le] at *; go_simp))
    refine (H3.out _ _ _ hR.out (hC0.call hM.below).out).mono ?_
    rintro e y4 ⟨rfl, hb⟩
    replace hM := hM.call hb
    clear hb H3 hR hC0
    repeat' (first | go_values | go_skip | go_guarded | go_step | go_upon | (simp only [Int.not_lt, Int.not_le] at *; go_simp))
    go_ret
    exact ⟨rfl, hM.below⟩
  have h0 : C = 0 := Classical.not_not.1 h0
  subst h0
  have hts : (svT ⟨l0, s0⟩ (wrT (wy a3 (mkT 42 a1 a2))) t) = stT (svS ⟨l0, s0⟩ (wrT (wy a3 (mkT 42 a1 a2))) t) := by unfold svT; rw [if_neg (by rw [hC]; exact fun q => q rfl)]
  have hk2 := (sv_status hC).1
  obtain ⟨g1, g2, g3, g4, g5⟩ := bw_served b5 b6 hm hC
  rw [hD] at g1 g2 g4 g5
  have hc1 := ((scsi.chk_iff _).1 g1).1
  have n1 : 1 ≤ l0.length := by have : N.length = l0.length := g2; have := hc1; simp only at this; omega
  obtain ⟨Z, hZ⟩ : ∃ Z, svS ⟨l0, s0⟩ (wrT (wy a3 (mkT 42 a1 a2))) t = Z := ⟨_, rfl⟩
  have hZc : svC ⟨l0, s0⟩ (wrT (wy a3 (mkT 42 a1 a2))) t = Z.code := by rw [← hZ]; rfl
  rw [hZc] at g4 g5
  rw [hZ] at hts hk2
  rw [hT] at hts
  have H3 : Hid (∀ u, Calls Tryd.prog 8 #[.string T] u fun e w' => e = .returned (.tuple #[ag (spl Z), .int .i64 0]) ∧ Below u.heap.size u w') := fun u => by
    have := readStatus_any T (by rw [hts, st_size hk2]; decide) u
    rw [hts, (rs_ok hk2).1, (rs_ok hk2).2, ← hts] at this
    exact this
  have hk3 := ry_ok (n := 16 * a2) (by omega) (by omega) hm4
  have e3 : wrC (ry (16 * a2) (mkT 40 a1 a2)) = 0 := if_pos hk3
  have hsz3 : (wrT (ry (16 * a2) (mkT 40 a1 a2))).size ≤ maxLen := by rw [wr_size hk3]; decide
  have hcs3 : (ry (16 * a2) (mkT 40 a1 a2)).cmd.size ≤ maxLen := scsi.mk_max 40 a1 a2
  have hE := bw_second (d := ⟨N, S⟩) g1 hm4
  have hIn : 0 < a2 → Z.code = 0 → svA ⟨N, S⟩ (wrT (ry (16 * a2) (mkT 40 a1 a2))) ⟨#[]⟩ = t.extract 0 (16 * a2.toNat) := fun p q => by
    obtain ⟨z1, z2, z3, z4⟩ := g4 ⟨q, p⟩
    exact bw_back (d := ⟨l0, s0⟩) g1 hm4 p z2 z4 (by omega)
  obtain ⟨K2, hK2⟩ : ∃ K2, mkT 40 a1 a2 = K2 := ⟨_, rfl⟩
  rw [hK2] at H4
  obtain ⟨I, rfl⟩ : ∃ I : Nat, a1 = (I : Int) := ⟨a1.toNat, by omega⟩
  obtain ⟨n, rfl⟩ : ∃ n : Nat, a2 = (n : Int) := ⟨a2.toNat, by omega⟩
  obtain ⟨p, hp16⟩ : ∃ p, 16 * n = p := ⟨_, rfl⟩
  have c16 : 16 * (n : Int) = (p : Int) := by omega
  rw [c16] at hk3 e3 hsz3 hcs3 hE hIn
  have H5 : Hid (∀ u, Calls Tryd.prog 5 #[ag (wpl (ry (p : Int) K2))] u fun e w' => e = .returned (.tuple #[.string (wrT (ry (p : Int) K2)), .int .i64 0]) ∧ Below u.heap.size u w') := fun u => by
    have := writeWrap_any _ hcs3 u
    rw [e3, hK2] at this
    exact this
  obtain ⟨A2, hA2⟩ : ∃ A, svA ⟨N, S⟩ (wrT (ry (p : Int) (mkT 40 (I : Int) (n : Int)))) ⟨#[]⟩ = A := ⟨_, rfl⟩
  obtain ⟨T2, hT2⟩ : ∃ T, svT ⟨N, S⟩ (wrT (ry (p : Int) (mkT 40 (I : Int) (n : Int)))) ⟨#[]⟩ = T := ⟨_, rfl⟩
  obtain ⟨D, hD2⟩ : ∃ D, svD ⟨N, S⟩ (wrT (ry (p : Int) (mkT 40 (I : Int) (n : Int)))) ⟨#[]⟩ = D := ⟨_, rfl⟩
  obtain ⟨N2, S2⟩ := D
  rw [hA2] at hIn
  have hNl : N.length = l0.length := g2
  have H6 : Hid (∀ v u, Rts u v N → Calls Tryd.prog 6 #[ag (dkl v S), .string (wrT (ry (p : Int) K2)), .string ⟨#[]⟩] u fun e w' => ∃ a cp, e = .returned (.tuple #[ag (dkl (.slice a N2.length cp) S2), .string A2, .string T2, .int .i64 0]) ∧ Below u.heap.size u w') := fun v u hu => by
    have := serve_any v ⟨N, S⟩ (wrT (ry (p : Int) (mkT 40 (I : Int) (n : Int)))) ⟨#[]⟩ u hu (by show N.length ≤ _; omega) hsz3 (by decide)
    rw [hK2] at this
    refine this.mono ?_
    rintro e w' ⟨v', rfl, hr, hb⟩
    rw [← hK2, hD2] at hr
    obtain ⟨a, cp, rfl, _, _⟩ := hr.form
    exact ⟨a, cp, by rw [← hK2, hA2, hT2, hE, hD2], hb⟩
  have H7 : Hid (∀ v1 v2 u, Rts u v1 N → Rts u v2 N → Calls Tryd.prog 10 #[v1, v2] u fun e w' => e = .returned (.bool true) ∧ Below u.heap.size u w') := fun v1 v2 u a b => by
    have := equalT_any v1 v2 N N u a b
    rwa [decide_eq_true rfl] at this
  clear hk hp hA hT hC hD hsz1 hcs e1 hk1 hm4 g1 g2 hts hk2 hZ hZc hk3 e3 hsz3 hcs3 hE hK2 hA2 hT2 hD2 hc1
  generalize N2.length = n2 at *
  rw [hNl] at H2
  clear hNl
  obtain ⟨ztag, res, code⟩ := Z
  unfold maxLen at w4
  simp only at g4 g5 hIn
  by_cases hz : code ≠ 0
  · have hz0 : (code == 0) = false := by simpa using hz
    have hz1 : (code != 0) = true := by simpa using hz
    have hNe : N = l0 := g5 (fun q => hz q.1)
    clear g4 g5 hIn
    generalize hn0 : l0.length = n0 at *
    go_enter Tryd.func3, Tryd.ntmps3
    repeat' (first | (go_big_may; first | (refine v_box rfl rfl rfl ?_; intro u zd hN; replace hM := Mm.new (L := []) hM hN; clear hN)) | go_values | go_skip | go_guarded | go_step | go_upon | (simp only [Int.not_lt, Int.not_le] at *; go_simp))
    refine (HL.out _).mono ?_
    rintro e y ⟨rfl, hb⟩
    replace hM := hM.call hb
    clear hb
    repeat' (first | (go_big_may; first | (refine v_get rfl rfl (by first | exact lod_int | exact lod_str | exact lod_fcs | exact lod_err | exact lod_bool | exact lod_txs) rfl hM.at0 rfl ?_) | (refine v_bsn rfl rfl (bs_ten (I : Int) (n : Int)) ?hbv ?_; (case hbv => simp [Act.eval, Act.put]); intro u zb hN; replace hM := hM.new hN; clear hN) | (refine v_cnv rfl rfl rfl hM.at0 rfl ?_; rw [h10]) | (refine v_build rfl rfl (bld_wy a3 K) ?hbv ?_; (case hbv => simp [Act.eval, Act.put]))) | go_values | go_skip | go_guarded | go_step | go_upon | (simp only [Int.not_lt, Int.not_le] at *; go_simp))
    refine (H1.out _).mono ?_
    rintro e y ⟨rfl, hb⟩
    replace hM := hM.call hb
    clear hb H1
    repeat' (first | (go_big_may; first | (refine v_load rfl rfl row_disk rfl hM.at1 (Nat.le_refl _) (cut_all rfl) ?_)) | go_values | go_skip | go_guarded | go_step | go_upon | (simp only [Int.not_lt, Int.not_le] at *; go_simp))
    refine (H2.out _ (hC0.call hM.below).out).mono ?_
    rintro e y3 ⟨ya, yc, rfl, hr, hb⟩
    replace hM := hM.call hb
    have hR := rtp hr
    clear hb hr H2
    repeat' (first | (go_big_may; first | (refine v_alloc rfl zer_disk rfl ?_; intro u za hN; replace hR := hR.call hN.below; replace hM := hM.new hN; clear hN) | (refine v_fill rfl rfl row_disk rfl rfl hM.at0 (dkl_vs (v := .slice ya n0 yc) S rfl) rfl ?_; intro u hv hc; replace hR := rtp (rtz_chg hR.out hM.at0 (fun x q => by cases q) hc); replace hM := hM.put0 hc hv; clear hv hc)) | go_values | go_skip | go_guarded | go_step | go_upon | (simp only [Int.not_lt, Int.not_le] at *; go_simp))
    refine (H3.out _).mono ?_
    rintro e y ⟨rfl, hb⟩
    replace hM := hM.call hb
    replace hR := hR.call hb
    clear hb H3
    repeat' (first | (go_big_may; first | (refine v_alloc rfl zer_status rfl ?_; intro u zs hN; replace hR := hR.call hN.below; replace hM := hM.new hN; clear hN) | (refine v_fill rfl rfl row_status rfl rfl hM.at0 (spl_vs ⟨ztag, res, code⟩) rfl ?_; intro u hv hc; replace hR := rtp (rtz_box hR.out hM.at0 (spl_ns _) hc); replace hM := hM.put0 hc hv; clear hv hc) | (refine v_get rfl rfl (by first | exact lod_int | exact lod_str | exact lod_fcs | exact lod_err | exact lod_bool | exact lod_txs) rfl hM.at3 rfl ?_) | (at_builtin; refine Stop.out ?_)) | go_values | go_skip | go_guarded | go_step | go_upon | (simp only [Int.not_lt, Int.not_le] at *; go_simp))
    refine ⟨?_⟩
    obtain ⟨U, hU⟩ : ∃ U, u.heap.size = U := ⟨_, rfl⟩
    have HUW : Hid (w.heap.size ≤ U) := by rw [← hU]; exact hM.below.size
    have HMM : Hid (∀ W, Below U u W → Mm w W [(zs, 36, spl ⟨ztag, res, code⟩), (za, 24, dkl (.slice ya n0 yc) S), (zb, 5, (ten (I : Int) (n : Int)).map (Value.int .u8)), (zd, 24, dkl (.slice xa n0 xc) s0)]) := fun W h => hM.call (by rw [hU]; exact h)
    have HRR : Hid (∀ W, Below U u W → Rts W (.slice ya n0 yc) N) := fun W h => (hR.call (by rw [hU]; exact h)).out
    refine wpList_txt _ rfl _ _ rfl U _ [] rfl (Txs.nil _ _) _ l0 rfl (hC0.call hM.below).out (by simp; omega) (Nat.le_of_eq hU.symm) ?_
    intro v1 y5 q1 q2
    rw [List.nil_append] at q1
    obtain ⟨g, cp, rfl⟩ := txs_some q1 (by omega)
    have HT : Hid (Txs y5 U (.slice (some ⟨g, 0, none⟩) n0 cp) l0 ∧ Below U u y5) := ⟨by rw [hn0] at q1; exact q1, q2⟩
    rw [hn0]
    clear q1 q2 hM hR hC0 hU
    go_upto_region 12 with (fail)
    go_cut [119] from 97 to 119 (fun cv wx => cv = .bool false ∧ Hid (Txs wx U (.slice (some ⟨g, 0, none⟩) n0 cp) l0 ∧ Below U u wx))
    case first =>
      have hM := HMM.out _ HT.out.2
      go_step
      try simp only [List.append_eq, List.cons_append, List.nil_append]
      refine wpl_abs fun a0 ha0 => ?_
      have fz : a0.tmps.size = 188 := by rw [ha0]; rfl
      have fd : a0.defers = [] := by rw [ha0]
      have fr : ∀ k, (k < 97 ∨ 120 ≤ k) → a0.tmps[k]? = a0.tmps[k]? := fun _ _ => rfl
      have f1 : a0.tmps[1]? = some (.int .i64 (I : Int)) := by rw [ha0]; rfl
      have f2 : a0.tmps[2]? = some (.int .i64 (n : Int)) := by rw [ha0]; rfl
      have f3 : a0.tmps[3]? = some (.int .i64 a3) := by rw [ha0]; rfl
      have f4 : a0.tmps[4]? = some (.string t) := by rw [ha0]; rfl
      have f17 : a0.tmps[17]? = some (.pointer (some ⟨zs, 0, none⟩)) := by rw [ha0]; rfl
      have f19 : a0.tmps[19]? = some (.slice (some ⟨g, 0, none⟩) n0 cp) := by rw [ha0]; rfl
      refine p_val (v := .pointer (some ⟨zs, 2, none⟩)) rfl rfl (x_fld (r := 2) rfl f17 (fun w => by kernel_rfl)) (by rw [fz]; decide) ?_
      intro b1 hk hv hz hf
      replace fz := hz.trans fz
      replace fd := hf.trans fd
      replace fr := fun k hq => (hk k (by omega)).trans (fr k hq)
      replace f1 := (hk 1 (by decide)).trans f1
      replace f2 := (hk 2 (by decide)).trans f2
      replace f3 := (hk 3 (by decide)).trans f3
      replace f4 := (hk 4 (by decide)).trans f4
      replace f19 := (hk 19 (by decide)).trans f19
      clear f17
      have f97 := hv
      clear hk hv hz hf
      refine p_val (v := .int .i64 code) rfl rfl (p_get (v := .int .i64 code) rfl f97 hM.at0 rfl) (by rw [fz]; decide) ?_
      intro b2 hk hv hz hf
      replace fz := hz.trans fz
      replace fd := hf.trans fd
      replace fr := fun k hq => (hk k (by omega)).trans (fr k hq)
      replace f1 := (hk 1 (by decide)).trans f1
      replace f2 := (hk 2 (by decide)).trans f2
      replace f3 := (hk 3 (by decide)).trans f3
      replace f4 := (hk 4 (by decide)).trans f4
      replace f19 := (hk 19 (by decide)).trans f19
      clear f97
      have f98 := hv
      clear hk hv hz hf
      refine p_val (v := .bool false) rfl rfl (by simp only [execOp, ev_con, ev_of f98]; simp [go_sem, hz]) (by rw [fz]; decide) ?_
      intro b3 hk hv hz hf
      replace fz := hz.trans fz
      replace fd := hf.trans fd
      replace fr := fun k hq => (hk k (by omega)).trans (fr k hq)
      replace f1 := (hk 1 (by decide)).trans f1
      replace f2 := (hk 2 (by decide)).trans f2
      replace f3 := (hk 3 (by decide)).trans f3
      replace f4 := (hk 4 (by decide)).trans f4
      replace f19 := (hk 19 (by decide)).trans f19
      clear f98
      have f99 := hv
      clear hk hv hz hf
      refine p_val (v := .bool false) rfl rfl (by simp only [execOp, ev_con, ev_of f99]; simp [go_sem]) (by rw [fz]; decide) ?_
      intro b4 hk hv hz hf
      replace fz := hz.trans fz
      replace fd := hf.trans fd
      replace fr := fun k hq => (hk k (by omega)).trans (fr k hq)
      replace f1 := (hk 1 (by decide)).trans f1
      replace f2 := (hk 2 (by decide)).trans f2
      replace f3 := (hk 3 (by decide)).trans f3
      replace f4 := (hk 4 (by decide)).trans f4
      replace f19 := (hk 19 (by decide)).trans f19
      clear f99
      have f100 := hv
      clear hk hv hz hf
      refine p_not ((wt_of rfl (by kernel_rfl) _ f100).trans rfl) rfl (by rw [fz]; decide) ?_
      intro b5 hk hv hz hf
      replace fz := hz.trans fz
      replace fd := hf.trans fd
      replace fr := fun k hq => (hk k (by omega)).trans (fr k hq)
      replace f1 := (hk 1 (by decide)).trans f1
      replace f2 := (hk 2 (by decide)).trans f2
      replace f3 := (hk 3 (by decide)).trans f3
      replace f4 := (hk 4 (by decide)).trans f4
      replace f19 := (hk 19 (by decide)).trans f19
      replace f100 := (hk 100 (by decide)).trans f100
      have f101 := hv
      clear hk hv hz hf
      refine p_not ((wt_of rfl (by kernel_rfl) _ f100).trans rfl) rfl (by rw [fz]; decide) ?_
      intro b6 hk hv hz hf
      replace fz := hz.trans fz
      replace fd := hf.trans fd
      replace fr := fun k hq => (hk k (by omega)).trans (fr k hq)
      replace f1 := (hk 1 (by decide)).trans f1
      replace f2 := (hk 2 (by decide)).trans f2
      replace f3 := (hk 3 (by decide)).trans f3
      replace f4 := (hk 4 (by decide)).trans f4
      replace f19 := (hk 19 (by decide)).trans f19
      replace f100 := (hk 100 (by decide)).trans f100
      replace f101 := (hk 101 (by decide)).trans f101
      have f102 := hv
      clear hk hv hz hf
      refine p_not ((wt_of rfl (by kernel_rfl) _ f100).trans rfl) rfl (by rw [fz]; decide) ?_
      intro b7 hk hv hz hf
      replace fz := hz.trans fz
      replace fd := hf.trans fd
      replace fr := fun k hq => (hk k (by omega)).trans (fr k hq)
      replace f1 := (hk 1 (by decide)).trans f1
      replace f2 := (hk 2 (by decide)).trans f2
      replace f3 := (hk 3 (by decide)).trans f3
      replace f4 := (hk 4 (by decide)).trans f4
      replace f19 := (hk 19 (by decide)).trans f19
      replace f100 := (hk 100 (by decide)).trans f100
      replace f101 := (hk 101 (by decide)).trans f101
      clear f102
      have f103 := hv
      clear hk hv hz hf
      refine p_not ((wt_of rfl (by kernel_rfl) _ f100).trans rfl) rfl (by rw [fz]; decide) ?_
      intro b8 hk hv hz hf
      replace fz := hz.trans fz
      replace fd := hf.trans fd
      replace fr := fun k hq => (hk k (by omega)).trans (fr k hq)
      replace f1 := (hk 1 (by decide)).trans f1
      replace f2 := (hk 2 (by decide)).trans f2
      replace f3 := (hk 3 (by decide)).trans f3
      replace f4 := (hk 4 (by decide)).trans f4
      replace f19 := (hk 19 (by decide)).trans f19
      replace f100 := (hk 100 (by decide)).trans f100
      clear f101 f103
      have f104 := hv
      clear hk hv hz hf
      refine p_val (v := .bool false) rfl rfl (by simp only [execOp, ev_con, ev_of f100, ev_of f104]; simp [go_sem]) (by rw [fz]; decide) ?_
      intro b9 hk hv hz hf
      replace fz := hz.trans fz
      replace fd := hf.trans fd
      replace fr := fun k hq => (hk k (by omega)).trans (fr k hq)
      replace f1 := (hk 1 (by decide)).trans f1
      replace f2 := (hk 2 (by decide)).trans f2
      replace f3 := (hk 3 (by decide)).trans f3
      replace f4 := (hk 4 (by decide)).trans f4
      replace f19 := (hk 19 (by decide)).trans f19
      clear f100 f104
      have f105 := hv
      clear hk hv hz hf
      refine p_val (v := .bool false) rfl rfl (by simp only [execOp, ev_con, ev_of f105]; simp [go_sem]) (by rw [fz]; decide) ?_
      intro b10 hk hv hz hf
      replace fz := hz.trans fz
      replace fd := hf.trans fd
      replace fr := fun k hq => (hk k (by omega)).trans (fr k hq)
      replace f1 := (hk 1 (by decide)).trans f1
      replace f2 := (hk 2 (by decide)).trans f2
      replace f3 := (hk 3 (by decide)).trans f3
      replace f4 := (hk 4 (by decide)).trans f4
      replace f19 := (hk 19 (by decide)).trans f19
      clear f105
      have f106 := hv
      clear hk hv hz hf
      refine p_not ((wt_of rfl (by kernel_rfl) _ f106).trans rfl) rfl (by rw [fz]; decide) ?_
      intro b11 hk hv hz hf
      replace fz := hz.trans fz
      replace fd := hf.trans fd
      replace fr := fun k hq => (hk k (by omega)).trans (fr k hq)
      replace f2 := (hk 2 (by decide)).trans f2
      replace f3 := (hk 3 (by decide)).trans f3
      replace f4 := (hk 4 (by decide)).trans f4
      replace f19 := (hk 19 (by decide)).trans f19
      replace f106 := (hk 106 (by decide)).trans f106
      clear f1
      have f107 := hv
      clear hk hv hz hf
      refine p_not ((wt_of rfl (by kernel_rfl) _ f106).trans rfl) rfl (by rw [fz]; decide) ?_
      intro b12 hk hv hz hf
      replace fz := hz.trans fz
      replace fd := hf.trans fd
      replace fr := fun k hq => (hk k (by omega)).trans (fr k hq)
      replace f3 := (hk 3 (by decide)).trans f3
      replace f4 := (hk 4 (by decide)).trans f4
      replace f19 := (hk 19 (by decide)).trans f19
      replace f106 := (hk 106 (by decide)).trans f106
      replace f107 := (hk 107 (by decide)).trans f107
      clear f2
      have f108 := hv
      clear hk hv hz hf
      refine p_not ((wt_of rfl (by kernel_rfl) _ f106).trans rfl) rfl (by rw [fz]; decide) ?_
      intro b13 hk hv hz hf
      replace fz := hz.trans fz
      replace fd := hf.trans fd
      replace fr := fun k hq => (hk k (by omega)).trans (fr k hq)
      replace f3 := (hk 3 (by decide)).trans f3
      replace f4 := (hk 4 (by decide)).trans f4
      replace f19 := (hk 19 (by decide)).trans f19
      replace f106 := (hk 106 (by decide)).trans f106
      clear f107 f108
      have f109 := hv
      clear hk hv hz hf
      refine p_not ((wt_of rfl (by kernel_rfl) _ f106).trans rfl) rfl (by rw [fz]; decide) ?_
      intro b14 hk hv hz hf
      replace fz := hz.trans fz
      replace fd := hf.trans fd
      replace fr := fun k hq => (hk k (by omega)).trans (fr k hq)
      replace f3 := (hk 3 (by decide)).trans f3
      replace f4 := (hk 4 (by decide)).trans f4
      replace f106 := (hk 106 (by decide)).trans f106
      replace f109 := (hk 109 (by decide)).trans f109
      clear f19
      have f110 := hv
      clear hk hv hz hf
      refine p_not ((wt_of rfl (by kernel_rfl) _ f106).trans rfl) rfl (by rw [fz]; decide) ?_
      intro b15 hk hv hz hf
      replace fz := hz.trans fz
      replace fd := hf.trans fd
      replace fr := fun k hq => (hk k (by omega)).trans (fr k hq)
      replace f3 := (hk 3 (by decide)).trans f3
      replace f4 := (hk 4 (by decide)).trans f4
      replace f106 := (hk 106 (by decide)).trans f106
      replace f109 := (hk 109 (by decide)).trans f109
      clear f110
      have f111 := hv
      clear hk hv hz hf
      refine p_not ((wt_of rfl (by kernel_rfl) _ f106).trans rfl) rfl (by rw [fz]; decide) ?_
      intro b16 hk hv hz hf
      replace fz := hz.trans fz
      replace fd := hf.trans fd
      replace fr := fun k hq => (hk k (by omega)).trans (fr k hq)
      replace f3 := (hk 3 (by decide)).trans f3
      replace f4 := (hk 4 (by decide)).trans f4
      replace f106 := (hk 106 (by decide)).trans f106
      clear f109 f111
      have f112 := hv
      clear hk hv hz hf
      refine p_val (v := .bool false) rfl rfl (by simp only [execOp, ev_con, ev_of f106, ev_of f112]; simp [go_sem]) (by rw [fz]; decide) ?_
      intro b17 hk hv hz hf
      replace fz := hz.trans fz
      replace fd := hf.trans fd
      replace fr := fun k hq => (hk k (by omega)).trans (fr k hq)
      replace f3 := (hk 3 (by decide)).trans f3
      replace f4 := (hk 4 (by decide)).trans f4
      clear f106 f112
      have f113 := hv
      clear hk hv hz hf
      refine p_val (v := .bool false) rfl rfl (by simp only [execOp, ev_con, ev_of f113]; simp [go_sem]) (by rw [fz]; decide) ?_
      intro b18 hk hv hz hf
      replace fz := hz.trans fz
      replace fd := hf.trans fd
      replace fr := fun k hq => (hk k (by omega)).trans (fr k hq)
      replace f3 := (hk 3 (by decide)).trans f3
      replace f4 := (hk 4 (by decide)).trans f4
      clear f113
      have f114 := hv
      clear hk hv hz hf
      refine p_not ((wt_of rfl (by kernel_rfl) _ f114).trans rfl) rfl (by rw [fz]; decide) ?_
      intro b19 hk hv hz hf
      replace fz := hz.trans fz
      replace fd := hf.trans fd
      replace fr := fun k hq => (hk k (by omega)).trans (fr k hq)
      replace f3 := (hk 3 (by decide)).trans f3
      replace f114 := (hk 114 (by decide)).trans f114
      clear f4
      have f115 := hv
      clear hk hv hz hf
      refine p_not ((wt_of rfl (by kernel_rfl) _ f114).trans rfl) rfl (by rw [fz]; decide) ?_
      intro b20 hk hv hz hf
      replace fz := hz.trans fz
      replace fd := hf.trans fd
      replace fr := fun k hq => (hk k (by omega)).trans (fr k hq)
      replace f3 := (hk 3 (by decide)).trans f3
      replace f114 := (hk 114 (by decide)).trans f114
      clear f115
      have f116 := hv
      clear hk hv hz hf
      refine p_not ((wt_of rfl (by kernel_rfl) _ f114).trans rfl) rfl (by rw [fz]; decide) ?_
      intro b21 hk hv hz hf
      replace fz := hz.trans fz
      replace fd := hf.trans fd
      replace fr := fun k hq => (hk k (by omega)).trans (fr k hq)
      replace f114 := (hk 114 (by decide)).trans f114
      replace f116 := (hk 116 (by decide)).trans f116
      clear f3
      have f117 := hv
      clear hk hv hz hf
      refine p_not ((wt_of rfl (by kernel_rfl) _ f114).trans rfl) rfl (by rw [fz]; decide) ?_
      intro b22 hk hv hz hf
      replace fz := hz.trans fz
      replace fd := hf.trans fd
      replace fr := fun k hq => (hk k (by omega)).trans (fr k hq)
      replace f114 := (hk 114 (by decide)).trans f114
      clear f116 f117
      have f118 := hv
      clear hk hv hz hf
      refine p_val (v := .bool false) rfl rfl (by simp only [execOp, ev_con, ev_of f114, ev_of f118]; simp [go_sem]) (by rw [fz]; decide) ?_
      intro b23 hk hv hz hf
      replace fz := hz.trans fz
      replace fd := hf.trans fd
      replace fr := fun k hq => (hk k (by omega)).trans (fr k hq)
      clear f114 f118
      have f119 := hv
      clear hk hv hz hf
      have hL : Lay a0 b23 97 23 := ⟨fz.trans (by rw [ha0]; rfl), fd.trans (by rw [ha0]), fun k hq => fr k (by omega)⟩
      have ef := hL.whole (N := 188) ha0 rfl (by decide)
      have e9 : b23.tmps.getD (97 + 22) undef = .bool false := by simp [f119]
      go_step
      rename_i HJ HK
      rw [ef]
      refine HK _ _ (Met.intro (HJ _ _ ?_))
      (repeat apply Exists.intro)
      refine ⟨?rel, rfl⟩
      case rel => exact ⟨e9, HT.out⟩
    case rest =>
    obtain ⟨rfl, HX⟩ := hcut
    rename World => y6
    clear HT
    have HT := HX
    clear HX
    rename World => y7
    have hM := HMM.out _ HT.out.2
    repeat' (first | go_values | go_skip | go_guarded | go_step | go_upon | (simp only [Int.not_lt, Int.not_le] at *; go_simp))
    refine (H4.out _ hM.below).mono ?_
    rintro e y8 ⟨rfl, hb⟩
    replace hM := hM.call hb
    have HT8 : Hid (Txs y8 U (.slice (some ⟨g, 0, none⟩) n0 cp) (l0) ∧ Below U u y8) := ⟨HT.out.1.below hb, HT.out.2.trans (hb.mono (Nat.le_trans (txs_block HT.out.1).1 (Nat.le_of_lt (txs_block HT.out.1).2)))⟩
    clear hb HT H4
    repeat' (first | (go_big_may; first | (refine v_build rfl rfl (bld_ry (p : Int) K2) ?hbv ?_; (case hbv => simp [Act.eval, Act.put]))) | go_values | go_skip | go_guarded | go_step | go_upon | (simp only [Int.not_lt, Int.not_le] at *; go_simp))
    refine (H5.out _).mono ?_
    rintro e y9 ⟨rfl, hb⟩
    replace hM := hM.call hb
    have hT := txp HT8.out.1
    replace hT := hT.call hb
    have hR := rtp (HRR.out _ HT8.out.2)
    replace hR := hR.call hb
    clear hb H5 HT8 HRR HMM
    repeat' (first | (go_big_may; first | (refine v_load rfl rfl row_disk rfl hM.at1 (Nat.le_refl _) (cut_all rfl) ?_)) | go_values | go_skip | go_guarded | go_step | go_upon | (simp only [Int.not_lt, Int.not_le] at *; go_simp))
    refine (H6.out _ _ hR.out).mono ?_
    rintro e y10 ⟨ka, kc, rfl, hb⟩
    replace hM := hM.call hb
    replace hT := hT.call hb
    replace hR := hR.call hb
    clear hb H6
    repeat' (first | (go_big_may; first | (refine v_alloc rfl zer_disk rfl ?_; intro u zk hN; replace hR := hR.call hN.below; replace hT := hT.call hN.below; replace hM := hM.new hN; clear hN) | (refine v_fill rfl rfl row_disk rfl rfl hM.at0 (dkl_vs (v := .slice ka n2 kc) S2 rfl) rfl ?_; intro u hv hc; replace hR := rtp (rtz_chg hR.out hM.at0 (fun x q => by cases q) hc); replace hT := txp (txs_chg hT.out hM.at0 (by decide) hc); replace hM := hM.put0 hc hv; clear hv hc) | (refine v_get rfl rfl (by first | exact lod_int | exact lod_str | exact lod_fcs | exact lod_err | exact lod_bool | exact lod_txs) rfl hM.at2 rfl ?_)) | go_values | go_skip | go_guarded | go_step | go_upon | (simp only [Int.not_lt, Int.not_le] at *; go_simp))
    refine (H7.out _ _ _ hR.out (by rw [hNe]; exact hT.out.rts)).mono ?_
    rintro e y11 ⟨rfl, hb⟩
    replace hM := hM.call hb
    clear hb H7 hR hT
    dsimp only
    go_step
    try simp only [List.append_eq, List.cons_append, List.nil_append]
    refine wpl_abs fun a0 ha0 => ?_
    have fz : a0.tmps.size = 188 := by rw [ha0]; rfl
    have fd : a0.defers = [] := by rw [ha0]
    have f2 : a0.tmps[2]? = some (.int .i64 (n : Int)) := by rw [ha0]; rfl
    have f3 : a0.tmps[3]? = some (.int .i64 a3) := by rw [ha0]; rfl
    have f4 : a0.tmps[4]? = some (.string t) := by rw [ha0]; rfl
    have f17 : a0.tmps[17]? = some (.pointer (some ⟨zs, 0, none⟩)) := by rw [ha0]; rfl
    have f24 : a0.tmps[24]? = some (.string A2) := by rw [ha0]; rfl
    have f164 : a0.tmps[164]? = some (.bool true) := by rw [ha0]; rfl
    clear ha0
    refine p_val (v := .bool true) rfl rfl (by simp only [execOp, ev_con, ev_of f164]; simp [go_sem]) (by rw [fz]; decide) ?_
    intro d1 hk hv hz hf
    replace fz := hz.trans fz
    replace fd := hf.trans fd
    replace f2 := (hk 2 (by decide)).trans f2
    replace f3 := (hk 3 (by decide)).trans f3
    replace f4 := (hk 4 (by decide)).trans f4
    replace f17 := (hk 17 (by decide)).trans f17
    replace f24 := (hk 24 (by decide)).trans f24
    clear f164
    have f165 := hv
    clear hk hv hz hf
    refine p_val (v := .pointer (some ⟨zs, 2, none⟩)) ((wt_of rfl (by kernel_rfl) _ f165).trans rfl) rfl (x_fld (r := 2) rfl f17 (fun w => by kernel_rfl)) (by rw [fz]; decide) ?_
    intro d2 hk hv hz hf
    replace fz := hz.trans fz
    replace fd := hf.trans fd
    replace f2 := (hk 2 (by decide)).trans f2
    replace f3 := (hk 3 (by decide)).trans f3
    replace f4 := (hk 4 (by decide)).trans f4
    replace f24 := (hk 24 (by decide)).trans f24
    replace f165 := (hk 165 (by decide)).trans f165
    clear f17
    have f166 := hv
    clear hk hv hz hf
    refine p_val (v := .int .i64 code) ((wt_of rfl (by kernel_rfl) _ f165).trans rfl) rfl (p_get (v := .int .i64 code) rfl f166 hM.at1 rfl) (by rw [fz]; decide) ?_
    intro d3 hk hv hz hf
    replace fz := hz.trans fz
    replace fd := hf.trans fd
    replace f2 := (hk 2 (by decide)).trans f2
    replace f3 := (hk 3 (by decide)).trans f3
    replace f4 := (hk 4 (by decide)).trans f4
    replace f24 := (hk 24 (by decide)).trans f24
    replace f165 := (hk 165 (by decide)).trans f165
    clear f166
    have f167 := hv
    clear hk hv hz hf
    refine p_val (v := .bool true) ((wt_of rfl (by kernel_rfl) _ f165).trans rfl) rfl (by simp only [execOp, ev_con, ev_of f167]; simp [go_sem, hz]) (by rw [fz]; decide) ?_
    intro d4 hk hv hz hf
    replace fz := hz.trans fz
    replace fd := hf.trans fd
    replace f2 := (hk 2 (by decide)).trans f2
    replace f3 := (hk 3 (by decide)).trans f3
    replace f4 := (hk 4 (by decide)).trans f4
    replace f24 := (hk 24 (by decide)).trans f24
    replace f165 := (hk 165 (by decide)).trans f165
    clear f167
    have f168 := hv
    clear hk hv hz hf
    refine p_val (v := .bool true) ((wt_of rfl (by kernel_rfl) _ f165).trans rfl) rfl (by simp only [execOp, ev_con, ev_of f168]; simp [go_sem]) (by rw [fz]; decide) ?_
    intro d5 hk hv hz hf
    replace fz := hz.trans fz
    replace fd := hf.trans fd
    replace f2 := (hk 2 (by decide)).trans f2
    replace f3 := (hk 3 (by decide)).trans f3
    replace f4 := (hk 4 (by decide)).trans f4
    replace f24 := (hk 24 (by decide)).trans f24
    replace f165 := (hk 165 (by decide)).trans f165
    clear f168
    have f169 := hv
    clear hk hv hz hf
    refine p_not ((wt_of rfl (by kernel_rfl) _ f169).trans rfl) rfl (by rw [fz]; decide) ?_
    intro d6 hk hv hz hf
    replace fz := hz.trans fz
    replace fd := hf.trans fd
    replace f2 := (hk 2 (by decide)).trans f2
    replace f3 := (hk 3 (by decide)).trans f3
    replace f4 := (hk 4 (by decide)).trans f4
    replace f24 := (hk 24 (by decide)).trans f24
    replace f165 := (hk 165 (by decide)).trans f165
    replace f169 := (hk 169 (by decide)).trans f169
    have f170 := hv
    clear hk hv hz hf
    refine p_not ((wt_of rfl (by kernel_rfl) _ f169).trans rfl) rfl (by rw [fz]; decide) ?_
    intro d7 hk hv hz hf
    replace fz := hz.trans fz
    replace fd := hf.trans fd
    replace f2 := (hk 2 (by decide)).trans f2
    replace f3 := (hk 3 (by decide)).trans f3
    replace f4 := (hk 4 (by decide)).trans f4
    replace f24 := (hk 24 (by decide)).trans f24
    replace f165 := (hk 165 (by decide)).trans f165
    replace f169 := (hk 169 (by decide)).trans f169
    clear f170
    have f171 := hv
    clear hk hv hz hf
    refine p_val (v := .bool true) ((wt_of rfl (by kernel_rfl) _ f165).trans rfl) rfl (by simp only [execOp, ev_con, ev_of f169, ev_of f171]; simp [go_sem]) (by rw [fz]; decide) ?_
    intro d8 hk hv hz hf
    replace fz := hz.trans fz
    replace fd := hf.trans fd
    replace f2 := (hk 2 (by decide)).trans f2
    replace f3 := (hk 3 (by decide)).trans f3
    replace f4 := (hk 4 (by decide)).trans f4
    replace f24 := (hk 24 (by decide)).trans f24
    replace f165 := (hk 165 (by decide)).trans f165
    clear f169 f171
    have f172 := hv
    clear hk hv hz hf
    refine p_val (v := .bool true) ((wt_of rfl (by kernel_rfl) _ f165).trans rfl) rfl (by simp only [execOp, ev_con, ev_of f172]; simp [go_sem]) (by rw [fz]; decide) ?_
    intro d9 hk hv hz hf
    replace fz := hz.trans fz
    replace fd := hf.trans fd
    replace f2 := (hk 2 (by decide)).trans f2
    replace f3 := (hk 3 (by decide)).trans f3
    replace f4 := (hk 4 (by decide)).trans f4
    replace f24 := (hk 24 (by decide)).trans f24
    replace f165 := (hk 165 (by decide)).trans f165
    clear f172
    have f173 := hv
    clear hk hv hz hf
    refine p_not ((wt_of rfl (by kernel_rfl) _ f173).trans rfl) rfl (by rw [fz]; decide) ?_
    intro d10 hk hv hz hf
    replace fz := hz.trans fz
    replace fd := hf.trans fd
    replace f2 := (hk 2 (by decide)).trans f2
    replace f4 := (hk 4 (by decide)).trans f4
    replace f24 := (hk 24 (by decide)).trans f24
    replace f165 := (hk 165 (by decide)).trans f165
    replace f173 := (hk 173 (by decide)).trans f173
    clear f3
    have f174 := hv
    clear hk hv hz hf
    refine p_not ((wt_of rfl (by kernel_rfl) _ f173).trans rfl) rfl (by rw [fz]; decide) ?_
    intro d11 hk hv hz hf
    replace fz := hz.trans fz
    replace fd := hf.trans fd
    replace f2 := (hk 2 (by decide)).trans f2
    replace f4 := (hk 4 (by decide)).trans f4
    replace f24 := (hk 24 (by decide)).trans f24
    replace f165 := (hk 165 (by decide)).trans f165
    replace f173 := (hk 173 (by decide)).trans f173
    replace f174 := (hk 174 (by decide)).trans f174
    have f175 := hv
    clear hk hv hz hf
    refine p_not ((wt_of rfl (by kernel_rfl) _ f173).trans rfl) rfl (by rw [fz]; decide) ?_
    intro d12 hk hv hz hf
    replace fz := hz.trans fz
    replace fd := hf.trans fd
    replace f2 := (hk 2 (by decide)).trans f2
    replace f4 := (hk 4 (by decide)).trans f4
    replace f24 := (hk 24 (by decide)).trans f24
    replace f165 := (hk 165 (by decide)).trans f165
    replace f173 := (hk 173 (by decide)).trans f173
    replace f174 := (hk 174 (by decide)).trans f174
    clear f175
    have f176 := hv
    clear hk hv hz hf
    refine p_not ((wt_of rfl (by kernel_rfl) _ f173).trans rfl) rfl (by rw [fz]; decide) ?_
    intro d13 hk hv hz hf
    replace fz := hz.trans fz
    replace fd := hf.trans fd
    replace f2 := (hk 2 (by decide)).trans f2
    replace f4 := (hk 4 (by decide)).trans f4
    replace f24 := (hk 24 (by decide)).trans f24
    replace f165 := (hk 165 (by decide)).trans f165
    replace f173 := (hk 173 (by decide)).trans f173
    clear f174 f176
    have f177 := hv
    clear hk hv hz hf
    refine p_val (v := .bool true) ((wt_of rfl (by kernel_rfl) _ f165).trans rfl) rfl (by simp only [execOp, ev_con, ev_of f173, ev_of f177]; simp [go_sem]) (by rw [fz]; decide) ?_
    intro d14 hk hv hz hf
    replace fz := hz.trans fz
    replace fd := hf.trans fd
    replace f2 := (hk 2 (by decide)).trans f2
    replace f4 := (hk 4 (by decide)).trans f4
    replace f24 := (hk 24 (by decide)).trans f24
    replace f165 := (hk 165 (by decide)).trans f165
    clear f173 f177
    have f178 := hv
    clear hk hv hz hf
    refine p_val (v := .bool true) ((wt_of rfl (by kernel_rfl) _ f165).trans rfl) rfl (by simp only [execOp, ev_con, ev_of f178]; simp [go_sem]) (by rw [fz]; decide) ?_
    intro d15 hk hv hz hf
    replace fz := hz.trans fz
    replace fd := hf.trans fd
    replace f2 := (hk 2 (by decide)).trans f2
    replace f4 := (hk 4 (by decide)).trans f4
    replace f24 := (hk 24 (by decide)).trans f24
    replace f165 := (hk 165 (by decide)).trans f165
    clear f178
    have f179 := hv
    clear hk hv hz hf
    refine p_not ((wt_of rfl (by kernel_rfl) _ f179).trans rfl) rfl (by rw [fz]; decide) ?_
    intro d16 hk hv hz hf
    replace fz := hz.trans fz
    replace fd := hf.trans fd
    replace f2 := (hk 2 (by decide)).trans f2
    replace f4 := (hk 4 (by decide)).trans f4
    replace f165 := (hk 165 (by decide)).trans f165
    replace f179 := (hk 179 (by decide)).trans f179
    clear f24
    have f180 := hv
    clear hk hv hz hf
    refine p_not ((wt_of rfl (by kernel_rfl) _ f179).trans rfl) rfl (by rw [fz]; decide) ?_
    intro d17 hk hv hz hf
    replace fz := hz.trans fz
    replace fd := hf.trans fd
    replace f2 := (hk 2 (by decide)).trans f2
    replace f165 := (hk 165 (by decide)).trans f165
    replace f179 := (hk 179 (by decide)).trans f179
    replace f180 := (hk 180 (by decide)).trans f180
    clear f4
    have f181 := hv
    clear hk hv hz hf
    refine p_not ((wt_of rfl (by kernel_rfl) _ f179).trans rfl) rfl (by rw [fz]; decide) ?_
    intro d18 hk hv hz hf
    replace fz := hz.trans fz
    replace fd := hf.trans fd
    replace f165 := (hk 165 (by decide)).trans f165
    replace f179 := (hk 179 (by decide)).trans f179
    replace f180 := (hk 180 (by decide)).trans f180
    replace f181 := (hk 181 (by decide)).trans f181
    clear f2
    have f182 := hv
    clear hk hv hz hf
    refine p_not ((wt_of rfl (by kernel_rfl) _ f179).trans rfl) rfl (by rw [fz]; decide) ?_
    intro d19 hk hv hz hf
    replace fz := hz.trans fz
    replace fd := hf.trans fd
    replace f165 := (hk 165 (by decide)).trans f165
    replace f179 := (hk 179 (by decide)).trans f179
    replace f180 := (hk 180 (by decide)).trans f180
    replace f181 := (hk 181 (by decide)).trans f181
    clear f182
    have f183 := hv
    clear hk hv hz hf
    refine p_not ((wt_of rfl (by kernel_rfl) _ f179).trans rfl) rfl (by rw [fz]; decide) ?_
    intro d20 hk hv hz hf
    replace fz := hz.trans fz
    replace fd := hf.trans fd
    replace f165 := (hk 165 (by decide)).trans f165
    replace f179 := (hk 179 (by decide)).trans f179
    replace f180 := (hk 180 (by decide)).trans f180
    clear f181 f183
    have f184 := hv
    clear hk hv hz hf
    refine p_not ((wt_of rfl (by kernel_rfl) _ f179).trans rfl) rfl (by rw [fz]; decide) ?_
    intro d21 hk hv hz hf
    replace fz := hz.trans fz
    replace fd := hf.trans fd
    replace f165 := (hk 165 (by decide)).trans f165
    replace f179 := (hk 179 (by decide)).trans f179
    clear f180 f184
    have f185 := hv
    clear hk hv hz hf
    refine p_val (v := .bool true) ((wt_of rfl (by kernel_rfl) _ f165).trans rfl) rfl (by simp only [execOp, ev_con, ev_of f179, ev_of f185]; simp [go_sem]) (by rw [fz]; decide) ?_
    intro d22 hk hv hz hf
    replace fz := hz.trans fz
    replace fd := hf.trans fd
    replace f165 := (hk 165 (by decide)).trans f165
    clear f179 f185
    have f186 := hv
    clear hk hv hz hf
    refine p_val (v := .bool true) rfl rfl (by simp only [execOp, ev_con, ev_of f165, ev_of f186]; simp [go_sem]) (by rw [fz]; decide) ?_
    intro d23 hk hv hz hf
    replace fz := hz.trans fz
    replace fd := hf.trans fd
    clear f165 f186
    have f187 := hv
    clear hk hv hz hf
    refine p_val (v := .bool true) rfl rfl (by simp only [execOp, ev_con, ev_of f187]; simp [go_sem]) (by rw [fz]; decide) ?_
    intro d24 hk hv hz hf
    replace fz := hz.trans fz
    replace fd := hf.trans fd
    clear f187
    have f10 := hv
    clear hk hv hz hf
    go_step
    go_step
    go_step
    go_step
    exact bodyPost_ret (ret_t rfl f10) fd ⟨rfl, hM.below⟩
  have hz : code = 0 := Classical.not_not.1 hz
  subst hz
  by_cases hn : 0 < n
  · obtain ⟨j1, j2, j3, j4⟩ := g4 ⟨rfl, by omega⟩
    have j1 : (p : Int) ≤ a3 := by omega
    have j2 : I + n ≤ l0.length := by have : (I : Int).toNat + (n : Int).toNat ≤ l0.length := j2; omega
    have hNe : N = wrB l0 I n t := j4
    have hI := hIn (by omega) rfl
    have hn1 : ((n : Int) == 0) = false := by simp; omega
    have hn2 : n ≠ 0 := by omega
    have jm : IntKind.i64.wrap (16 * (n : Int)) = (p : Int) := by rw [c16, IntKind.wrap_i64]; omega
    have jw : IntKind.i64.wrap ((I : Int) + (n : Int)) = (I : Int) + (n : Int) := by rw [IntKind.wrap_i64]; omega
    have j2i : (I : Int) + (n : Int) ≤ (l0.length : Int) := by omega
    have hsl2 : ∀ W, (Instr.slice 9 (.string t) none (some (.int .i64 (p : Int))) none).run Tryd.prog W = .ok (.string A2) W := fun W => by
      rw [hI, run_slice_string_to_if (t := 9) (s := t) (k := .i64) (j := (p : Int)) (h := Tryd.underlying9), if_pos (by omega)]
      rw [show 16 * ((n : Int)).toNat = p by omega]
      rfl
    clear g4 g5 hIn hI
    generalize hn0 : l0.length = n0 at *
    go_enter Tryd.func3, Tryd.ntmps3
    repeat' (first | (go_big_may; first | (refine v_box rfl rfl rfl ?_; intro u zd hN; replace hM := Mm.new (L := []) hM hN; clear hN)) | go_values | go_skip | go_guarded | go_step | go_upon | (simp only [Int.not_lt, Int.not_le] at *; go_simp))
    refine (HL.out _).mono ?_
    rintro e y ⟨rfl, hb⟩
    replace hM := hM.call hb
    clear hb
    repeat' (first | (go_big_may; first | (refine v_get rfl rfl (by first | exact lod_int | exact lod_str | exact lod_fcs | exact lod_err | exact lod_bool | exact lod_txs) rfl hM.at0 rfl ?_) | (refine v_bsn rfl rfl (bs_ten (I : Int) (n : Int)) ?hbv ?_; (case hbv => simp [Act.eval, Act.put]); intro u zb hN; replace hM := hM.new hN; clear hN) | (refine v_cnv rfl rfl rfl hM.at0 rfl ?_; rw [h10]) | (refine v_build rfl rfl (bld_wy a3 K) ?hbv ?_; (case hbv => simp [Act.eval, Act.put]))) | go_values | go_skip | go_guarded | go_step | go_upon | (simp only [Int.not_lt, Int.not_le] at *; go_simp))
    refine (H1.out _).mono ?_
    rintro e y ⟨rfl, hb⟩
    replace hM := hM.call hb
    clear hb H1
    repeat' (first | (go_big_may; first | (refine v_load rfl rfl row_disk rfl hM.at1 (Nat.le_refl _) (cut_all rfl) ?_)) | go_values | go_skip | go_guarded | go_step | go_upon | (simp only [Int.not_lt, Int.not_le] at *; go_simp))
    refine (H2.out _ (hC0.call hM.below).out).mono ?_
    rintro e y3 ⟨ya, yc, rfl, hr, hb⟩
    replace hM := hM.call hb
    have hR := rtp hr
    clear hb hr H2
    repeat' (first | (go_big_may; first | (refine v_alloc rfl zer_disk rfl ?_; intro u za hN; replace hR := hR.call hN.below; replace hM := hM.new hN; clear hN) | (refine v_fill rfl rfl row_disk rfl rfl hM.at0 (dkl_vs (v := .slice ya n0 yc) S rfl) rfl ?_; intro u hv hc; replace hR := rtp (rtz_chg hR.out hM.at0 (fun x q => by cases q) hc); replace hM := hM.put0 hc hv; clear hv hc)) | go_values | go_skip | go_guarded | go_step | go_upon | (simp only [Int.not_lt, Int.not_le] at *; go_simp))
    refine (H3.out _).mono ?_
    rintro e y ⟨rfl, hb⟩
    replace hM := hM.call hb
    replace hR := hR.call hb
    clear hb H3
    repeat' (first | (go_big_may; first | (refine v_alloc rfl zer_status rfl ?_; intro u zs hN; replace hR := hR.call hN.below; replace hM := hM.new hN; clear hN) | (refine v_fill rfl rfl row_status rfl rfl hM.at0 (spl_vs ⟨ztag, res, 0⟩) rfl ?_; intro u hv hc; replace hR := rtp (rtz_box hR.out hM.at0 (spl_ns _) hc); replace hM := hM.put0 hc hv; clear hv hc) | (refine v_get rfl rfl (by first | exact lod_int | exact lod_str | exact lod_fcs | exact lod_err | exact lod_bool | exact lod_txs) rfl hM.at3 rfl ?_) | (at_builtin; refine Stop.out ?_)) | go_values | go_skip | go_guarded | go_step | go_upon | (simp only [Int.not_lt, Int.not_le] at *; go_simp))
    refine ⟨?_⟩
    obtain ⟨U, hU⟩ : ∃ U, u.heap.size = U := ⟨_, rfl⟩
    have HUW : Hid (w.heap.size ≤ U) := by rw [← hU]; exact hM.below.size
    have HMM : Hid (∀ W, Below U u W → Mm w W [(zs, 36, spl ⟨ztag, res, 0⟩), (za, 24, dkl (.slice ya n0 yc) S), (zb, 5, (ten (I : Int) (n : Int)).map (Value.int .u8)), (zd, 24, dkl (.slice xa n0 xc) s0)]) := fun W h => hM.call (by rw [hU]; exact h)
    have HRR : Hid (∀ W, Below U u W → Rts W (.slice ya n0 yc) N) := fun W h => (hR.call (by rw [hU]; exact h)).out
    refine wpList_txt _ rfl _ _ rfl U _ [] rfl (Txs.nil _ _) _ l0 rfl (hC0.call hM.below).out (by simp; omega) (Nat.le_of_eq hU.symm) ?_
    intro v1 y5 q1 q2
    rw [List.nil_append] at q1
    obtain ⟨g, cp, rfl⟩ := txs_some q1 (by omega)
    have HT : Hid (Txs y5 U (.slice (some ⟨g, 0, none⟩) n0 cp) l0 ∧ Below U u y5) := ⟨by rw [hn0] at q1; exact q1, q2⟩
    rw [hn0]
    clear q1 q2 hM hR hC0 hU
    go_upto_region 12 with (fail)
    go_cut [119] from 97 to 119 (fun cv wx => cv = .bool true ∧ Hid (Txs wx U (.slice (some ⟨g, 0, none⟩) n0 cp) l0 ∧ Below U u wx))
    case first =>
      have hM := HMM.out _ HT.out.2
      go_step
      try simp only [List.append_eq, List.cons_append, List.nil_append]
      refine wpl_abs fun a0 ha0 => ?_
      have fz : a0.tmps.size = 188 := by rw [ha0]; rfl
      have fd : a0.defers = [] := by rw [ha0]
      have fr : ∀ k, (k < 97 ∨ 120 ≤ k) → a0.tmps[k]? = a0.tmps[k]? := fun _ _ => rfl
      have f1 : a0.tmps[1]? = some (.int .i64 (I : Int)) := by rw [ha0]; rfl
      have f2 : a0.tmps[2]? = some (.int .i64 (n : Int)) := by rw [ha0]; rfl
      have f3 : a0.tmps[3]? = some (.int .i64 a3) := by rw [ha0]; rfl
      have f4 : a0.tmps[4]? = some (.string t) := by rw [ha0]; rfl
      have f17 : a0.tmps[17]? = some (.pointer (some ⟨zs, 0, none⟩)) := by rw [ha0]; rfl
      have f19 : a0.tmps[19]? = some (.slice (some ⟨g, 0, none⟩) n0 cp) := by rw [ha0]; rfl
      refine p_val (v := .pointer (some ⟨zs, 2, none⟩)) rfl rfl (x_fld (r := 2) rfl f17 (fun w => by kernel_rfl)) (by rw [fz]; decide) ?_
      intro b1 hk hv hz hf
      replace fz := hz.trans fz
      replace fd := hf.trans fd
      replace fr := fun k hq => (hk k (by omega)).trans (fr k hq)
      replace f1 := (hk 1 (by decide)).trans f1
      replace f2 := (hk 2 (by decide)).trans f2
      replace f3 := (hk 3 (by decide)).trans f3
      replace f4 := (hk 4 (by decide)).trans f4
      replace f19 := (hk 19 (by decide)).trans f19
      clear f17
      have f97 := hv
      clear hk hv hz hf
      refine p_val (v := .int .i64 0) rfl rfl (p_get (v := .int .i64 0) rfl f97 hM.at0 rfl) (by rw [fz]; decide) ?_
      intro b2 hk hv hz hf
      replace fz := hz.trans fz
      replace fd := hf.trans fd
      replace fr := fun k hq => (hk k (by omega)).trans (fr k hq)
      replace f1 := (hk 1 (by decide)).trans f1
      replace f2 := (hk 2 (by decide)).trans f2
      replace f3 := (hk 3 (by decide)).trans f3
      replace f4 := (hk 4 (by decide)).trans f4
      replace f19 := (hk 19 (by decide)).trans f19
      clear f97
      have f98 := hv
      clear hk hv hz hf
      refine p_val (v := .bool true) rfl rfl (by simp only [execOp, ev_con, ev_of f98]; simp [go_sem]) (by rw [fz]; decide) ?_
      intro b3 hk hv hz hf
      replace fz := hz.trans fz
      replace fd := hf.trans fd
      replace fr := fun k hq => (hk k (by omega)).trans (fr k hq)
      replace f1 := (hk 1 (by decide)).trans f1
      replace f2 := (hk 2 (by decide)).trans f2
      replace f3 := (hk 3 (by decide)).trans f3
      replace f4 := (hk 4 (by decide)).trans f4
      replace f19 := (hk 19 (by decide)).trans f19
      clear f98
      have f99 := hv
      clear hk hv hz hf
      refine p_val (v := .bool true) rfl rfl (by simp only [execOp, ev_con, ev_of f99]; simp [go_sem]) (by rw [fz]; decide) ?_
      intro b4 hk hv hz hf
      replace fz := hz.trans fz
      replace fd := hf.trans fd
      replace fr := fun k hq => (hk k (by omega)).trans (fr k hq)
      replace f1 := (hk 1 (by decide)).trans f1
      replace f2 := (hk 2 (by decide)).trans f2
      replace f3 := (hk 3 (by decide)).trans f3
      replace f4 := (hk 4 (by decide)).trans f4
      replace f19 := (hk 19 (by decide)).trans f19
      clear f99
      have f100 := hv
      clear hk hv hz hf
      refine p_val (v := .int .i64 a3) ((wt_of rfl (by kernel_rfl) _ f100).trans rfl) rfl (by simp only [execOp, ev_con, ev_of f3]; simp [go_sem]) (by rw [fz]; decide) ?_
      intro b5 hk hv hz hf
      replace fz := hz.trans fz
      replace fd := hf.trans fd
      replace fr := fun k hq => (hk k (by omega)).trans (fr k hq)
      replace f1 := (hk 1 (by decide)).trans f1
      replace f2 := (hk 2 (by decide)).trans f2
      replace f3 := (hk 3 (by decide)).trans f3
      replace f4 := (hk 4 (by decide)).trans f4
      replace f19 := (hk 19 (by decide)).trans f19
      replace f100 := (hk 100 (by decide)).trans f100
      have f101 := hv
      clear hk hv hz hf
      refine p_val (v := .int .i64 (n : Int)) ((wt_of rfl (by kernel_rfl) _ f100).trans rfl) rfl (by simp only [execOp, ev_con, ev_of f2]; simp [go_sem]) (by rw [fz]; decide) ?_
      intro b6 hk hv hz hf
      replace fz := hz.trans fz
      replace fd := hf.trans fd
      replace fr := fun k hq => (hk k (by omega)).trans (fr k hq)
      replace f1 := (hk 1 (by decide)).trans f1
      replace f2 := (hk 2 (by decide)).trans f2
      replace f3 := (hk 3 (by decide)).trans f3
      replace f4 := (hk 4 (by decide)).trans f4
      replace f19 := (hk 19 (by decide)).trans f19
      replace f100 := (hk 100 (by decide)).trans f100
      replace f101 := (hk 101 (by decide)).trans f101
      have f102 := hv
      clear hk hv hz hf
      refine p_val (v := .int .i64 (p : Int)) ((wt_of rfl (by kernel_rfl) _ f100).trans rfl) rfl (by simp only [execOp, ev_con, ev_of f102]; simp [go_sem, jm]) (by rw [fz]; decide) ?_
      intro b7 hk hv hz hf
      replace fz := hz.trans fz
      replace fd := hf.trans fd
      replace fr := fun k hq => (hk k (by omega)).trans (fr k hq)
      replace f1 := (hk 1 (by decide)).trans f1
      replace f2 := (hk 2 (by decide)).trans f2
      replace f3 := (hk 3 (by decide)).trans f3
      replace f4 := (hk 4 (by decide)).trans f4
      replace f19 := (hk 19 (by decide)).trans f19
      replace f100 := (hk 100 (by decide)).trans f100
      replace f101 := (hk 101 (by decide)).trans f101
      clear f102
      have f103 := hv
      clear hk hv hz hf
      refine p_val (v := .bool true) ((wt_of rfl (by kernel_rfl) _ f100).trans rfl) rfl (by simp only [execOp, ev_con, ev_of f101, ev_of f103]; simp [go_sem, j1]) (by rw [fz]; decide) ?_
      intro b8 hk hv hz hf
      replace fz := hz.trans fz
      replace fd := hf.trans fd
      replace fr := fun k hq => (hk k (by omega)).trans (fr k hq)
      replace f1 := (hk 1 (by decide)).trans f1
      replace f2 := (hk 2 (by decide)).trans f2
      replace f3 := (hk 3 (by decide)).trans f3
      replace f4 := (hk 4 (by decide)).trans f4
      replace f19 := (hk 19 (by decide)).trans f19
      replace f100 := (hk 100 (by decide)).trans f100
      clear f101 f103
      have f104 := hv
      clear hk hv hz hf
      refine p_val (v := .bool true) rfl rfl (by simp only [execOp, ev_con, ev_of f100, ev_of f104]; simp [go_sem]) (by rw [fz]; decide) ?_
      intro b9 hk hv hz hf
      replace fz := hz.trans fz
      replace fd := hf.trans fd
      replace fr := fun k hq => (hk k (by omega)).trans (fr k hq)
      replace f1 := (hk 1 (by decide)).trans f1
      replace f2 := (hk 2 (by decide)).trans f2
      replace f3 := (hk 3 (by decide)).trans f3
      replace f4 := (hk 4 (by decide)).trans f4
      replace f19 := (hk 19 (by decide)).trans f19
      clear f100 f104
      have f105 := hv
      clear hk hv hz hf
      refine p_val (v := .bool true) rfl rfl (by simp only [execOp, ev_con, ev_of f105]; simp [go_sem]) (by rw [fz]; decide) ?_
      intro b10 hk hv hz hf
      replace fz := hz.trans fz
      replace fd := hf.trans fd
      replace fr := fun k hq => (hk k (by omega)).trans (fr k hq)
      replace f1 := (hk 1 (by decide)).trans f1
      replace f2 := (hk 2 (by decide)).trans f2
      replace f3 := (hk 3 (by decide)).trans f3
      replace f4 := (hk 4 (by decide)).trans f4
      replace f19 := (hk 19 (by decide)).trans f19
      clear f105
      have f106 := hv
      clear hk hv hz hf
      refine p_val (v := .int .i64 (I : Int)) ((wt_of rfl (by kernel_rfl) _ f106).trans rfl) rfl (by simp only [execOp, ev_con, ev_of f1]; simp [go_sem]) (by rw [fz]; decide) ?_
      intro b11 hk hv hz hf
      replace fz := hz.trans fz
      replace fd := hf.trans fd
      replace fr := fun k hq => (hk k (by omega)).trans (fr k hq)
      replace f2 := (hk 2 (by decide)).trans f2
      replace f3 := (hk 3 (by decide)).trans f3
      replace f4 := (hk 4 (by decide)).trans f4
      replace f19 := (hk 19 (by decide)).trans f19
      replace f106 := (hk 106 (by decide)).trans f106
      clear f1
      have f107 := hv
      clear hk hv hz hf
      refine p_val (v := .int .i64 (n : Int)) ((wt_of rfl (by kernel_rfl) _ f106).trans rfl) rfl (by simp only [execOp, ev_con, ev_of f2]; simp [go_sem]) (by rw [fz]; decide) ?_
      intro b12 hk hv hz hf
      replace fz := hz.trans fz
      replace fd := hf.trans fd
      replace fr := fun k hq => (hk k (by omega)).trans (fr k hq)
      replace f3 := (hk 3 (by decide)).trans f3
      replace f4 := (hk 4 (by decide)).trans f4
      replace f19 := (hk 19 (by decide)).trans f19
      replace f106 := (hk 106 (by decide)).trans f106
      replace f107 := (hk 107 (by decide)).trans f107
      clear f2
      have f108 := hv
      clear hk hv hz hf
      refine p_val (v := .int .i64 ((I : Int) + (n : Int))) ((wt_of rfl (by kernel_rfl) _ f106).trans rfl) rfl (by simp only [execOp, ev_con, ev_of f107, ev_of f108]; simp [go_sem, jw]) (by rw [fz]; decide) ?_
      intro b13 hk hv hz hf
      replace fz := hz.trans fz
      replace fd := hf.trans fd
      replace fr := fun k hq => (hk k (by omega)).trans (fr k hq)
      replace f3 := (hk 3 (by decide)).trans f3
      replace f4 := (hk 4 (by decide)).trans f4
      replace f19 := (hk 19 (by decide)).trans f19
      replace f106 := (hk 106 (by decide)).trans f106
      clear f107 f108
      have f109 := hv
      clear hk hv hz hf
      refine p_val (v := .slice (some ⟨g, 0, none⟩) n0 cp) ((wt_of rfl (by kernel_rfl) _ f106).trans rfl) rfl (by simp only [execOp, ev_con, ev_of f19]; simp [go_sem]) (by rw [fz]; decide) ?_
      intro b14 hk hv hz hf
      replace fz := hz.trans fz
      replace fd := hf.trans fd
      replace fr := fun k hq => (hk k (by omega)).trans (fr k hq)
      replace f3 := (hk 3 (by decide)).trans f3
      replace f4 := (hk 4 (by decide)).trans f4
      replace f106 := (hk 106 (by decide)).trans f106
      replace f109 := (hk 109 (by decide)).trans f109
      clear f19
      have f110 := hv
      clear hk hv hz hf
      refine p_val (v := .int .i64 (n0 : Int)) ((wt_of rfl (by kernel_rfl) _ f106).trans rfl) rfl (by simp only [execOp, ev_con, ev_of f110]; simp [go_sem, f110]) (by rw [fz]; decide) ?_
      intro b15 hk hv hz hf
      replace fz := hz.trans fz
      replace fd := hf.trans fd
      replace fr := fun k hq => (hk k (by omega)).trans (fr k hq)
      replace f3 := (hk 3 (by decide)).trans f3
      replace f4 := (hk 4 (by decide)).trans f4
      replace f106 := (hk 106 (by decide)).trans f106
      replace f109 := (hk 109 (by decide)).trans f109
      clear f110
      have f111 := hv
      clear hk hv hz hf
      refine p_val (v := .bool true) ((wt_of rfl (by kernel_rfl) _ f106).trans rfl) rfl (by simp only [execOp, ev_con, ev_of f109, ev_of f111]; simp [go_sem, j2i, j2]) (by rw [fz]; decide) ?_
      intro b16 hk hv hz hf
      replace fz := hz.trans fz
      replace fd := hf.trans fd
      replace fr := fun k hq => (hk k (by omega)).trans (fr k hq)
      replace f3 := (hk 3 (by decide)).trans f3
      replace f4 := (hk 4 (by decide)).trans f4
      replace f106 := (hk 106 (by decide)).trans f106
      clear f109 f111
      have f112 := hv
      clear hk hv hz hf
      refine p_val (v := .bool true) rfl rfl (by simp only [execOp, ev_con, ev_of f106, ev_of f112]; simp [go_sem]) (by rw [fz]; decide) ?_
      intro b17 hk hv hz hf
      replace fz := hz.trans fz
      replace fd := hf.trans fd
      replace fr := fun k hq => (hk k (by omega)).trans (fr k hq)
      replace f3 := (hk 3 (by decide)).trans f3
      replace f4 := (hk 4 (by decide)).trans f4
      clear f106 f112
      have f113 := hv
      clear hk hv hz hf
      refine p_val (v := .bool true) rfl rfl (by simp only [execOp, ev_con, ev_of f113]; simp [go_sem]) (by rw [fz]; decide) ?_
      intro b18 hk hv hz hf
      replace fz := hz.trans fz
      replace fd := hf.trans fd
      replace fr := fun k hq => (hk k (by omega)).trans (fr k hq)
      replace f3 := (hk 3 (by decide)).trans f3
      replace f4 := (hk 4 (by decide)).trans f4
      clear f113
      have f114 := hv
      clear hk hv hz hf
      refine p_val (v := .string t) ((wt_of rfl (by kernel_rfl) _ f114).trans rfl) rfl (by simp only [execOp, ev_con, ev_of f4]; simp [go_sem]) (by rw [fz]; decide) ?_
      intro b19 hk hv hz hf
      replace fz := hz.trans fz
      replace fd := hf.trans fd
      replace fr := fun k hq => (hk k (by omega)).trans (fr k hq)
      replace f3 := (hk 3 (by decide)).trans f3
      replace f114 := (hk 114 (by decide)).trans f114
      clear f4
      have f115 := hv
      clear hk hv hz hf
      refine p_val (v := .int .i64 a3) ((wt_of rfl (by kernel_rfl) _ f114).trans rfl) rfl (by simp only [execOp, ev_con, ev_of f115]; simp [go_sem, f115, j3]) (by rw [fz]; decide) ?_
      intro b20 hk hv hz hf
      replace fz := hz.trans fz
      replace fd := hf.trans fd
      replace fr := fun k hq => (hk k (by omega)).trans (fr k hq)
      replace f3 := (hk 3 (by decide)).trans f3
      replace f114 := (hk 114 (by decide)).trans f114
      clear f115
      have f116 := hv
      clear hk hv hz hf
      refine p_val (v := .int .i64 a3) ((wt_of rfl (by kernel_rfl) _ f114).trans rfl) rfl (by simp only [execOp, ev_con, ev_of f3]; simp [go_sem]) (by rw [fz]; decide) ?_
      intro b21 hk hv hz hf
      replace fz := hz.trans fz
      replace fd := hf.trans fd
      replace fr := fun k hq => (hk k (by omega)).trans (fr k hq)
      replace f114 := (hk 114 (by decide)).trans f114
      replace f116 := (hk 116 (by decide)).trans f116
      clear f3
      have f117 := hv
      clear hk hv hz hf
      refine p_val (v := .bool true) ((wt_of rfl (by kernel_rfl) _ f114).trans rfl) rfl (by simp only [execOp, ev_con, ev_of f116, ev_of f117]; simp [go_sem]) (by rw [fz]; decide) ?_
      intro b22 hk hv hz hf
      replace fz := hz.trans fz
      replace fd := hf.trans fd
      replace fr := fun k hq => (hk k (by omega)).trans (fr k hq)
      replace f114 := (hk 114 (by decide)).trans f114
      clear f116 f117
      have f118 := hv
      clear hk hv hz hf
      refine p_val (v := .bool true) rfl rfl (by simp only [execOp, ev_con, ev_of f114, ev_of f118]; simp [go_sem]) (by rw [fz]; decide) ?_
      intro b23 hk hv hz hf
      replace fz := hz.trans fz
      replace fd := hf.trans fd
      replace fr := fun k hq => (hk k (by omega)).trans (fr k hq)
      clear f114 f118
      have f119 := hv
      clear hk hv hz hf
      have hL : Lay a0 b23 97 23 := ⟨fz.trans (by rw [ha0]; rfl), fd.trans (by rw [ha0]), fun k hq => fr k (by omega)⟩
      have ef := hL.whole (N := 188) ha0 rfl (by decide)
      have e9 : b23.tmps.getD (97 + 22) undef = .bool true := by simp [f119]
      go_step
      rename_i HJ HK
      rw [ef]
      refine HK _ _ (Met.intro (HJ _ _ ?_))
      (repeat apply Exists.intro)
      refine ⟨?rel, rfl⟩
      case rel => exact ⟨e9, HT.out⟩
    case rest =>
    obtain ⟨rfl, HX⟩ := hcut
    rename World => y6
    clear HT
    have HT := HX
    clear HX
    have jj : True := trivial
    go_upto_region 13 with (fail)
    repeat' (first | go_values | go_skip | go_guarded | go_step | go_upon | (simp only [Int.not_lt, Int.not_le] at *; go_simp))
    go_loopw [121] (fun iv wr => ∃ k : Nat, k ≤ n ∧ iv = .int .i64 (k : Int) ∧ Hid (Txs wr U (.slice (some ⟨g, 0, none⟩) n0 cp) (wrB l0 I k t) ∧ Below U u wr)) (fun iv _ => n - (intOf iv).toNat)
    case atStart => exact ⟨0, Nat.zero_le _, rfl, by rw [wr_zero]; exact HT.out⟩
    case round =>
      obtain ⟨k, hk, rfl, HR⟩ := hrel
      by_cases hlt : k < n
      · have hl : I + k < (wrB l0 I k t).length := by rw [wr_length (by omega)]; omega
        obtain ⟨z, hce⟩ : ∃ z, wr.cell? ⟨g, I + k, none⟩ = some (.string z) := ⟨_, txs_cell HR.out.1 (I + k) hl⟩
        have hfr := txs_free HR.out.1 (I + k)
        obtain ⟨y, hy⟩ : ∃ y, t.extract (k * 16) ((k + 1) * 16) = y := ⟨_, rfl⟩
        have hset := txs_set HR.out.1 (I + k) y
        rw [← hy, wr_set (by omega), hy] at hset
        have HS : Hid (Txs (wr.setCell ⟨g, I + k, none⟩ (.string y)) U (.slice (some ⟨g, 0, none⟩) n0 cp) (wrB l0 I (k + 1) t) ∧ Below U u (wr.setCell ⟨g, I + k, none⟩ (.string y))) := ⟨hset, txs_upto HR.out.1 u HR.out.2 _ _⟩
        obtain ⟨M, hM16⟩ : ∃ M, 16 * k = M := ⟨_, rfl⟩
        have c17 : 16 * (k : Int) = (M : Int) := by omega
        have hMb : M + 16 ≤ 4096 := by omega
        have hsl : ∀ W, (Instr.slice 9 (.string t) (some (.int .i64 (M : Int))) (some (.int .i64 ((M : Int) + 16))) none).run Tryd.prog W = .ok (.string y) W := fun W => by
          rw [run_part t _ _ (by omega) (by omega) (by omega), ← hy]
          congr 3 <;> omega
        obtain ⟨Q, hQ⟩ : ∃ Q, I + k = Q := ⟨_, rfl⟩
        have c18 : (I : Int) + (k : Int) = (Q : Int) := by omega
        have c19 : Q < n0 := by omega
        rw [hQ] at hce hfr HS
        clear HR hset HT hl hy hM16 hQ
        repeat' (first | go_values | go_skip | go_guarded | go_step | go_upon | (simp only [Int.not_lt, Int.not_le] at *; go_simp))
        go_roundw
        case rel => exact ⟨k + 1, by omega, by go_num, HS.out⟩
        case measure => simp [intOf]; omega
      · obtain rfl : n = k := by omega
        clear HT hlt hk
        have HT := HR
        clear HR
        rename World => y7
        have hM := HMM.out _ HT.out.2
        repeat' (first | go_values | go_skip | go_guarded | go_step | go_upon | (simp only [Int.not_lt, Int.not_le] at *; go_simp))
        refine (H4.out _ hM.below).mono ?_
        rintro e y8 ⟨rfl, hb⟩
        replace hM := hM.call hb
        have HT8 : Hid (Txs y8 U (.slice (some ⟨g, 0, none⟩) n0 cp) (wrB l0 I n t) ∧ Below U u y8) := ⟨HT.out.1.below hb, HT.out.2.trans (hb.mono (Nat.le_trans (txs_block HT.out.1).1 (Nat.le_of_lt (txs_block HT.out.1).2)))⟩
        clear hb HT H4
        repeat' (first | (go_big_may; first | (refine v_build rfl rfl (bld_ry (p : Int) K2) ?hbv ?_; (case hbv => simp [Act.eval, Act.put]))) | go_values | go_skip | go_guarded | go_step | go_upon | (simp only [Int.not_lt, Int.not_le] at *; go_simp))
        refine (H5.out _).mono ?_
        rintro e y9 ⟨rfl, hb⟩
        replace hM := hM.call hb
        have hT := txp HT8.out.1
        replace hT := hT.call hb
        have hR := rtp (HRR.out _ HT8.out.2)
        replace hR := hR.call hb
        clear hb H5 HT8 HRR HMM
        repeat' (first | (go_big_may; first | (refine v_load rfl rfl row_disk rfl hM.at1 (Nat.le_refl _) (cut_all rfl) ?_)) | go_values | go_skip | go_guarded | go_step | go_upon | (simp only [Int.not_lt, Int.not_le] at *; go_simp))
        refine (H6.out _ _ hR.out).mono ?_
        rintro e y10 ⟨ka, kc, rfl, hb⟩
        replace hM := hM.call hb
        replace hT := hT.call hb
        replace hR := hR.call hb
        clear hb H6
        repeat' (first | (go_big_may; first | (refine v_alloc rfl zer_disk rfl ?_; intro u zk hN; replace hR := hR.call hN.below; replace hT := hT.call hN.below; replace hM := hM.new hN; clear hN) | (refine v_fill rfl rfl row_disk rfl rfl hM.at0 (dkl_vs (v := .slice ka n2 kc) S2 rfl) rfl ?_; intro u hv hc; replace hR := rtp (rtz_chg hR.out hM.at0 (fun x q => by cases q) hc); replace hT := txp (txs_chg hT.out hM.at0 (by decide) hc); replace hM := hM.put0 hc hv; clear hv hc) | (refine v_get rfl rfl (by first | exact lod_int | exact lod_str | exact lod_fcs | exact lod_err | exact lod_bool | exact lod_txs) rfl hM.at2 rfl ?_)) | go_values | go_skip | go_guarded | go_step | go_upon | (simp only [Int.not_lt, Int.not_le] at *; go_simp))
        refine (H7.out _ _ _ hR.out (by rw [hNe]; exact hT.out.rts)).mono ?_
        rintro e y11 ⟨rfl, hb⟩
        replace hM := hM.call hb
        clear hb H7 hR hT
        dsimp only
        go_step
        try simp only [List.append_eq, List.cons_append, List.nil_append]
        refine wpl_abs fun a0 ha0 => ?_
        have fz : a0.tmps.size = 188 := by rw [ha0]; rfl
        have fd : a0.defers = [] := by rw [ha0]
        have f2 : a0.tmps[2]? = some (.int .i64 (n : Int)) := by rw [ha0]; rfl
        have f3 : a0.tmps[3]? = some (.int .i64 a3) := by rw [ha0]; rfl
        have f4 : a0.tmps[4]? = some (.string t) := by rw [ha0]; rfl
        have f17 : a0.tmps[17]? = some (.pointer (some ⟨zs, 0, none⟩)) := by rw [ha0]; rfl
        have f24 : a0.tmps[24]? = some (.string A2) := by rw [ha0]; rfl
        have f164 : a0.tmps[164]? = some (.bool true) := by rw [ha0]; rfl
        clear ha0
        refine p_val (v := .bool true) rfl rfl (by simp only [execOp, ev_con, ev_of f164]; simp [go_sem]) (by rw [fz]; decide) ?_
        intro d1 hk hv hz hf
        replace fz := hz.trans fz
        replace fd := hf.trans fd
        replace f2 := (hk 2 (by decide)).trans f2
        replace f3 := (hk 3 (by decide)).trans f3
        replace f4 := (hk 4 (by decide)).trans f4
        replace f17 := (hk 17 (by decide)).trans f17
        replace f24 := (hk 24 (by decide)).trans f24
        clear f164
        have f165 := hv
        clear hk hv hz hf
        refine p_val (v := .pointer (some ⟨zs, 2, none⟩)) ((wt_of rfl (by kernel_rfl) _ f165).trans rfl) rfl (x_fld (r := 2) rfl f17 (fun w => by kernel_rfl)) (by rw [fz]; decide) ?_
        intro d2 hk hv hz hf
        replace fz := hz.trans fz
        replace fd := hf.trans fd
        replace f2 := (hk 2 (by decide)).trans f2
        replace f3 := (hk 3 (by decide)).trans f3
        replace f4 := (hk 4 (by decide)).trans f4
        replace f24 := (hk 24 (by decide)).trans f24
        replace f165 := (hk 165 (by decide)).trans f165
        clear f17
        have f166 := hv
        clear hk hv hz hf
        refine p_val (v := .int .i64 0) ((wt_of rfl (by kernel_rfl) _ f165).trans rfl) rfl (p_get (v := .int .i64 0) rfl f166 hM.at1 rfl) (by rw [fz]; decide) ?_
        intro d3 hk hv hz hf
        replace fz := hz.trans fz
        replace fd := hf.trans fd
        replace f2 := (hk 2 (by decide)).trans f2
        replace f3 := (hk 3 (by decide)).trans f3
        replace f4 := (hk 4 (by decide)).trans f4
        replace f24 := (hk 24 (by decide)).trans f24
        replace f165 := (hk 165 (by decide)).trans f165
        clear f166
        have f167 := hv
        clear hk hv hz hf
        refine p_val (v := .bool false) ((wt_of rfl (by kernel_rfl) _ f165).trans rfl) rfl (by simp only [execOp, ev_con, ev_of f167]; simp [go_sem]) (by rw [fz]; decide) ?_
        intro d4 hk hv hz hf
        replace fz := hz.trans fz
        replace fd := hf.trans fd
        replace f2 := (hk 2 (by decide)).trans f2
        replace f3 := (hk 3 (by decide)).trans f3
        replace f4 := (hk 4 (by decide)).trans f4
        replace f24 := (hk 24 (by decide)).trans f24
        replace f165 := (hk 165 (by decide)).trans f165
        clear f167
        have f168 := hv
        clear hk hv hz hf
        refine p_val (v := .bool false) ((wt_of rfl (by kernel_rfl) _ f165).trans rfl) rfl (by simp only [execOp, ev_con, ev_of f168]; simp [go_sem]) (by rw [fz]; decide) ?_
        intro d5 hk hv hz hf
        replace fz := hz.trans fz
        replace fd := hf.trans fd
        replace f2 := (hk 2 (by decide)).trans f2
        replace f3 := (hk 3 (by decide)).trans f3
        replace f4 := (hk 4 (by decide)).trans f4
        replace f24 := (hk 24 (by decide)).trans f24
        replace f165 := (hk 165 (by decide)).trans f165
        clear f168
        have f169 := hv
        clear hk hv hz hf
        refine p_val (v := .int .i64 (n : Int)) ((wt_of rfl (by kernel_rfl) _ f169).trans rfl) rfl (by simp only [execOp, ev_con, ev_of f2]; simp [go_sem]) (by rw [fz]; decide) ?_
        intro d6 hk hv hz hf
        replace fz := hz.trans fz
        replace fd := hf.trans fd
        replace f2 := (hk 2 (by decide)).trans f2
        replace f3 := (hk 3 (by decide)).trans f3
        replace f4 := (hk 4 (by decide)).trans f4
        replace f24 := (hk 24 (by decide)).trans f24
        replace f165 := (hk 165 (by decide)).trans f165
        replace f169 := (hk 169 (by decide)).trans f169
        have f170 := hv
        clear hk hv hz hf
        refine p_val (v := .bool false) ((wt_of rfl (by kernel_rfl) _ f169).trans rfl) rfl (by simp only [execOp, ev_con, ev_of f170]; simp [go_sem, hn1, hn2]) (by rw [fz]; decide) ?_
        intro d7 hk hv hz hf
        replace fz := hz.trans fz
        replace fd := hf.trans fd
        replace f2 := (hk 2 (by decide)).trans f2
        replace f3 := (hk 3 (by decide)).trans f3
        replace f4 := (hk 4 (by decide)).trans f4
        replace f24 := (hk 24 (by decide)).trans f24
        replace f165 := (hk 165 (by decide)).trans f165
        replace f169 := (hk 169 (by decide)).trans f169
        clear f170
        have f171 := hv
        clear hk hv hz hf
        refine p_val (v := .bool false) ((wt_of rfl (by kernel_rfl) _ f165).trans rfl) rfl (by simp only [execOp, ev_con, ev_of f169, ev_of f171]; simp [go_sem]) (by rw [fz]; decide) ?_
        intro d8 hk hv hz hf
        replace fz := hz.trans fz
        replace fd := hf.trans fd
        replace f2 := (hk 2 (by decide)).trans f2
        replace f3 := (hk 3 (by decide)).trans f3
        replace f4 := (hk 4 (by decide)).trans f4
        replace f24 := (hk 24 (by decide)).trans f24
        replace f165 := (hk 165 (by decide)).trans f165
        clear f169 f171
        have f172 := hv
        clear hk hv hz hf
        refine p_val (v := .bool false) ((wt_of rfl (by kernel_rfl) _ f165).trans rfl) rfl (by simp only [execOp, ev_con, ev_of f172]; simp [go_sem]) (by rw [fz]; decide) ?_
        intro d9 hk hv hz hf
        replace fz := hz.trans fz
        replace fd := hf.trans fd
        replace f2 := (hk 2 (by decide)).trans f2
        replace f3 := (hk 3 (by decide)).trans f3
        replace f4 := (hk 4 (by decide)).trans f4
        replace f24 := (hk 24 (by decide)).trans f24
        replace f165 := (hk 165 (by decide)).trans f165
        clear f172
        have f173 := hv
        clear hk hv hz hf
        refine p_val (v := .int .i64 a3) ((wt_of rfl (by kernel_rfl) _ f173).trans rfl) rfl (by simp only [execOp, ev_con, ev_of f3]; simp [go_sem]) (by rw [fz]; decide) ?_
        intro d10 hk hv hz hf
        replace fz := hz.trans fz
        replace fd := hf.trans fd
        replace f2 := (hk 2 (by decide)).trans f2
        replace f4 := (hk 4 (by decide)).trans f4
        replace f24 := (hk 24 (by decide)).trans f24
        replace f165 := (hk 165 (by decide)).trans f165
        replace f173 := (hk 173 (by decide)).trans f173
        clear f3
        have f174 := hv
        clear hk hv hz hf
        refine p_val (v := .int .i64 (n : Int)) ((wt_of rfl (by kernel_rfl) _ f173).trans rfl) rfl (by simp only [execOp, ev_con, ev_of f2]; simp [go_sem]) (by rw [fz]; decide) ?_
        intro d11 hk hv hz hf
        replace fz := hz.trans fz
        replace fd := hf.trans fd
        replace f2 := (hk 2 (by decide)).trans f2
        replace f4 := (hk 4 (by decide)).trans f4
        replace f24 := (hk 24 (by decide)).trans f24
        replace f165 := (hk 165 (by decide)).trans f165
        replace f173 := (hk 173 (by decide)).trans f173
        replace f174 := (hk 174 (by decide)).trans f174
        have f175 := hv
        clear hk hv hz hf
        refine p_val (v := .int .i64 (p : Int)) ((wt_of rfl (by kernel_rfl) _ f173).trans rfl) rfl (by simp only [execOp, ev_con, ev_of f175]; simp [go_sem, jm]) (by rw [fz]; decide) ?_
        intro d12 hk hv hz hf
        replace fz := hz.trans fz
        replace fd := hf.trans fd
        replace f2 := (hk 2 (by decide)).trans f2
        replace f4 := (hk 4 (by decide)).trans f4
        replace f24 := (hk 24 (by decide)).trans f24
        replace f165 := (hk 165 (by decide)).trans f165
        replace f173 := (hk 173 (by decide)).trans f173
        replace f174 := (hk 174 (by decide)).trans f174
        clear f175
        have f176 := hv
        clear hk hv hz hf
        refine p_val (v := .bool false) ((wt_of rfl (by kernel_rfl) _ f173).trans rfl) rfl (by simp only [execOp, ev_con, ev_of f174, ev_of f176]; simp [go_sem, j1]) (by rw [fz]; decide) ?_
        intro d13 hk hv hz hf
        replace fz := hz.trans fz
        replace fd := hf.trans fd
        replace f2 := (hk 2 (by decide)).trans f2
        replace f4 := (hk 4 (by decide)).trans f4
        replace f24 := (hk 24 (by decide)).trans f24
        replace f165 := (hk 165 (by decide)).trans f165
        replace f173 := (hk 173 (by decide)).trans f173
        clear f174 f176
        have f177 := hv
        clear hk hv hz hf
        refine p_val (v := .bool false) ((wt_of rfl (by kernel_rfl) _ f165).trans rfl) rfl (by simp only [execOp, ev_con, ev_of f173, ev_of f177]; simp [go_sem]) (by rw [fz]; decide) ?_
        intro d14 hk hv hz hf
        replace fz := hz.trans fz
        replace fd := hf.trans fd
        replace f2 := (hk 2 (by decide)).trans f2
        replace f4 := (hk 4 (by decide)).trans f4
        replace f24 := (hk 24 (by decide)).trans f24
        replace f165 := (hk 165 (by decide)).trans f165
        clear f173 f177
        have f178 := hv
        clear hk hv hz hf
        refine p_val (v := .bool false) ((wt_of rfl (by kernel_rfl) _ f165).trans rfl) rfl (by simp only [execOp, ev_con, ev_of f178]; simp [go_sem]) (by rw [fz]; decide) ?_
        intro d15 hk hv hz hf
        replace fz := hz.trans fz
        replace fd := hf.trans fd
        replace f2 := (hk 2 (by decide)).trans f2
        replace f4 := (hk 4 (by decide)).trans f4
        replace f24 := (hk 24 (by decide)).trans f24
        replace f165 := (hk 165 (by decide)).trans f165
        clear f178
        have f179 := hv
        clear hk hv hz hf
        refine p_val (v := .string A2) ((wt_of rfl (by kernel_rfl) _ f179).trans rfl) rfl (by simp only [execOp, ev_con, ev_of f24]; simp [go_sem]) (by rw [fz]; decide) ?_
        intro d16 hk hv hz hf
        replace fz := hz.trans fz
        replace fd := hf.trans fd
        replace f2 := (hk 2 (by decide)).trans f2
        replace f4 := (hk 4 (by decide)).trans f4
        replace f165 := (hk 165 (by decide)).trans f165
        replace f179 := (hk 179 (by decide)).trans f179
        clear f24
        have f180 := hv
        clear hk hv hz hf
        refine p_val (v := .string t) ((wt_of rfl (by kernel_rfl) _ f179).trans rfl) rfl (by simp only [execOp, ev_con, ev_of f4]; simp [go_sem]) (by rw [fz]; decide) ?_
        intro d17 hk hv hz hf
        replace fz := hz.trans fz
        replace fd := hf.trans fd
        replace f2 := (hk 2 (by decide)).trans f2
        replace f165 := (hk 165 (by decide)).trans f165
        replace f179 := (hk 179 (by decide)).trans f179
        replace f180 := (hk 180 (by decide)).trans f180
        clear f4
        have f181 := hv
        clear hk hv hz hf
        refine p_val (v := .int .i64 (n : Int)) ((wt_of rfl (by kernel_rfl) _ f179).trans rfl) rfl (by simp only [execOp, ev_con, ev_of f2]; simp [go_sem]) (by rw [fz]; decide) ?_
        intro d18 hk hv hz hf
        replace fz := hz.trans fz
        replace fd := hf.trans fd
        replace f165 := (hk 165 (by decide)).trans f165
        replace f179 := (hk 179 (by decide)).trans f179
        replace f180 := (hk 180 (by decide)).trans f180
        replace f181 := (hk 181 (by decide)).trans f181
        clear f2
        have f182 := hv
        clear hk hv hz hf
        refine p_val (v := .int .i64 (p : Int)) ((wt_of rfl (by kernel_rfl) _ f179).trans rfl) rfl (by simp only [execOp, ev_con, ev_of f182]; simp [go_sem, jm]) (by rw [fz]; decide) ?_
        intro d19 hk hv hz hf
        replace fz := hz.trans fz
        replace fd := hf.trans fd
        replace f165 := (hk 165 (by decide)).trans f165
        replace f179 := (hk 179 (by decide)).trans f179
        replace f180 := (hk 180 (by decide)).trans f180
        replace f181 := (hk 181 (by decide)).trans f181
        clear f182
        have f183 := hv
        clear hk hv hz hf
        refine p_val (v := .string A2) ((wt_of rfl (by kernel_rfl) _ f179).trans rfl) rfl (by simp only [execOp, ev_con, ev_of f181, ev_of f183]; simp [go_sem, hsl2, f183]) (by rw [fz]; decide) ?_
        intro d20 hk hv hz hf
        replace fz := hz.trans fz
        replace fd := hf.trans fd
        replace f165 := (hk 165 (by decide)).trans f165
        replace f179 := (hk 179 (by decide)).trans f179
        replace f180 := (hk 180 (by decide)).trans f180
        clear f181 f183
        have f184 := hv
        clear hk hv hz hf
        refine p_val (v := .bool true) ((wt_of rfl (by kernel_rfl) _ f179).trans rfl) rfl (by simp only [execOp, ev_con, ev_of f180, ev_of f184]; simp [go_sem]) (by rw [fz]; decide) ?_
        intro d21 hk hv hz hf
        replace fz := hz.trans fz
        replace fd := hf.trans fd
        replace f165 := (hk 165 (by decide)).trans f165
        replace f179 := (hk 179 (by decide)).trans f179
        clear f180 f184
        have f185 := hv
        clear hk hv hz hf
        refine p_val (v := .bool true) ((wt_of rfl (by kernel_rfl) _ f165).trans rfl) rfl (by simp only [execOp, ev_con, ev_of f179, ev_of f185]; simp [go_sem]) (by rw [fz]; decide) ?_
        intro d22 hk hv hz hf
        replace fz := hz.trans fz
        replace fd := hf.trans fd
        replace f165 := (hk 165 (by decide)).trans f165
        clear f179 f185
        have f186 := hv
        clear hk hv hz hf
        refine p_val (v := .bool true) rfl rfl (by simp only [execOp, ev_con, ev_of f165, ev_of f186]; simp [go_sem]) (by rw [fz]; decide) ?_
        intro d23 hk hv hz hf
        replace fz := hz.trans fz
        replace fd := hf.trans fd
        clear f165 f186
        have f187 := hv
        clear hk hv hz hf
        refine p_val (v := .bool true) rfl rfl (by simp only [execOp, ev_con, ev_of f187]; simp [go_sem]) (by rw [fz]; decide) ?_
        intro d24 hk hv hz hf
        replace fz := hz.trans fz
        replace fd := hf.trans fd
        clear f187
        have f10 := hv
        clear hk hv hz hf
        go_step
        go_step
        go_step
        go_step
        exact bodyPost_ret (ret_t rfl f10) fd ⟨rfl, hM.below⟩
  · have hNl0 : N = l0 := g5 (fun q => hn (by omega))
    have hNe : N = wrB l0 I n t := by rw [hNl0, show n = 0 by omega, wr_zero]
    have hn1 : ((n : Int) == 0) = true := by simp; omega
    have hn2 : n = 0 := by omega
    have j1 : (p : Int) ≤ a3 := by omega
    have jm : IntKind.i64.wrap (16 * (n : Int)) = (p : Int) := by rw [c16, IntKind.wrap_i64]; omega
    have jw : IntKind.i64.wrap ((I : Int) + (n : Int)) = (I : Int) + (n : Int) := by rw [IntKind.wrap_i64]; omega
    have HN2 : Hid (n = 0) := hn2
    clear g4 g5 hIn hn hp16
    clear hn2
    by_cases j2 : I + n ≤ l0.length
    · by_cases j3 : (t.size : Int) = a3
      · have j2i : (I : Int) + (n : Int) ≤ (l0.length : Int) := by omega
        generalize hn0 : l0.length = n0 at *
        go_enter Tryd.func3, Tryd.ntmps3
        repeat' (first | (go_big_may; first | (refine v_box rfl rfl rfl ?_; intro u zd hN; replace hM := Mm.new (L := []) hM hN; clear hN)) | go_values | go_skip | go_guarded | go_step | go_upon | (simp only [Int.not_lt, Int.not_le] at *; go_simp))
        refine (HL.out _).mono ?_
        rintro e y ⟨rfl, hb⟩
        replace hM := hM.call hb
        clear hb
        repeat' (first | (go_big_may; first | (refine v_get rfl rfl (by first | exact lod_int | exact lod_str | exact lod_fcs | exact lod_err | exact lod_bool | exact lod_txs) rfl hM.at0 rfl ?_) | (refine v_bsn rfl rfl (bs_ten (I : Int) (n : Int)) ?hbv ?_; (case hbv => simp [Act.eval, Act.put]); intro u zb hN; replace hM := hM.new hN; clear hN) | (refine v_cnv rfl rfl rfl hM.at0 rfl ?_; rw [h10]) | (refine v_build rfl rfl (bld_wy a3 K) ?hbv ?_; (case hbv => simp [Act.eval, Act.put]))) | go_values | go_skip | go_guarded | go_step | go_upon | (simp only [Int.not_lt, Int.not_le] at *; go_simp))
        refine (H1.out _).mono ?_
        rintro e y ⟨rfl, hb⟩
        replace hM := hM.call hb
        clear hb H1
        repeat' (first | (go_big_may; first | (refine v_load rfl rfl row_disk rfl hM.at1 (Nat.le_refl _) (cut_all rfl) ?_)) | go_values | go_skip | go_guarded | go_step | go_upon | (simp only [Int.not_lt, Int.not_le] at *; go_simp))
        refine (H2.out _ (hC0.call hM.below).out).mono ?_
        rintro e y3 ⟨ya, yc, rfl, hr, hb⟩
        replace hM := hM.call hb
        have hR := rtp hr
        clear hb hr H2
        repeat' (first | (go_big_may; first | (refine v_alloc rfl zer_disk rfl ?_; intro u za hN; replace hR := hR.call hN.below; replace hM := hM.new hN; clear hN) | (refine v_fill rfl rfl row_disk rfl rfl hM.at0 (dkl_vs (v := .slice ya n0 yc) S rfl) rfl ?_; intro u hv hc; replace hR := rtp (rtz_chg hR.out hM.at0 (fun x q => by cases q) hc); replace hM := hM.put0 hc hv; clear hv hc)) | go_values | go_skip | go_guarded | go_step | go_upon | (simp only [Int.not_lt, Int.not_le] at *; go_simp))
        refine (H3.out _).mono ?_
        rintro e y ⟨rfl, hb⟩
        replace hM := hM.call hb
        replace hR := hR.call hb
        clear hb H3
        repeat' (first | (go_big_may; first | (refine v_alloc rfl zer_status rfl ?_; intro u zs hN; replace hR := hR.call hN.below; replace hM := hM.new hN; clear hN) | (refine v_fill rfl rfl row_status rfl rfl hM.at0 (spl_vs ⟨ztag, res, 0⟩) rfl ?_; intro u hv hc; replace hR := rtp (rtz_box hR.out hM.at0 (spl_ns _) hc); replace hM := hM.put0 hc hv; clear hv hc) | (refine v_get rfl rfl (by first | exact lod_int | exact lod_str | exact lod_fcs | exact lod_err | exact lod_bool | exact lod_txs) rfl hM.at3 rfl ?_) | (at_builtin; refine Stop.out ?_)) | go_values | go_skip | go_guarded | go_step | go_upon | (simp only [Int.not_lt, Int.not_le] at *; go_simp))
        refine ⟨?_⟩
        obtain ⟨U, hU⟩ : ∃ U, u.heap.size = U := ⟨_, rfl⟩
        have HUW : Hid (w.heap.size ≤ U) := by rw [← hU]; exact hM.below.size
        have HMM : Hid (∀ W, Below U u W → Mm w W [(zs, 36, spl ⟨ztag, res, 0⟩), (za, 24, dkl (.slice ya n0 yc) S), (zb, 5, (ten (I : Int) (n : Int)).map (Value.int .u8)), (zd, 24, dkl (.slice xa n0 xc) s0)]) := fun W h => hM.call (by rw [hU]; exact h)
        have HRR : Hid (∀ W, Below U u W → Rts W (.slice ya n0 yc) N) := fun W h => (hR.call (by rw [hU]; exact h)).out
        refine wpList_txt _ rfl _ _ rfl U _ [] rfl (Txs.nil _ _) _ l0 rfl (hC0.call hM.below).out (by simp; omega) (Nat.le_of_eq hU.symm) ?_
        intro v1 y5 q1 q2
        rw [List.nil_append] at q1
        obtain ⟨g, cp, rfl⟩ := txs_some q1 (by omega)
        have HT : Hid (Txs y5 U (.slice (some ⟨g, 0, none⟩) n0 cp) l0 ∧ Below U u y5) := ⟨by rw [hn0] at q1; exact q1, q2⟩
        rw [hn0]
        clear q1 q2 hM hR hC0 hU
        go_upto_region 12 with (fail)
        go_cut [119] from 97 to 119 (fun cv wx => cv = .bool true ∧ Hid (Txs wx U (.slice (some ⟨g, 0, none⟩) n0 cp) l0 ∧ Below U u wx))
        case first =>
          have hM := HMM.out _ HT.out.2
          go_step
          try simp only [List.append_eq, List.cons_append, List.nil_append]
          refine wpl_abs fun a0 ha0 => ?_
          have fz : a0.tmps.size = 188 := by rw [ha0]; rfl
          have fd : a0.defers = [] := by rw [ha0]
          have fr : ∀ k, (k < 97 ∨ 120 ≤ k) → a0.tmps[k]? = a0.tmps[k]? := fun _ _ => rfl
          have f1 : a0.tmps[1]? = some (.int .i64 (I : Int)) := by rw [ha0]; rfl
          have f2 : a0.tmps[2]? = some (.int .i64 (n : Int)) := by rw [ha0]; rfl
          have f3 : a0.tmps[3]? = some (.int .i64 a3) := by rw [ha0]; rfl
          have f4 : a0.tmps[4]? = some (.string t) := by rw [ha0]; rfl
          have f17 : a0.tmps[17]? = some (.pointer (some ⟨zs, 0, none⟩)) := by rw [ha0]; rfl
          have f19 : a0.tmps[19]? = some (.slice (some ⟨g, 0, none⟩) n0 cp) := by rw [ha0]; rfl
          refine p_val (v := .pointer (some ⟨zs, 2, none⟩)) rfl rfl (x_fld (r := 2) rfl f17 (fun w => by kernel_rfl)) (by rw [fz]; decide) ?_
          intro b1 hk hv hz hf
          replace fz := hz.trans fz
          replace fd := hf.trans fd
          replace fr := fun k hq => (hk k (by omega)).trans (fr k hq)
          replace f1 := (hk 1 (by decide)).trans f1
          replace f2 := (hk 2 (by decide)).trans f2
          replace f3 := (hk 3 (by decide)).trans f3
          replace f4 := (hk 4 (by decide)).trans f4
          replace f19 := (hk 19 (by decide)).trans f19
          clear f17
          have f97 := hv
          clear hk hv hz hf
          refine p_val (v := .int .i64 0) rfl rfl (p_get (v := .int .i64 0) rfl f97 hM.at0 rfl) (by rw [fz]; decide) ?_
          intro b2 hk hv hz hf
          replace fz := hz.trans fz
          replace fd := hf.trans fd
          replace fr := fun k hq => (hk k (by omega)).trans (fr k hq)
          replace f1 := (hk 1 (by decide)).trans f1
          replace f2 := (hk 2 (by decide)).trans f2
          replace f3 := (hk 3 (by decide)).trans f3
          replace f4 := (hk 4 (by decide)).trans f4
          replace f19 := (hk 19 (by decide)).trans f19
          clear f97
          have f98 := hv
          clear hk hv hz hf
          refine p_val (v := .bool true) rfl rfl (by simp only [execOp, ev_con, ev_of f98]; simp [go_sem]) (by rw [fz]; decide) ?_
          intro b3 hk hv hz hf
          replace fz := hz.trans fz
          replace fd := hf.trans fd
          replace fr := fun k hq => (hk k (by omega)).trans (fr k hq)
          replace f1 := (hk 1 (by decide)).trans f1
          replace f2 := (hk 2 (by decide)).trans f2
          replace f3 := (hk 3 (by decide)).trans f3
          replace f4 := (hk 4 (by decide)).trans f4
          replace f19 := (hk 19 (by decide)).trans f19
          clear f98
          have f99 := hv
          clear hk hv hz hf
          refine p_val (v := .bool true) rfl rfl (by simp only [execOp, ev_con, ev_of f99]; simp [go_sem]) (by rw [fz]; decide) ?_
          intro b4 hk hv hz hf
          replace fz := hz.trans fz
          replace fd := hf.trans fd
          replace fr := fun k hq => (hk k (by omega)).trans (fr k hq)
          replace f1 := (hk 1 (by decide)).trans f1
          replace f2 := (hk 2 (by decide)).trans f2
          replace f3 := (hk 3 (by decide)).trans f3
          replace f4 := (hk 4 (by decide)).trans f4
          replace f19 := (hk 19 (by decide)).trans f19
          clear f99
          have f100 := hv
          clear hk hv hz hf
          refine p_val (v := .int .i64 a3) ((wt_of rfl (by kernel_rfl) _ f100).trans rfl) rfl (by simp only [execOp, ev_con, ev_of f3]; simp [go_sem]) (by rw [fz]; decide) ?_
          intro b5 hk hv hz hf
          replace fz := hz.trans fz
          replace fd := hf.trans fd
          replace fr := fun k hq => (hk k (by omega)).trans (fr k hq)
          replace f1 := (hk 1 (by decide)).trans f1
          replace f2 := (hk 2 (by decide)).trans f2
          replace f3 := (hk 3 (by decide)).trans f3
          replace f4 := (hk 4 (by decide)).trans f4
          replace f19 := (hk 19 (by decide)).trans f19
          replace f100 := (hk 100 (by decide)).trans f100
          have f101 := hv
          clear hk hv hz hf
          refine p_val (v := .int .i64 (n : Int)) ((wt_of rfl (by kernel_rfl) _ f100).trans rfl) rfl (by simp only [execOp, ev_con, ev_of f2]; simp [go_sem]) (by rw [fz]; decide) ?_
          intro b6 hk hv hz hf
          replace fz := hz.trans fz
          replace fd := hf.trans fd
          replace fr := fun k hq => (hk k (by omega)).trans (fr k hq)
          replace f1 := (hk 1 (by decide)).trans f1
          replace f2 := (hk 2 (by decide)).trans f2
          replace f3 := (hk 3 (by decide)).trans f3
          replace f4 := (hk 4 (by decide)).trans f4
          replace f19 := (hk 19 (by decide)).trans f19
          replace f100 := (hk 100 (by decide)).trans f100
          replace f101 := (hk 101 (by decide)).trans f101
          have f102 := hv
          clear hk hv hz hf
          refine p_val (v := .int .i64 (p : Int)) ((wt_of rfl (by kernel_rfl) _ f100).trans rfl) rfl (by simp only [execOp, ev_con, ev_of f102]; simp [go_sem, jm]) (by rw [fz]; decide) ?_
          intro b7 hk hv hz hf
          replace fz := hz.trans fz
          replace fd := hf.trans fd
          replace fr := fun k hq => (hk k (by omega)).trans (fr k hq)
          replace f1 := (hk 1 (by decide)).trans f1
          replace f2 := (hk 2 (by decide)).trans f2
          replace f3 := (hk 3 (by decide)).trans f3
          replace f4 := (hk 4 (by decide)).trans f4
          replace f19 := (hk 19 (by decide)).trans f19
          replace f100 := (hk 100 (by decide)).trans f100
          replace f101 := (hk 101 (by decide)).trans f101
          clear f102
          have f103 := hv
          clear hk hv hz hf
          refine p_val (v := .bool true) ((wt_of rfl (by kernel_rfl) _ f100).trans rfl) rfl (by simp only [execOp, ev_con, ev_of f101, ev_of f103]; simp [go_sem, j1]) (by rw [fz]; decide) ?_
          intro b8 hk hv hz hf
          replace fz := hz.trans fz
          replace fd := hf.trans fd
          replace fr := fun k hq => (hk k (by omega)).trans (fr k hq)
          replace f1 := (hk 1 (by decide)).trans f1
          replace f2 := (hk 2 (by decide)).trans f2
          replace f3 := (hk 3 (by decide)).trans f3
          replace f4 := (hk 4 (by decide)).trans f4
          replace f19 := (hk 19 (by decide)).trans f19
          replace f100 := (hk 100 (by decide)).trans f100
          clear f101 f103
          have f104 := hv
          clear hk hv hz hf
          refine p_val (v := .bool true) rfl rfl (by simp only [execOp, ev_con, ev_of f100, ev_of f104]; simp [go_sem]) (by rw [fz]; decide) ?_
          intro b9 hk hv hz hf
          replace fz := hz.trans fz
          replace fd := hf.trans fd
          replace fr := fun k hq => (hk k (by omega)).trans (fr k hq)
          replace f1 := (hk 1 (by decide)).trans f1
          replace f2 := (hk 2 (by decide)).trans f2
          replace f3 := (hk 3 (by decide)).trans f3
          replace f4 := (hk 4 (by decide)).trans f4
          replace f19 := (hk 19 (by decide)).trans f19
          clear f100 f104
          have f105 := hv
          clear hk hv hz hf
          refine p_val (v := .bool true) rfl rfl (by simp only [execOp, ev_con, ev_of f105]; simp [go_sem]) (by rw [fz]; decide) ?_
          intro b10 hk hv hz hf
          replace fz := hz.trans fz
          replace fd := hf.trans fd
          replace fr := fun k hq => (hk k (by omega)).trans (fr k hq)
          replace f1 := (hk 1 (by decide)).trans f1
          replace f2 := (hk 2 (by decide)).trans f2
          replace f3 := (hk 3 (by decide)).trans f3
          replace f4 := (hk 4 (by decide)).trans f4
          replace f19 := (hk 19 (by decide)).trans f19
          clear f105
          have f106 := hv
          clear hk hv hz hf
          refine p_val (v := .int .i64 (I : Int)) ((wt_of rfl (by kernel_rfl) _ f106).trans rfl) rfl (by simp only [execOp, ev_con, ev_of f1]; simp [go_sem]) (by rw [fz]; decide) ?_
          intro b11 hk hv hz hf
          replace fz := hz.trans fz
          replace fd := hf.trans fd
          replace fr := fun k hq => (hk k (by omega)).trans (fr k hq)
          replace f2 := (hk 2 (by decide)).trans f2
          replace f3 := (hk 3 (by decide)).trans f3
          replace f4 := (hk 4 (by decide)).trans f4
          replace f19 := (hk 19 (by decide)).trans f19
          replace f106 := (hk 106 (by decide)).trans f106
          clear f1
          have f107 := hv
          clear hk hv hz hf
          refine p_val (v := .int .i64 (n : Int)) ((wt_of rfl (by kernel_rfl) _ f106).trans rfl) rfl (by simp only [execOp, ev_con, ev_of f2]; simp [go_sem]) (by rw [fz]; decide) ?_
          intro b12 hk hv hz hf
          replace fz := hz.trans fz
          replace fd := hf.trans fd
          replace fr := fun k hq => (hk k (by omega)).trans (fr k hq)
          replace f3 := (hk 3 (by decide)).trans f3
          replace f4 := (hk 4 (by decide)).trans f4
          replace f19 := (hk 19 (by decide)).trans f19
          replace f106 := (hk 106 (by decide)).trans f106
          replace f107 := (hk 107 (by decide)).trans f107
          clear f2
          have f108 := hv
          clear hk hv hz hf
          refine p_val (v := .int .i64 ((I : Int) + (n : Int))) ((wt_of rfl (by kernel_rfl) _ f106).trans rfl) rfl (by simp only [execOp, ev_con, ev_of f107, ev_of f108]; simp [go_sem, jw]) (by rw [fz]; decide) ?_
          intro b13 hk hv hz hf
          replace fz := hz.trans fz
          replace fd := hf.trans fd
          replace fr := fun k hq => (hk k (by omega)).trans (fr k hq)
          replace f3 := (hk 3 (by decide)).trans f3
          replace f4 := (hk 4 (by decide)).trans f4
          replace f19 := (hk 19 (by decide)).trans f19
          replace f106 := (hk 106 (by decide)).trans f106
          clear f107 f108
          have f109 := hv
          clear hk hv hz hf
          refine p_val (v := .slice (some ⟨g, 0, none⟩) n0 cp) ((wt_of rfl (by kernel_rfl) _ f106).trans rfl) rfl (by simp only [execOp, ev_con, ev_of f19]; simp [go_sem]) (by rw [fz]; decide) ?_
          intro b14 hk hv hz hf
          replace fz := hz.trans fz
          replace fd := hf.trans fd
          replace fr := fun k hq => (hk k (by omega)).trans (fr k hq)
          replace f3 := (hk 3 (by decide)).trans f3
          replace f4 := (hk 4 (by decide)).trans f4
          replace f106 := (hk 106 (by decide)).trans f106
          replace f109 := (hk 109 (by decide)).trans f109
          clear f19
          have f110 := hv
          clear hk hv hz hf
          refine p_val (v := .int .i64 (n0 : Int)) ((wt_of rfl (by kernel_rfl) _ f106).trans rfl) rfl (by simp only [execOp, ev_con, ev_of f110]; simp [go_sem, f110]) (by rw [fz]; decide) ?_
          intro b15 hk hv hz hf
          replace fz := hz.trans fz
          replace fd := hf.trans fd
          replace fr := fun k hq => (hk k (by omega)).trans (fr k hq)
          replace f3 := (hk 3 (by decide)).trans f3
          replace f4 := (hk 4 (by decide)).trans f4
          replace f106 := (hk 106 (by decide)).trans f106
          replace f109 := (hk 109 (by decide)).trans f109
          clear f110
          have f111 := hv
          clear hk hv hz hf
          refine p_val (v := .bool true) ((wt_of rfl (by kernel_rfl) _ f106).trans rfl) rfl (by simp only [execOp, ev_con, ev_of f109, ev_of f111]; simp [go_sem, j2i, j2]) (by rw [fz]; decide) ?_
          intro b16 hk hv hz hf
          replace fz := hz.trans fz
          replace fd := hf.trans fd
          replace fr := fun k hq => (hk k (by omega)).trans (fr k hq)
          replace f3 := (hk 3 (by decide)).trans f3
          replace f4 := (hk 4 (by decide)).trans f4
          replace f106 := (hk 106 (by decide)).trans f106
          clear f109 f111
          have f112 := hv
          clear hk hv hz hf
          refine p_val (v := .bool true) rfl rfl (by simp only [execOp, ev_con, ev_of f106, ev_of f112]; simp [go_sem]) (by rw [fz]; decide) ?_
          intro b17 hk hv hz hf
          replace fz := hz.trans fz
          replace fd := hf.trans fd
          replace fr := fun k hq => (hk k (by omega)).trans (fr k hq)
          replace f3 := (hk 3 (by decide)).trans f3
          replace f4 := (hk 4 (by decide)).trans f4
          clear f106 f112
          have f113 := hv
          clear hk hv hz hf
          refine p_val (v := .bool true) rfl rfl (by simp only [execOp, ev_con, ev_of f113]; simp [go_sem]) (by rw [fz]; decide) ?_
          intro b18 hk hv hz hf
          replace fz := hz.trans fz
          replace fd := hf.trans fd
          replace fr := fun k hq => (hk k (by omega)).trans (fr k hq)
          replace f3 := (hk 3 (by decide)).trans f3
          replace f4 := (hk 4 (by decide)).trans f4
          clear f113
          have f114 := hv
          clear hk hv hz hf
          refine p_val (v := .string t) ((wt_of rfl (by kernel_rfl) _ f114).trans rfl) rfl (by simp only [execOp, ev_con, ev_of f4]; simp [go_sem]) (by rw [fz]; decide) ?_
          intro b19 hk hv hz hf
          replace fz := hz.trans fz
          replace fd := hf.trans fd
          replace fr := fun k hq => (hk k (by omega)).trans (fr k hq)
          replace f3 := (hk 3 (by decide)).trans f3
          replace f114 := (hk 114 (by decide)).trans f114
          clear f4
          have f115 := hv
          clear hk hv hz hf
          refine p_val (v := .int .i64 a3) ((wt_of rfl (by kernel_rfl) _ f114).trans rfl) rfl (by simp only [execOp, ev_con, ev_of f115]; simp [go_sem, f115, j3]) (by rw [fz]; decide) ?_
          intro b20 hk hv hz hf
          replace fz := hz.trans fz
          replace fd := hf.trans fd
          replace fr := fun k hq => (hk k (by omega)).trans (fr k hq)
          replace f3 := (hk 3 (by decide)).trans f3
          replace f114 := (hk 114 (by decide)).trans f114
          clear f115
          have f116 := hv
          clear hk hv hz hf
          refine p_val (v := .int .i64 a3) ((wt_of rfl (by kernel_rfl) _ f114).trans rfl) rfl (by simp only [execOp, ev_con, ev_of f3]; simp [go_sem]) (by rw [fz]; decide) ?_
          intro b21 hk hv hz hf
          replace fz := hz.trans fz
          replace fd := hf.trans fd
          replace fr := fun k hq => (hk k (by omega)).trans (fr k hq)
          replace f114 := (hk 114 (by decide)).trans f114
          replace f116 := (hk 116 (by decide)).trans f116
          clear f3
          have f117 := hv
          clear hk hv hz hf
          refine p_val (v := .bool true) ((wt_of rfl (by kernel_rfl) _ f114).trans rfl) rfl (by simp only [execOp, ev_con, ev_of f116, ev_of f117]; simp [go_sem]) (by rw [fz]; decide) ?_
          intro b22 hk hv hz hf
          replace fz := hz.trans fz
          replace fd := hf.trans fd
          replace fr := fun k hq => (hk k (by omega)).trans (fr k hq)
          replace f114 := (hk 114 (by decide)).trans f114
          clear f116 f117
          have f118 := hv
          clear hk hv hz hf
          refine p_val (v := .bool true) rfl rfl (by simp only [execOp, ev_con, ev_of f114, ev_of f118]; simp [go_sem]) (by rw [fz]; decide) ?_
          intro b23 hk hv hz hf
          replace fz := hz.trans fz
          replace fd := hf.trans fd
          replace fr := fun k hq => (hk k (by omega)).trans (fr k hq)
          clear f114 f118
          have f119 := hv
          clear hk hv hz hf
          have hL : Lay a0 b23 97 23 := ⟨fz.trans (by rw [ha0]; rfl), fd.trans (by rw [ha0]), fun k hq => fr k (by omega)⟩
          have ef := hL.whole (N := 188) ha0 rfl (by decide)
          have e9 : b23.tmps.getD (97 + 22) undef = .bool true := by simp [f119]
          go_step
          rename_i HJ HK
          rw [ef]
          refine HK _ _ (Met.intro (HJ _ _ ?_))
          (repeat apply Exists.intro)
          refine ⟨?rel, rfl⟩
          case rel => exact ⟨e9, HT.out⟩
        case rest =>
        obtain ⟨rfl, HX⟩ := hcut
        rename World => y6
        clear HT
        have HT := HX
        clear HX
        go_upto_region 13 with (fail)
        repeat' (first | go_values | go_skip | go_guarded | go_step | go_upon | (simp only [Int.not_lt, Int.not_le] at *; go_simp))
        go_loopw [121] (fun iv wr => ∃ k : Nat, k ≤ n ∧ iv = .int .i64 (k : Int) ∧ Hid (Txs wr U (.slice (some ⟨g, 0, none⟩) n0 cp) (wrB l0 I k t) ∧ Below U u wr)) (fun iv _ => n - (intOf iv).toNat)
        case atStart => exact ⟨0, Nat.zero_le _, rfl, by rw [wr_zero]; exact HT.out⟩
        case round =>
          obtain ⟨k, hk, rfl, HR⟩ := hrel
          obtain rfl : n = k := by have := HN2.out; omega
          clear HT hk
          have HT := HR
          clear HR
          rename World => y7
          have hM := HMM.out _ HT.out.2
          repeat' (first | go_values | go_skip | go_guarded | go_step | go_upon | (simp only [Int.not_lt, Int.not_le] at *; go_simp))
          refine (H4.out _ hM.below).mono ?_
          rintro e y8 ⟨rfl, hb⟩
          replace hM := hM.call hb
          have HT8 : Hid (Txs y8 U (.slice (some ⟨g, 0, none⟩) n0 cp) (wrB l0 I n t) ∧ Below U u y8) := ⟨HT.out.1.below hb, HT.out.2.trans (hb.mono (Nat.le_trans (txs_block HT.out.1).1 (Nat.le_of_lt (txs_block HT.out.1).2)))⟩
          clear hb HT H4
          repeat' (first | (go_big_may; first | (refine v_build rfl rfl (bld_ry (p : Int) K2) ?hbv ?_; (case hbv => simp [Act.eval, Act.put]))) | go_values | go_skip | go_guarded | go_step | go_upon | (simp only [Int.not_lt, Int.not_le] at *; go_simp))
          refine (H5.out _).mono ?_
          rintro e y9 ⟨rfl, hb⟩
          replace hM := hM.call hb
          have hT := txp HT8.out.1
          replace hT := hT.call hb
          have hR := rtp (HRR.out _ HT8.out.2)
          replace hR := hR.call hb
          clear hb H5 HT8 HRR HMM
          repeat' (first | (go_big_may; first | (refine v_load rfl rfl row_disk rfl hM.at1 (Nat.le_refl _) (cut_all rfl) ?_)) | go_values | go_skip | go_guarded | go_step | go_upon | (simp only [Int.not_lt, Int.not_le] at *; go_simp))
          refine (H6.out _ _ hR.out).mono ?_
          rintro e y10 ⟨ka, kc, rfl, hb⟩
          replace hM := hM.call hb
          replace hT := hT.call hb
          replace hR := hR.call hb
          clear hb H6
          repeat' (first | (go_big_may; first | (refine v_alloc rfl zer_disk rfl ?_; intro u zk hN; replace hR := hR.call hN.below; replace hT := hT.call hN.below; replace hM := hM.new hN; clear hN) | (refine v_fill rfl rfl row_disk rfl rfl hM.at0 (dkl_vs (v := .slice ka n2 kc) S2 rfl) rfl ?_; intro u hv hc; replace hR := rtp (rtz_chg hR.out hM.at0 (fun x q => by cases q) hc); replace hT := txp (txs_chg hT.out hM.at0 (by decide) hc); replace hM := hM.put0 hc hv; clear hv hc) | (refine v_get rfl rfl (by first | exact lod_int | exact lod_str | exact lod_fcs | exact lod_err | exact lod_bool | exact lod_txs) rfl hM.at2 rfl ?_)) | go_values | go_skip | go_guarded | go_step | go_upon | (simp only [Int.not_lt, Int.not_le] at *; go_simp))
          refine (H7.out _ _ _ hR.out (by rw [hNe]; exact hT.out.rts)).mono ?_
          rintro e y11 ⟨rfl, hb⟩
          replace hM := hM.call hb
          clear hb H7 hR hT
          dsimp only
          go_step
          try simp only [List.append_eq, List.cons_append, List.nil_append]
          refine wpl_abs fun a0 ha0 => ?_
          have fz : a0.tmps.size = 188 := by rw [ha0]; rfl
          have fd : a0.defers = [] := by rw [ha0]
          have f2 : a0.tmps[2]? = some (.int .i64 (n : Int)) := by rw [ha0]; rfl
          have f3 : a0.tmps[3]? = some (.int .i64 a3) := by rw [ha0]; rfl
          have f4 : a0.tmps[4]? = some (.string t) := by rw [ha0]; rfl
          have f17 : a0.tmps[17]? = some (.pointer (some ⟨zs, 0, none⟩)) := by rw [ha0]; rfl
          have f24 : a0.tmps[24]? = some (.string A2) := by rw [ha0]; rfl
          have f164 : a0.tmps[164]? = some (.bool true) := by rw [ha0]; rfl
          clear ha0
          refine p_val (v := .bool true) rfl rfl (by simp only [execOp, ev_con, ev_of f164]; simp [go_sem]) (by rw [fz]; decide) ?_
          intro d1 hk hv hz hf
          replace fz := hz.trans fz
          replace fd := hf.trans fd
          replace f2 := (hk 2 (by decide)).trans f2
          replace f3 := (hk 3 (by decide)).trans f3
          replace f4 := (hk 4 (by decide)).trans f4
          replace f17 := (hk 17 (by decide)).trans f17
          replace f24 := (hk 24 (by decide)).trans f24
          clear f164
          have f165 := hv
          clear hk hv hz hf
          refine p_val (v := .pointer (some ⟨zs, 2, none⟩)) ((wt_of rfl (by kernel_rfl) _ f165).trans rfl) rfl (x_fld (r := 2) rfl f17 (fun w => by kernel_rfl)) (by rw [fz]; decide) ?_
          intro d2 hk hv hz hf
          replace fz := hz.trans fz
          replace fd := hf.trans fd
          replace f2 := (hk 2 (by decide)).trans f2
          replace f3 := (hk 3 (by decide)).trans f3
          replace f4 := (hk 4 (by decide)).trans f4
          replace f24 := (hk 24 (by decide)).trans f24
          replace f165 := (hk 165 (by decide)).trans f165
          clear f17
          have f166 := hv
          clear hk hv hz hf
          refine p_val (v := .int .i64 0) ((wt_of rfl (by kernel_rfl) _ f165).trans rfl) rfl (p_get (v := .int .i64 0) rfl f166 hM.at1 rfl) (by rw [fz]; decide) ?_
          intro d3 hk hv hz hf
          replace fz := hz.trans fz
          replace fd := hf.trans fd
          replace f2 := (hk 2 (by decide)).trans f2
          replace f3 := (hk 3 (by decide)).trans f3
          replace f4 := (hk 4 (by decide)).trans f4
          replace f24 := (hk 24 (by decide)).trans f24
          replace f165 := (hk 165 (by decide)).trans f165
          clear f166
          have f167 := hv
          clear hk hv hz hf
          refine p_val (v := .bool false) ((wt_of rfl (by kernel_rfl) _ f165).trans rfl) rfl (by simp only [execOp, ev_con, ev_of f167]; simp [go_sem]) (by rw [fz]; decide) ?_
          intro d4 hk hv hz hf
          replace fz := hz.trans fz
          replace fd := hf.trans fd
          replace f2 := (hk 2 (by decide)).trans f2
          replace f3 := (hk 3 (by decide)).trans f3
          replace f4 := (hk 4 (by decide)).trans f4
          replace f24 := (hk 24 (by decide)).trans f24
          replace f165 := (hk 165 (by decide)).trans f165
          clear f167
          have f168 := hv
          clear hk hv hz hf
          refine p_val (v := .bool false) ((wt_of rfl (by kernel_rfl) _ f165).trans rfl) rfl (by simp only [execOp, ev_con, ev_of f168]; simp [go_sem]) (by rw [fz]; decide) ?_
          intro d5 hk hv hz hf
          replace fz := hz.trans fz
          replace fd := hf.trans fd
          replace f2 := (hk 2 (by decide)).trans f2
          replace f3 := (hk 3 (by decide)).trans f3
          replace f4 := (hk 4 (by decide)).trans f4
          replace f24 := (hk 24 (by decide)).trans f24
          replace f165 := (hk 165 (by decide)).trans f165
          clear f168
          have f169 := hv
          clear hk hv hz hf
          refine p_val (v := .int .i64 (n : Int)) ((wt_of rfl (by kernel_rfl) _ f169).trans rfl) rfl (by simp only [execOp, ev_con, ev_of f2]; simp [go_sem]) (by rw [fz]; decide) ?_
          intro d6 hk hv hz hf
          replace fz := hz.trans fz
          replace fd := hf.trans fd
          replace f2 := (hk 2 (by decide)).trans f2
          replace f3 := (hk 3 (by decide)).trans f3
          replace f4 := (hk 4 (by decide)).trans f4
          replace f24 := (hk 24 (by decide)).trans f24
          replace f165 := (hk 165 (by decide)).trans f165
          replace f169 := (hk 169 (by decide)).trans f169
          have f170 := hv
          clear hk hv hz hf
          refine p_val (v := .bool true) ((wt_of rfl (by kernel_rfl) _ f169).trans rfl) rfl (by simp only [execOp, ev_con, ev_of f170]; simp [go_sem, hn1, HN2.out]) (by rw [fz]; decide) ?_
          intro d7 hk hv hz hf
          replace fz := hz.trans fz
          replace fd := hf.trans fd
          replace f2 := (hk 2 (by decide)).trans f2
          replace f3 := (hk 3 (by decide)).trans f3
          replace f4 := (hk 4 (by decide)).trans f4
          replace f24 := (hk 24 (by decide)).trans f24
          replace f165 := (hk 165 (by decide)).trans f165
          replace f169 := (hk 169 (by decide)).trans f169
          clear f170
          have f171 := hv
          clear hk hv hz hf
          refine p_val (v := .bool true) ((wt_of rfl (by kernel_rfl) _ f165).trans rfl) rfl (by simp only [execOp, ev_con, ev_of f169, ev_of f171]; simp [go_sem]) (by rw [fz]; decide) ?_
          intro d8 hk hv hz hf
          replace fz := hz.trans fz
          replace fd := hf.trans fd
          replace f2 := (hk 2 (by decide)).trans f2
          replace f3 := (hk 3 (by decide)).trans f3
          replace f4 := (hk 4 (by decide)).trans f4
          replace f24 := (hk 24 (by decide)).trans f24
          replace f165 := (hk 165 (by decide)).trans f165
          clear f169 f171
          have f172 := hv
          clear hk hv hz hf
          refine p_val (v := .bool true) ((wt_of rfl (by kernel_rfl) _ f165).trans rfl) rfl (by simp only [execOp, ev_con, ev_of f172]; simp [go_sem]) (by rw [fz]; decide) ?_
          intro d9 hk hv hz hf
          replace fz := hz.trans fz
          replace fd := hf.trans fd
          replace f2 := (hk 2 (by decide)).trans f2
          replace f3 := (hk 3 (by decide)).trans f3
          replace f4 := (hk 4 (by decide)).trans f4
          replace f24 := (hk 24 (by decide)).trans f24
          replace f165 := (hk 165 (by decide)).trans f165
          clear f172
          have f173 := hv
          clear hk hv hz hf
          refine p_not ((wt_of rfl (by kernel_rfl) _ f173).trans rfl) rfl (by rw [fz]; decide) ?_
          intro d10 hk hv hz hf
          replace fz := hz.trans fz
          replace fd := hf.trans fd
          replace f2 := (hk 2 (by decide)).trans f2
          replace f4 := (hk 4 (by decide)).trans f4
          replace f24 := (hk 24 (by decide)).trans f24
          replace f165 := (hk 165 (by decide)).trans f165
          replace f173 := (hk 173 (by decide)).trans f173
          clear f3
          have f174 := hv
          clear hk hv hz hf
          refine p_not ((wt_of rfl (by kernel_rfl) _ f173).trans rfl) rfl (by rw [fz]; decide) ?_
          intro d11 hk hv hz hf
          replace fz := hz.trans fz
          replace fd := hf.trans fd
          replace f2 := (hk 2 (by decide)).trans f2
          replace f4 := (hk 4 (by decide)).trans f4
          replace f24 := (hk 24 (by decide)).trans f24
          replace f165 := (hk 165 (by decide)).trans f165
          replace f173 := (hk 173 (by decide)).trans f173
          replace f174 := (hk 174 (by decide)).trans f174
          have f175 := hv
          clear hk hv hz hf
          refine p_not ((wt_of rfl (by kernel_rfl) _ f173).trans rfl) rfl (by rw [fz]; decide) ?_
          intro d12 hk hv hz hf
          replace fz := hz.trans fz
          replace fd := hf.trans fd
          replace f2 := (hk 2 (by decide)).trans f2
          replace f4 := (hk 4 (by decide)).trans f4
          replace f24 := (hk 24 (by decide)).trans f24
          replace f165 := (hk 165 (by decide)).trans f165
          replace f173 := (hk 173 (by decide)).trans f173
          replace f174 := (hk 174 (by decide)).trans f174
          clear f175
          have f176 := hv
          clear hk hv hz hf
          refine p_not ((wt_of rfl (by kernel_rfl) _ f173).trans rfl) rfl (by rw [fz]; decide) ?_
          intro d13 hk hv hz hf
          replace fz := hz.trans fz
          replace fd := hf.trans fd
          replace f2 := (hk 2 (by decide)).trans f2
          replace f4 := (hk 4 (by decide)).trans f4
          replace f24 := (hk 24 (by decide)).trans f24
          replace f165 := (hk 165 (by decide)).trans f165
          replace f173 := (hk 173 (by decide)).trans f173
          clear f174 f176
          have f177 := hv
          clear hk hv hz hf
          refine p_val (v := .bool true) ((wt_of rfl (by kernel_rfl) _ f165).trans rfl) rfl (by simp only [execOp, ev_con, ev_of f173, ev_of f177]; simp [go_sem]) (by rw [fz]; decide) ?_
          intro d14 hk hv hz hf
          replace fz := hz.trans fz
          replace fd := hf.trans fd
          replace f2 := (hk 2 (by decide)).trans f2
          replace f4 := (hk 4 (by decide)).trans f4
          replace f24 := (hk 24 (by decide)).trans f24
          replace f165 := (hk 165 (by decide)).trans f165
          clear f173 f177
          have f178 := hv
          clear hk hv hz hf
          refine p_val (v := .bool true) ((wt_of rfl (by kernel_rfl) _ f165).trans rfl) rfl (by simp only [execOp, ev_con, ev_of f178]; simp [go_sem]) (by rw [fz]; decide) ?_
          intro d15 hk hv hz hf
          replace fz := hz.trans fz
          replace fd := hf.trans fd
          replace f2 := (hk 2 (by decide)).trans f2
          replace f4 := (hk 4 (by decide)).trans f4
          replace f24 := (hk 24 (by decide)).trans f24
          replace f165 := (hk 165 (by decide)).trans f165
          clear f178
          have f179 := hv
          clear hk hv hz hf
          refine p_not ((wt_of rfl (by kernel_rfl) _ f179).trans rfl) rfl (by rw [fz]; decide) ?_
          intro d16 hk hv hz hf
          replace fz := hz.trans fz
          replace fd := hf.trans fd
          replace f2 := (hk 2 (by decide)).trans f2
          replace f4 := (hk 4 (by decide)).trans f4
          replace f165 := (hk 165 (by decide)).trans f165
          replace f179 := (hk 179 (by decide)).trans f179
          clear f24
          have f180 := hv
          clear hk hv hz hf
          refine p_not ((wt_of rfl (by kernel_rfl) _ f179).trans rfl) rfl (by rw [fz]; decide) ?_
          intro d17 hk hv hz hf
          replace fz := hz.trans fz
          replace fd := hf.trans fd
          replace f2 := (hk 2 (by decide)).trans f2
          replace f165 := (hk 165 (by decide)).trans f165
          replace f179 := (hk 179 (by decide)).trans f179
          replace f180 := (hk 180 (by decide)).trans f180
          clear f4
          have f181 := hv
          clear hk hv hz hf
          refine p_not ((wt_of rfl (by kernel_rfl) _ f179).trans rfl) rfl (by rw [fz]; decide) ?_
          intro d18 hk hv hz hf
          replace fz := hz.trans fz
          replace fd := hf.trans fd
          replace f165 := (hk 165 (by decide)).trans f165
          replace f179 := (hk 179 (by decide)).trans f179
          replace f180 := (hk 180 (by decide)).trans f180
          replace f181 := (hk 181 (by decide)).trans f181
          clear f2
          have f182 := hv
          clear hk hv hz hf
          refine p_not ((wt_of rfl (by kernel_rfl) _ f179).trans rfl) rfl (by rw [fz]; decide) ?_
          intro d19 hk hv hz hf
          replace fz := hz.trans fz
          replace fd := hf.trans fd
          replace f165 := (hk 165 (by decide)).trans f165
          replace f179 := (hk 179 (by decide)).trans f179
          replace f180 := (hk 180 (by decide)).trans f180
          replace f181 := (hk 181 (by decide)).trans f181
          clear f182
          have f183 := hv
          clear hk hv hz hf
          refine p_not ((wt_of rfl (by kernel_rfl) _ f179).trans rfl) rfl (by rw [fz]; decide) ?_
          intro d20 hk hv hz hf
          replace fz := hz.trans fz
          replace fd := hf.trans fd
          replace f165 := (hk 165 (by decide)).trans f165
          replace f179 := (hk 179 (by decide)).trans f179
          replace f180 := (hk 180 (by decide)).trans f180
          clear f181 f183
          have f184 := hv
          clear hk hv hz hf
          refine p_not ((wt_of rfl (by kernel_rfl) _ f179).trans rfl) rfl (by rw [fz]; decide) ?_
          intro d21 hk hv hz hf
          replace fz := hz.trans fz
          replace fd := hf.trans fd
          replace f165 := (hk 165 (by decide)).trans f165
          replace f179 := (hk 179 (by decide)).trans f179
          clear f180 f184
          have f185 := hv
          clear hk hv hz hf
          refine p_val (v := .bool true) ((wt_of rfl (by kernel_rfl) _ f165).trans rfl) rfl (by simp only [execOp, ev_con, ev_of f179, ev_of f185]; simp [go_sem]) (by rw [fz]; decide) ?_
          intro d22 hk hv hz hf
          replace fz := hz.trans fz
          replace fd := hf.trans fd
          replace f165 := (hk 165 (by decide)).trans f165
          clear f179 f185
          have f186 := hv
          clear hk hv hz hf
          refine p_val (v := .bool true) rfl rfl (by simp only [execOp, ev_con, ev_of f165, ev_of f186]; simp [go_sem]) (by rw [fz]; decide) ?_
          intro d23 hk hv hz hf
          replace fz := hz.trans fz
          replace fd := hf.trans fd
          clear f165 f186
          have f187 := hv
          clear hk hv hz hf
          refine p_val (v := .bool true) rfl rfl (by simp only [execOp, ev_con, ev_of f187]; simp [go_sem]) (by rw [fz]; decide) ?_
          intro d24 hk hv hz hf
          replace fz := hz.trans fz
          replace fd := hf.trans fd
          clear f187
          have f10 := hv
          clear hk hv hz hf
          go_step
          go_step
          go_step
          go_step
          exact bodyPost_ret (ret_t rfl f10) fd ⟨rfl, hM.below⟩
  
      · have j2i : (I : Int) + (n : Int) ≤ (l0.length : Int) := by omega
        generalize hn0 : l0.length = n0 at *
        go_enter Tryd.func3, Tryd.ntmps3
        repeat' (first | (go_big_may; first | (refine v_box rfl rfl rfl ?_; intro u zd hN; replace hM := Mm.new (L := []) hM hN; clear hN)) | go_values | go_skip | go_guarded | go_step | go_upon | (simp only [Int.not_lt, Int.not_le] at *; go_simp))
        refine (HL.out _).mono ?_
        rintro e y ⟨rfl, hb⟩
        replace hM := hM.call hb
        clear hb
        repeat' (first | (go_big_may; first | (refine v_get rfl rfl (by first | exact lod_int | exact lod_str | exact lod_fcs | exact lod_err | exact lod_bool | exact lod_txs) rfl hM.at0 rfl ?_) | (refine v_bsn rfl rfl (bs_ten (I : Int) (n : Int)) ?hbv ?_; (case hbv => simp [Act.eval, Act.put]); intro u zb hN; replace hM := hM.new hN; clear hN) | (refine v_cnv rfl rfl rfl hM.at0 rfl ?_; rw [h10]) | (refine v_build rfl rfl (bld_wy a3 K) ?hbv ?_; (case hbv => simp [Act.eval, Act.put]))) | go_values | go_skip | go_guarded | go_step | go_upon | (simp only [Int.not_lt, Int.not_le] at *; go_simp))
        refine (H1.out _).mono ?_
        rintro e y ⟨rfl, hb⟩
        replace hM := hM.call hb
        clear hb H1
        repeat' (first | (go_big_may; first | (refine v_load rfl rfl row_disk rfl hM.at1 (Nat.le_refl _) (cut_all rfl) ?_)) | go_values | go_skip | go_guarded | go_step | go_upon | (simp only [Int.not_lt, Int.not_le] at *; go_simp))
        refine (H2.out _ (hC0.call hM.below).out).mono ?_
        rintro e y3 ⟨ya, yc, rfl, hr, hb⟩
        replace hM := hM.call hb
        have hR := rtp hr
        clear hb hr H2
        repeat' (first | (go_big_may; first | (refine v_alloc rfl zer_disk rfl ?_; intro u za hN; replace hR := hR.call hN.below; replace hM := hM.new hN; clear hN) | (refine v_fill rfl rfl row_disk rfl rfl hM.at0 (dkl_vs (v := .slice ya n0 yc) S rfl) rfl ?_; intro u hv hc; replace hR := rtp (rtz_chg hR.out hM.at0 (fun x q => by cases q) hc); replace hM := hM.put0 hc hv; clear hv hc)) | go_values | go_skip | go_guarded | go_step | go_upon | (simp only [Int.not_lt, Int.not_le] at *; go_simp))
        refine (H3.out _).mono ?_
        rintro e y ⟨rfl, hb⟩
        replace hM := hM.call hb
        replace hR := hR.call hb
        clear hb H3
        repeat' (first | (go_big_may; first | (refine v_alloc rfl zer_status rfl ?_; intro u zs hN; replace hR := hR.call hN.below; replace hM := hM.new hN; clear hN) | (refine v_fill rfl rfl row_status rfl rfl hM.at0 (spl_vs ⟨ztag, res, 0⟩) rfl ?_; intro u hv hc; replace hR := rtp (rtz_box hR.out hM.at0 (spl_ns _) hc); replace hM := hM.put0 hc hv; clear hv hc) | (refine v_get rfl rfl (by first | exact lod_int | exact lod_str | exact lod_fcs | exact lod_err | exact lod_bool | exact lod_txs) rfl hM.at3 rfl ?_) | (at_builtin; refine Stop.out ?_)) | go_values | go_skip | go_guarded | go_step | go_upon | (simp only [Int.not_lt, Int.not_le] at *; go_simp))
        refine ⟨?_⟩
        obtain ⟨U, hU⟩ : ∃ U, u.heap.size = U := ⟨_, rfl⟩
        have HUW : Hid (w.heap.size ≤ U) := by rw [← hU]; exact hM.below.size
        have HMM : Hid (∀ W, Below U u W → Mm w W [(zs, 36, spl ⟨ztag, res, 0⟩), (za, 24, dkl (.slice ya n0 yc) S), (zb, 5, (ten (I : Int) (n : Int)).map (Value.int .u8)), (zd, 24, dkl (.slice xa n0 xc) s0)]) := fun W h => hM.call (by rw [hU]; exact h)
        have HRR : Hid (∀ W, Below U u W → Rts W (.slice ya n0 yc) N) := fun W h => (hR.call (by rw [hU]; exact h)).out
        refine wpList_txt _ rfl _ _ rfl U _ [] rfl (Txs.nil _ _) _ l0 rfl (hC0.call hM.below).out (by simp; omega) (Nat.le_of_eq hU.symm) ?_
        intro v1 y5 q1 q2
        rw [List.nil_append] at q1
        obtain ⟨g, cp, rfl⟩ := txs_some q1 (by omega)
        have HT : Hid (Txs y5 U (.slice (some ⟨g, 0, none⟩) n0 cp) l0 ∧ Below U u y5) := ⟨by rw [hn0] at q1; exact q1, q2⟩
        rw [hn0]
        clear q1 q2 hM hR hC0 hU
        go_upto_region 12 with (fail)
        go_cut [119] from 97 to 119 (fun cv wx => cv = .bool false ∧ Hid (Txs wx U (.slice (some ⟨g, 0, none⟩) n0 cp) l0 ∧ Below U u wx))
        case first =>
          have hM := HMM.out _ HT.out.2
          go_step
          try simp only [List.append_eq, List.cons_append, List.nil_append]
          refine wpl_abs fun a0 ha0 => ?_
          have fz : a0.tmps.size = 188 := by rw [ha0]; rfl
          have fd : a0.defers = [] := by rw [ha0]
          have fr : ∀ k, (k < 97 ∨ 120 ≤ k) → a0.tmps[k]? = a0.tmps[k]? := fun _ _ => rfl
          have f1 : a0.tmps[1]? = some (.int .i64 (I : Int)) := by rw [ha0]; rfl
          have f2 : a0.tmps[2]? = some (.int .i64 (n : Int)) := by rw [ha0]; rfl
          have f3 : a0.tmps[3]? = some (.int .i64 a3) := by rw [ha0]; rfl
          have f4 : a0.tmps[4]? = some (.string t) := by rw [ha0]; rfl
          have f17 : a0.tmps[17]? = some (.pointer (some ⟨zs, 0, none⟩)) := by rw [ha0]; rfl
          have f19 : a0.tmps[19]? = some (.slice (some ⟨g, 0, none⟩) n0 cp) := by rw [ha0]; rfl
          refine p_val (v := .pointer (some ⟨zs, 2, none⟩)) rfl rfl (x_fld (r := 2) rfl f17 (fun w => by kernel_rfl)) (by rw [fz]; decide) ?_
          intro b1 hk hv hz hf
          replace fz := hz.trans fz
          replace fd := hf.trans fd
          replace fr := fun k hq => (hk k (by omega)).trans (fr k hq)
          replace f1 := (hk 1 (by decide)).trans f1
          replace f2 := (hk 2 (by decide)).trans f2
          replace f3 := (hk 3 (by decide)).trans f3
          replace f4 := (hk 4 (by decide)).trans f4
          replace f19 := (hk 19 (by decide)).trans f19
          clear f17
          have f97 := hv
          clear hk hv hz hf
          refine p_val (v := .int .i64 0) rfl rfl (p_get (v := .int .i64 0) rfl f97 hM.at0 rfl) (by rw [fz]; decide) ?_
          intro b2 hk hv hz hf
          replace fz := hz.trans fz
          replace fd := hf.trans fd
          replace fr := fun k hq => (hk k (by omega)).trans (fr k hq)
          replace f1 := (hk 1 (by decide)).trans f1
          replace f2 := (hk 2 (by decide)).trans f2
          replace f3 := (hk 3 (by decide)).trans f3
          replace f4 := (hk 4 (by decide)).trans f4
          replace f19 := (hk 19 (by decide)).trans f19
          clear f97
          have f98 := hv
          clear hk hv hz hf
          refine p_val (v := .bool true) rfl rfl (by simp only [execOp, ev_con, ev_of f98]; simp [go_sem]) (by rw [fz]; decide) ?_
          intro b3 hk hv hz hf
          replace fz := hz.trans fz
          replace fd := hf.trans fd
          replace fr := fun k hq => (hk k (by omega)).trans (fr k hq)
          replace f1 := (hk 1 (by decide)).trans f1
          replace f2 := (hk 2 (by decide)).trans f2
          replace f3 := (hk 3 (by decide)).trans f3
          replace f4 := (hk 4 (by decide)).trans f4
          replace f19 := (hk 19 (by decide)).trans f19
          clear f98
          have f99 := hv
          clear hk hv hz hf
          refine p_val (v := .bool true) rfl rfl (by simp only [execOp, ev_con, ev_of f99]; simp [go_sem]) (by rw [fz]; decide) ?_
          intro b4 hk hv hz hf
          replace fz := hz.trans fz
          replace fd := hf.trans fd
          replace fr := fun k hq => (hk k (by omega)).trans (fr k hq)
          replace f1 := (hk 1 (by decide)).trans f1
          replace f2 := (hk 2 (by decide)).trans f2
          replace f3 := (hk 3 (by decide)).trans f3
          replace f4 := (hk 4 (by decide)).trans f4
          replace f19 := (hk 19 (by decide)).trans f19
          clear f99
          have f100 := hv
          clear hk hv hz hf
          refine p_val (v := .int .i64 a3) ((wt_of rfl (by kernel_rfl) _ f100).trans rfl) rfl (by simp only [execOp, ev_con, ev_of f3]; simp [go_sem]) (by rw [fz]; decide) ?_
          intro b5 hk hv hz hf
          replace fz := hz.trans fz
          replace fd := hf.trans fd
          replace fr := fun k hq => (hk k (by omega)).trans (fr k hq)
          replace f1 := (hk 1 (by decide)).trans f1
          replace f2 := (hk 2 (by decide)).trans f2
          replace f3 := (hk 3 (by decide)).trans f3
          replace f4 := (hk 4 (by decide)).trans f4
          replace f19 := (hk 19 (by decide)).trans f19
          replace f100 := (hk 100 (by decide)).trans f100
          have f101 := hv
          clear hk hv hz hf
          refine p_val (v := .int .i64 (n : Int)) ((wt_of rfl (by kernel_rfl) _ f100).trans rfl) rfl (by simp only [execOp, ev_con, ev_of f2]; simp [go_sem]) (by rw [fz]; decide) ?_
          intro b6 hk hv hz hf
          replace fz := hz.trans fz
          replace fd := hf.trans fd
          replace fr := fun k hq => (hk k (by omega)).trans (fr k hq)
          replace f1 := (hk 1 (by decide)).trans f1
          replace f2 := (hk 2 (by decide)).trans f2
          replace f3 := (hk 3 (by decide)).trans f3
          replace f4 := (hk 4 (by decide)).trans f4
          replace f19 := (hk 19 (by decide)).trans f19
          replace f100 := (hk 100 (by decide)).trans f100
          replace f101 := (hk 101 (by decide)).trans f101
          have f102 := hv
          clear hk hv hz hf
          refine p_val (v := .int .i64 (p : Int)) ((wt_of rfl (by kernel_rfl) _ f100).trans rfl) rfl (by simp only [execOp, ev_con, ev_of f102]; simp [go_sem, jm]) (by rw [fz]; decide) ?_
          intro b7 hk hv hz hf
          replace fz := hz.trans fz
          replace fd := hf.trans fd
          replace fr := fun k hq => (hk k (by omega)).trans (fr k hq)
          replace f1 := (hk 1 (by decide)).trans f1
          replace f2 := (hk 2 (by decide)).trans f2
          replace f3 := (hk 3 (by decide)).trans f3
          replace f4 := (hk 4 (by decide)).trans f4
          replace f19 := (hk 19 (by decide)).trans f19
          replace f100 := (hk 100 (by decide)).trans f100
          replace f101 := (hk 101 (by decide)).trans f101
          clear f102
          have f103 := hv
          clear hk hv hz hf
          refine p_val (v := .bool true) ((wt_of rfl (by kernel_rfl) _ f100).trans rfl) rfl (by simp only [execOp, ev_con, ev_of f101, ev_of f103]; simp [go_sem, j1]) (by rw [fz]; decide) ?_
          intro b8 hk hv hz hf
          replace fz := hz.trans fz
          replace fd := hf.trans fd
          replace fr := fun k hq => (hk k (by omega)).trans (fr k hq)
          replace f1 := (hk 1 (by decide)).trans f1
          replace f2 := (hk 2 (by decide)).trans f2
          replace f3 := (hk 3 (by decide)).trans f3
          replace f4 := (hk 4 (by decide)).trans f4
          replace f19 := (hk 19 (by decide)).trans f19
          replace f100 := (hk 100 (by decide)).trans f100
          clear f101 f103
          have f104 := hv
          clear hk hv hz hf
          refine p_val (v := .bool true) rfl rfl (by simp only [execOp, ev_con, ev_of f100, ev_of f104]; simp [go_sem]) (by rw [fz]; decide) ?_
          intro b9 hk hv hz hf
          replace fz := hz.trans fz
          replace fd := hf.trans fd
          replace fr := fun k hq => (hk k (by omega)).trans (fr k hq)
          replace f1 := (hk 1 (by decide)).trans f1
          replace f2 := (hk 2 (by decide)).trans f2
          replace f3 := (hk 3 (by decide)).trans f3
          replace f4 := (hk 4 (by decide)).trans f4
          replace f19 := (hk 19 (by decide)).trans f19
          clear f100 f104
          have f105 := hv
          clear hk hv hz hf
          refine p_val (v := .bool true) rfl rfl (by simp only [execOp, ev_con, ev_of f105]; simp [go_sem]) (by rw [fz]; decide) ?_
          intro b10 hk hv hz hf
          replace fz := hz.trans fz
          replace fd := hf.trans fd
          replace fr := fun k hq => (hk k (by omega)).trans (fr k hq)
          replace f1 := (hk 1 (by decide)).trans f1
          replace f2 := (hk 2 (by decide)).trans f2
          replace f3 := (hk 3 (by decide)).trans f3
          replace f4 := (hk 4 (by decide)).trans f4
          replace f19 := (hk 19 (by decide)).trans f19
          clear f105
          have f106 := hv
          clear hk hv hz hf
          refine p_val (v := .int .i64 (I : Int)) ((wt_of rfl (by kernel_rfl) _ f106).trans rfl) rfl (by simp only [execOp, ev_con, ev_of f1]; simp [go_sem]) (by rw [fz]; decide) ?_
          intro b11 hk hv hz hf
          replace fz := hz.trans fz
          replace fd := hf.trans fd
          replace fr := fun k hq => (hk k (by omega)).trans (fr k hq)
          replace f2 := (hk 2 (by decide)).trans f2
          replace f3 := (hk 3 (by decide)).trans f3
          replace f4 := (hk 4 (by decide)).trans f4
          replace f19 := (hk 19 (by decide)).trans f19
          replace f106 := (hk 106 (by decide)).trans f106
          clear f1
          have f107 := hv
          clear hk hv hz hf
          refine p_val (v := .int .i64 (n : Int)) ((wt_of rfl (by kernel_rfl) _ f106).trans rfl) rfl (by simp only [execOp, ev_con, ev_of f2]; simp [go_sem]) (by rw [fz]; decide) ?_
          intro b12 hk hv hz hf
          replace fz := hz.trans fz
          replace fd := hf.trans fd
          replace fr := fun k hq => (hk k (by omega)).trans (fr k hq)
          replace f3 := (hk 3 (by decide)).trans f3
          replace f4 := (hk 4 (by decide)).trans f4
          replace f19 := (hk 19 (by decide)).trans f19
          replace f106 := (hk 106 (by decide)).trans f106
          replace f107 := (hk 107 (by decide)).trans f107
          clear f2
          have f108 := hv
          clear hk hv hz hf
          refine p_val (v := .int .i64 ((I : Int) + (n : Int))) ((wt_of rfl (by kernel_rfl) _ f106).trans rfl) rfl (by simp only [execOp, ev_con, ev_of f107, ev_of f108]; simp [go_sem, jw]) (by rw [fz]; decide) ?_
          intro b13 hk hv hz hf
          replace fz := hz.trans fz
          replace fd := hf.trans fd
          replace fr := fun k hq => (hk k (by omega)).trans (fr k hq)
          replace f3 := (hk 3 (by decide)).trans f3
          replace f4 := (hk 4 (by decide)).trans f4
          replace f19 := (hk 19 (by decide)).trans f19
          replace f106 := (hk 106 (by decide)).trans f106
          clear f107 f108
          have f109 := hv
          clear hk hv hz hf
          refine p_val (v := .slice (some ⟨g, 0, none⟩) n0 cp) ((wt_of rfl (by kernel_rfl) _ f106).trans rfl) rfl (by simp only [execOp, ev_con, ev_of f19]; simp [go_sem]) (by rw [fz]; decide) ?_
          intro b14 hk hv hz hf
          replace fz := hz.trans fz
          replace fd := hf.trans fd
          replace fr := fun k hq => (hk k (by omega)).trans (fr k hq)
          replace f3 := (hk 3 (by decide)).trans f3
          replace f4 := (hk 4 (by decide)).trans f4
          replace f106 := (hk 106 (by decide)).trans f106
          replace f109 := (hk 109 (by decide)).trans f109
          clear f19
          have f110 := hv
          clear hk hv hz hf
          refine p_val (v := .int .i64 (n0 : Int)) ((wt_of rfl (by kernel_rfl) _ f106).trans rfl) rfl (by simp only [execOp, ev_con, ev_of f110]; simp [go_sem, f110]) (by rw [fz]; decide) ?_
          intro b15 hk hv hz hf
          replace fz := hz.trans fz
          replace fd := hf.trans fd
          replace fr := fun k hq => (hk k (by omega)).trans (fr k hq)
          replace f3 := (hk 3 (by decide)).trans f3
          replace f4 := (hk 4 (by decide)).trans f4
          replace f106 := (hk 106 (by decide)).trans f106
          replace f109 := (hk 109 (by decide)).trans f109
          clear f110
          have f111 := hv
          clear hk hv hz hf
          refine p_val (v := .bool true) ((wt_of rfl (by kernel_rfl) _ f106).trans rfl) rfl (by simp only [execOp, ev_con, ev_of f109, ev_of f111]; simp [go_sem, j2i, j2]) (by rw [fz]; decide) ?_
          intro b16 hk hv hz hf
          replace fz := hz.trans fz
          replace fd := hf.trans fd
          replace fr := fun k hq => (hk k (by omega)).trans (fr k hq)
          replace f3 := (hk 3 (by decide)).trans f3
          replace f4 := (hk 4 (by decide)).trans f4
          replace f106 := (hk 106 (by decide)).trans f106
          clear f109 f111
          have f112 := hv
          clear hk hv hz hf
          refine p_val (v := .bool true) rfl rfl (by simp only [execOp, ev_con, ev_of f106, ev_of f112]; simp [go_sem]) (by rw [fz]; decide) ?_
          intro b17 hk hv hz hf
          replace fz := hz.trans fz
          replace fd := hf.trans fd
          replace fr := fun k hq => (hk k (by omega)).trans (fr k hq)
          replace f3 := (hk 3 (by decide)).trans f3
          replace f4 := (hk 4 (by decide)).trans f4
          clear f106 f112
          have f113 := hv
          clear hk hv hz hf
          refine p_val (v := .bool true) rfl rfl (by simp only [execOp, ev_con, ev_of f113]; simp [go_sem]) (by rw [fz]; decide) ?_
          intro b18 hk hv hz hf
          replace fz := hz.trans fz
          replace fd := hf.trans fd
          replace fr := fun k hq => (hk k (by omega)).trans (fr k hq)
          replace f3 := (hk 3 (by decide)).trans f3
          replace f4 := (hk 4 (by decide)).trans f4
          clear f113
          have f114 := hv
          clear hk hv hz hf
          refine p_val (v := .string t) ((wt_of rfl (by kernel_rfl) _ f114).trans rfl) rfl (by simp only [execOp, ev_con, ev_of f4]; simp [go_sem]) (by rw [fz]; decide) ?_
          intro b19 hk hv hz hf
          replace fz := hz.trans fz
          replace fd := hf.trans fd
          replace fr := fun k hq => (hk k (by omega)).trans (fr k hq)
          replace f3 := (hk 3 (by decide)).trans f3
          replace f114 := (hk 114 (by decide)).trans f114
          clear f4
          have f115 := hv
          clear hk hv hz hf
          refine p_val (v := .int .i64 (t.size : Int)) ((wt_of rfl (by kernel_rfl) _ f114).trans rfl) rfl (by simp only [execOp, ev_con, ev_of f115]; simp [go_sem, f115]) (by rw [fz]; decide) ?_
          intro b20 hk hv hz hf
          replace fz := hz.trans fz
          replace fd := hf.trans fd
          replace fr := fun k hq => (hk k (by omega)).trans (fr k hq)
          replace f3 := (hk 3 (by decide)).trans f3
          replace f114 := (hk 114 (by decide)).trans f114
          clear f115
          have f116 := hv
          clear hk hv hz hf
          refine p_val (v := .int .i64 a3) ((wt_of rfl (by kernel_rfl) _ f114).trans rfl) rfl (by simp only [execOp, ev_con, ev_of f3]; simp [go_sem]) (by rw [fz]; decide) ?_
          intro b21 hk hv hz hf
          replace fz := hz.trans fz
          replace fd := hf.trans fd
          replace fr := fun k hq => (hk k (by omega)).trans (fr k hq)
          replace f114 := (hk 114 (by decide)).trans f114
          replace f116 := (hk 116 (by decide)).trans f116
          clear f3
          have f117 := hv
          clear hk hv hz hf
          refine p_val (v := .bool false) ((wt_of rfl (by kernel_rfl) _ f114).trans rfl) rfl (by simp only [execOp, ev_con, ev_of f116, ev_of f117]; simp [go_sem, j3]) (by rw [fz]; decide) ?_
          intro b22 hk hv hz hf
          replace fz := hz.trans fz
          replace fd := hf.trans fd
          replace fr := fun k hq => (hk k (by omega)).trans (fr k hq)
          replace f114 := (hk 114 (by decide)).trans f114
          clear f116 f117
          have f118 := hv
          clear hk hv hz hf
          refine p_val (v := .bool false) rfl rfl (by simp only [execOp, ev_con, ev_of f114, ev_of f118]; simp [go_sem]) (by rw [fz]; decide) ?_
          intro b23 hk hv hz hf
          replace fz := hz.trans fz
          replace fd := hf.trans fd
          replace fr := fun k hq => (hk k (by omega)).trans (fr k hq)
          clear f114 f118
          have f119 := hv
          clear hk hv hz hf
          have hL : Lay a0 b23 97 23 := ⟨fz.trans (by rw [ha0]; rfl), fd.trans (by rw [ha0]), fun k hq => fr k (by omega)⟩
          have ef := hL.whole (N := 188) ha0 rfl (by decide)
          have e9 : b23.tmps.getD (97 + 22) undef = .bool false := by simp [f119]
          go_step
          rename_i HJ HK
          rw [ef]
          refine HK _ _ (Met.intro (HJ _ _ ?_))
          (repeat apply Exists.intro)
          refine ⟨?rel, rfl⟩
          case rel => exact ⟨e9, HT.out⟩
        case rest =>
        obtain ⟨rfl, HX⟩ := hcut
        rename World => y6
        clear HT
        have HT := HX
        clear HX
        rename World => y7
        have hM := HMM.out _ HT.out.2
        repeat' (first | go_values | go_skip | go_guarded | go_step | go_upon | (simp only [Int.not_lt, Int.not_le] at *; go_simp))
        refine (H4.out _ hM.below).mono ?_
        rintro e y8 ⟨rfl, hb⟩
        replace hM := hM.call hb
        have HT8 : Hid (Txs y8 U (.slice (some ⟨g, 0, none⟩) n0 cp) (l0) ∧ Below U u y8) := ⟨HT.out.1.below hb, HT.out.2.trans (hb.mono (Nat.le_trans (txs_block HT.out.1).1 (Nat.le_of_lt (txs_block HT.out.1).2)))⟩
        clear hb HT H4
        repeat' (first | (go_big_may; first | (refine v_build rfl rfl (bld_ry (p : Int) K2) ?hbv ?_; (case hbv => simp [Act.eval, Act.put]))) | go_values | go_skip | go_guarded | go_step | go_upon | (simp only [Int.not_lt, Int.not_le] at *; go_simp))
        refine (H5.out _).mono ?_
        rintro e y9 ⟨rfl, hb⟩
        replace hM := hM.call hb
        have hT := txp HT8.out.1
        replace hT := hT.call hb
        have hR := rtp (HRR.out _ HT8.out.2)
        replace hR := hR.call hb
        clear hb H5 HT8 HRR HMM
        repeat' (first | (go_big_may; first | (refine v_load rfl rfl row_disk rfl hM.at1 (Nat.le_refl _) (cut_all rfl) ?_)) | go_values | go_skip | go_guarded | go_step | go_upon | (simp only [Int.not_lt, Int.not_le] at *; go_simp))
        refine (H6.out _ _ hR.out).mono ?_
        rintro e y10 ⟨ka, kc, rfl, hb⟩
        replace hM := hM.call hb
        replace hT := hT.call hb
        replace hR := hR.call hb
        clear hb H6
        repeat' (first | (go_big_may; first | (refine v_alloc rfl zer_disk rfl ?_; intro u zk hN; replace hR := hR.call hN.below; replace hT := hT.call hN.below; replace hM := hM.new hN; clear hN) | (refine v_fill rfl rfl row_disk rfl rfl hM.at0 (dkl_vs (v := .slice ka n2 kc) S2 rfl) rfl ?_; intro u hv hc; replace hR := rtp (rtz_chg hR.out hM.at0 (fun x q => by cases q) hc); replace hT := txp (txs_chg hT.out hM.at0 (by decide) hc); replace hM := hM.put0 hc hv; clear hv hc) | (refine v_get rfl rfl (by first | exact lod_int | exact lod_str | exact lod_fcs | exact lod_err | exact lod_bool | exact lod_txs) rfl hM.at2 rfl ?_)) | go_values | go_skip | go_guarded | go_step | go_upon | (simp only [Int.not_lt, Int.not_le] at *; go_simp))
        refine (H7.out _ _ _ hR.out (by rw [hNl0]; exact hT.out.rts)).mono ?_
        rintro e y11 ⟨rfl, hb⟩
        replace hM := hM.call hb
        clear hb H7 hR hT
        dsimp only
        go_step
        try simp only [List.append_eq, List.cons_append, List.nil_append]
        refine wpl_abs fun a0 ha0 => ?_
        have fz : a0.tmps.size = 188 := by rw [ha0]; rfl
        have fd : a0.defers = [] := by rw [ha0]
        have f2 : a0.tmps[2]? = some (.int .i64 (n : Int)) := by rw [ha0]; rfl
        have f3 : a0.tmps[3]? = some (.int .i64 a3) := by rw [ha0]; rfl
        have f4 : a0.tmps[4]? = some (.string t) := by rw [ha0]; rfl
        have f17 : a0.tmps[17]? = some (.pointer (some ⟨zs, 0, none⟩)) := by rw [ha0]; rfl
        have f24 : a0.tmps[24]? = some (.string A2) := by rw [ha0]; rfl
        have f164 : a0.tmps[164]? = some (.bool true) := by rw [ha0]; rfl
        clear ha0
        refine p_val (v := .bool true) rfl rfl (by simp only [execOp, ev_con, ev_of f164]; simp [go_sem]) (by rw [fz]; decide) ?_
        intro d1 hk hv hz hf
        replace fz := hz.trans fz
        replace fd := hf.trans fd
        replace f2 := (hk 2 (by decide)).trans f2
        replace f3 := (hk 3 (by decide)).trans f3
        replace f4 := (hk 4 (by decide)).trans f4
        replace f17 := (hk 17 (by decide)).trans f17
        replace f24 := (hk 24 (by decide)).trans f24
        clear f164
        have f165 := hv
        clear hk hv hz hf
        refine p_val (v := .pointer (some ⟨zs, 2, none⟩)) ((wt_of rfl (by kernel_rfl) _ f165).trans rfl) rfl (x_fld (r := 2) rfl f17 (fun w => by kernel_rfl)) (by rw [fz]; decide) ?_
        intro d2 hk hv hz hf
        replace fz := hz.trans fz
        replace fd := hf.trans fd
        replace f2 := (hk 2 (by decide)).trans f2
        replace f3 := (hk 3 (by decide)).trans f3
        replace f4 := (hk 4 (by decide)).trans f4
        replace f24 := (hk 24 (by decide)).trans f24
        replace f165 := (hk 165 (by decide)).trans f165
        clear f17
        have f166 := hv
        clear hk hv hz hf
        refine p_val (v := .int .i64 0) ((wt_of rfl (by kernel_rfl) _ f165).trans rfl) rfl (p_get (v := .int .i64 0) rfl f166 hM.at1 rfl) (by rw [fz]; decide) ?_
        intro d3 hk hv hz hf
        replace fz := hz.trans fz
        replace fd := hf.trans fd
        replace f2 := (hk 2 (by decide)).trans f2
        replace f3 := (hk 3 (by decide)).trans f3
        replace f4 := (hk 4 (by decide)).trans f4
        replace f24 := (hk 24 (by decide)).trans f24
        replace f165 := (hk 165 (by decide)).trans f165
        clear f166
        have f167 := hv
        clear hk hv hz hf
        refine p_val (v := .bool false) ((wt_of rfl (by kernel_rfl) _ f165).trans rfl) rfl (by simp only [execOp, ev_con, ev_of f167]; simp [go_sem]) (by rw [fz]; decide) ?_
        intro d4 hk hv hz hf
        replace fz := hz.trans fz
        replace fd := hf.trans fd
        replace f2 := (hk 2 (by decide)).trans f2
        replace f3 := (hk 3 (by decide)).trans f3
        replace f4 := (hk 4 (by decide)).trans f4
        replace f24 := (hk 24 (by decide)).trans f24
        replace f165 := (hk 165 (by decide)).trans f165
        clear f167
        have f168 := hv
        clear hk hv hz hf
        refine p_val (v := .bool false) ((wt_of rfl (by kernel_rfl) _ f165).trans rfl) rfl (by simp only [execOp, ev_con, ev_of f168]; simp [go_sem]) (by rw [fz]; decide) ?_
        intro d5 hk hv hz hf
        replace fz := hz.trans fz
        replace fd := hf.trans fd
        replace f2 := (hk 2 (by decide)).trans f2
        replace f3 := (hk 3 (by decide)).trans f3
        replace f4 := (hk 4 (by decide)).trans f4
        replace f24 := (hk 24 (by decide)).trans f24
        replace f165 := (hk 165 (by decide)).trans f165
        clear f168
        have f169 := hv
        clear hk hv hz hf
        refine p_val (v := .int .i64 (n : Int)) ((wt_of rfl (by kernel_rfl) _ f169).trans rfl) rfl (by simp only [execOp, ev_con, ev_of f2]; simp [go_sem]) (by rw [fz]; decide) ?_
        intro d6 hk hv hz hf
        replace fz := hz.trans fz
        replace fd := hf.trans fd
        replace f2 := (hk 2 (by decide)).trans f2
        replace f3 := (hk 3 (by decide)).trans f3
        replace f4 := (hk 4 (by decide)).trans f4
        replace f24 := (hk 24 (by decide)).trans f24
        replace f165 := (hk 165 (by decide)).trans f165
        replace f169 := (hk 169 (by decide)).trans f169
        have f170 := hv
        clear hk hv hz hf
        refine p_val (v := .bool true) ((wt_of rfl (by kernel_rfl) _ f169).trans rfl) rfl (by simp only [execOp, ev_con, ev_of f170]; simp [go_sem, hn1, HN2.out]) (by rw [fz]; decide) ?_
        intro d7 hk hv hz hf
        replace fz := hz.trans fz
        replace fd := hf.trans fd
        replace f2 := (hk 2 (by decide)).trans f2
        replace f3 := (hk 3 (by decide)).trans f3
        replace f4 := (hk 4 (by decide)).trans f4
        replace f24 := (hk 24 (by decide)).trans f24
        replace f165 := (hk 165 (by decide)).trans f165
        replace f169 := (hk 169 (by decide)).trans f169
        clear f170
        have f171 := hv
        clear hk hv hz hf
        refine p_val (v := .bool true) ((wt_of rfl (by kernel_rfl) _ f165).trans rfl) rfl (by simp only [execOp, ev_con, ev_of f169, ev_of f171]; simp [go_sem]) (by rw [fz]; decide) ?_
        intro d8 hk hv hz hf
        replace fz := hz.trans fz
        replace fd := hf.trans fd
        replace f2 := (hk 2 (by decide)).trans f2
        replace f3 := (hk 3 (by decide)).trans f3
        replace f4 := (hk 4 (by decide)).trans f4
        replace f24 := (hk 24 (by decide)).trans f24
        replace f165 := (hk 165 (by decide)).trans f165
        clear f169 f171
        have f172 := hv
        clear hk hv hz hf
        refine p_val (v := .bool true) ((wt_of rfl (by kernel_rfl) _ f165).trans rfl) rfl (by simp only [execOp, ev_con, ev_of f172]; simp [go_sem]) (by rw [fz]; decide) ?_
        intro d9 hk hv hz hf
        replace fz := hz.trans fz
        replace fd := hf.trans fd
        replace f2 := (hk 2 (by decide)).trans f2
        replace f3 := (hk 3 (by decide)).trans f3
        replace f4 := (hk 4 (by decide)).trans f4
        replace f24 := (hk 24 (by decide)).trans f24
        replace f165 := (hk 165 (by decide)).trans f165
        clear f172
        have f173 := hv
        clear hk hv hz hf
        refine p_not ((wt_of rfl (by kernel_rfl) _ f173).trans rfl) rfl (by rw [fz]; decide) ?_
        intro d10 hk hv hz hf
        replace fz := hz.trans fz
        replace fd := hf.trans fd
        replace f2 := (hk 2 (by decide)).trans f2
        replace f4 := (hk 4 (by decide)).trans f4
        replace f24 := (hk 24 (by decide)).trans f24
        replace f165 := (hk 165 (by decide)).trans f165
        replace f173 := (hk 173 (by decide)).trans f173
        clear f3
        have f174 := hv
        clear hk hv hz hf
        refine p_not ((wt_of rfl (by kernel_rfl) _ f173).trans rfl) rfl (by rw [fz]; decide) ?_
        intro d11 hk hv hz hf
        replace fz := hz.trans fz
        replace fd := hf.trans fd
        replace f2 := (hk 2 (by decide)).trans f2
        replace f4 := (hk 4 (by decide)).trans f4
        replace f24 := (hk 24 (by decide)).trans f24
        replace f165 := (hk 165 (by decide)).trans f165
        replace f173 := (hk 173 (by decide)).trans f173
        replace f174 := (hk 174 (by decide)).trans f174
        have f175 := hv
        clear hk hv hz hf
        refine p_not ((wt_of rfl (by kernel_rfl) _ f173).trans rfl) rfl (by rw [fz]; decide) ?_
        intro d12 hk hv hz hf
        replace fz := hz.trans fz
        replace fd := hf.trans fd
        replace f2 := (hk 2 (by decide)).trans f2
        replace f4 := (hk 4 (by decide)).trans f4
        replace f24 := (hk 24 (by decide)).trans f24
        replace f165 := (hk 165 (by decide)).trans f165
        replace f173 := (hk 173 (by decide)).trans f173
        replace f174 := (hk 174 (by decide)).trans f174
        clear f175
        have f176 := hv
        clear hk hv hz hf
        refine p_not ((wt_of rfl (by kernel_rfl) _ f173).trans rfl) rfl (by rw [fz]; decide) ?_
        intro d13 hk hv hz hf
        replace fz := hz.trans fz
        replace fd := hf.trans fd
        replace f2 := (hk 2 (by decide)).trans f2
        replace f4 := (hk 4 (by decide)).trans f4
        replace f24 := (hk 24 (by decide)).trans f24
        replace f165 := (hk 165 (by decide)).trans f165
        replace f173 := (hk 173 (by decide)).trans f173
        clear f174 f176
        have f177 := hv
        clear hk hv hz hf
        refine p_val (v := .bool true) ((wt_of rfl (by kernel_rfl) _ f165).trans rfl) rfl (by simp only [execOp, ev_con, ev_of f173, ev_of f177]; simp [go_sem]) (by rw [fz]; decide) ?_
        intro d14 hk hv hz hf
        replace fz := hz.trans fz
        replace fd := hf.trans fd
        replace f2 := (hk 2 (by decide)).trans f2
        replace f4 := (hk 4 (by decide)).trans f4
        replace f24 := (hk 24 (by decide)).trans f24
        replace f165 := (hk 165 (by decide)).trans f165
        clear f173 f177
        have f178 := hv
        clear hk hv hz hf
        refine p_val (v := .bool true) ((wt_of rfl (by kernel_rfl) _ f165).trans rfl) rfl (by simp only [execOp, ev_con, ev_of f178]; simp [go_sem]) (by rw [fz]; decide) ?_
        intro d15 hk hv hz hf
        replace fz := hz.trans fz
        replace fd := hf.trans fd
        replace f2 := (hk 2 (by decide)).trans f2
        replace f4 := (hk 4 (by decide)).trans f4
        replace f24 := (hk 24 (by decide)).trans f24
        replace f165 := (hk 165 (by decide)).trans f165
        clear f178
        have f179 := hv
        clear hk hv hz hf
        refine p_not ((wt_of rfl (by kernel_rfl) _ f179).trans rfl) rfl (by rw [fz]; decide) ?_
        intro d16 hk hv hz hf
        replace fz := hz.trans fz
        replace fd := hf.trans fd
        replace f2 := (hk 2 (by decide)).trans f2
        replace f4 := (hk 4 (by decide)).trans f4
        replace f165 := (hk 165 (by decide)).trans f165
        replace f179 := (hk 179 (by decide)).trans f179
        clear f24
        have f180 := hv
        clear hk hv hz hf
        refine p_not ((wt_of rfl (by kernel_rfl) _ f179).trans rfl) rfl (by rw [fz]; decide) ?_
        intro d17 hk hv hz hf
        replace fz := hz.trans fz
        replace fd := hf.trans fd
        replace f2 := (hk 2 (by decide)).trans f2
        replace f165 := (hk 165 (by decide)).trans f165
        replace f179 := (hk 179 (by decide)).trans f179
        replace f180 := (hk 180 (by decide)).trans f180
        clear f4
        have f181 := hv
        clear hk hv hz hf
        refine p_not ((wt_of rfl (by kernel_rfl) _ f179).trans rfl) rfl (by rw [fz]; decide) ?_
        intro d18 hk hv hz hf
        replace fz := hz.trans fz
        replace fd := hf.trans fd
        replace f165 := (hk 165 (by decide)).trans f165
        replace f179 := (hk 179 (by decide)).trans f179
        replace f180 := (hk 180 (by decide)).trans f180
        replace f181 := (hk 181 (by decide)).trans f181
        clear f2
        have f182 := hv
        clear hk hv hz hf
        refine p_not ((wt_of rfl (by kernel_rfl) _ f179).trans rfl) rfl (by rw [fz]; decide) ?_
        intro d19 hk hv hz hf
        replace fz := hz.trans fz
        replace fd := hf.trans fd
        replace f165 := (hk 165 (by decide)).trans f165
        replace f179 := (hk 179 (by decide)).trans f179
        replace f180 := (hk 180 (by decide)).trans f180
        replace f181 := (hk 181 (by decide)).trans f181
        clear f182
        have f183 := hv
        clear hk hv hz hf
        refine p_not ((wt_of rfl (by kernel_rfl) _ f179).trans rfl) rfl (by rw [fz]; decide) ?_
        intro d20 hk hv hz hf
        replace fz := hz.trans fz
        replace fd := hf.trans fd
        replace f165 := (hk 165 (by decide)).trans f165
        replace f179 := (hk 179 (by decide)).trans f179
        replace f180 := (hk 180 (by decide)).trans f180
        clear f181 f183
        have f184 := hv
        clear hk hv hz hf
        refine p_not ((wt_of rfl (by kernel_rfl) _ f179).trans rfl) rfl (by rw [fz]; decide) ?_
        intro d21 hk hv hz hf
        replace fz := hz.trans fz
        replace fd := hf.trans fd
        replace f165 := (hk 165 (by decide)).trans f165
        replace f179 := (hk 179 (by decide)).trans f179
        clear f180 f184
        have f185 := hv
        clear hk hv hz hf
        refine p_val (v := .bool true) ((wt_of rfl (by kernel_rfl) _ f165).trans rfl) rfl (by simp only [execOp, ev_con, ev_of f179, ev_of f185]; simp [go_sem]) (by rw [fz]; decide) ?_
        intro d22 hk hv hz hf
        replace fz := hz.trans fz
        replace fd := hf.trans fd
        replace f165 := (hk 165 (by decide)).trans f165
        clear f179 f185
        have f186 := hv
        clear hk hv hz hf
        refine p_val (v := .bool true) rfl rfl (by simp only [execOp, ev_con, ev_of f165, ev_of f186]; simp [go_sem]) (by rw [fz]; decide) ?_
        intro d23 hk hv hz hf
        replace fz := hz.trans fz
        replace fd := hf.trans fd
        clear f165 f186
        have f187 := hv
        clear hk hv hz hf
        refine p_val (v := .bool true) rfl rfl (by simp only [execOp, ev_con, ev_of f187]; simp [go_sem]) (by rw [fz]; decide) ?_
        intro d24 hk hv hz hf
        replace fz := hz.trans fz
        replace fd := hf.trans fd
        clear f187
        have f10 := hv
        clear hk hv hz hf
        go_step
        go_step
        go_step
        go_step
        exact bodyPost_ret (ret_t rfl f10) fd ⟨rfl, hM.below⟩
    · have j2i : ¬ (I : Int) + (n : Int) ≤ (l0.length : Int) := by omega
      generalize hn0 : l0.length = n0 at *
      go_enter Tryd.func3, Tryd.ntmps3
      repeat' (first | (go_big_may; first | (refine v_box rfl rfl rfl ?_; intro u zd hN; replace hM := Mm.new (L := []) hM hN; clear hN)) | go_values | go_skip | go_guarded | go_step | go_upon | (simp only [Int.not_lt, Int.not_le] at *; go_simp))
      refine (HL.out _).mono ?_
      rintro e y ⟨rfl, hb⟩
      replace hM := hM.call hb
      clear hb
      repeat' (first | (go_big_may; first | (refine v_get rfl rfl (by first | exact lod_int | exact lod_str | exact lod_fcs | exact lod_err | exact lod_bool | exact lod_txs) rfl hM.at0 rfl ?_) | (refine v_bsn rfl rfl (bs_ten (I : Int) (n : Int)) ?hbv ?_; (case hbv => simp [Act.eval, Act.put]); intro u zb hN; replace hM := hM.new hN; clear hN) | (refine v_cnv rfl rfl rfl hM.at0 rfl ?_; rw [h10]) | (refine v_build rfl rfl (bld_wy a3 K) ?hbv ?_; (case hbv => simp [Act.eval, Act.put]))) | go_values | go_skip | go_guarded | go_step | go_upon | (simp only [Int.not_lt, Int.not_le] at *; go_simp))
      refine (H1.out _).mono ?_
      rintro e y ⟨rfl, hb⟩
      replace hM := hM.call hb
      clear hb H1
      repeat' (first | (go_big_may; first | (refine v_load rfl rfl row_disk rfl hM.at1 (Nat.le_refl _) (cut_all rfl) ?_)) | go_values | go_skip | go_guarded | go_step | go_upon | (simp only [Int.not_lt, Int.not_le] at *; go_simp))
      refine (H2.out _ (hC0.call hM.below).out).mono ?_
      rintro e y3 ⟨ya, yc, rfl, hr, hb⟩
      replace hM := hM.call hb
      have hR := rtp hr
      clear hb hr H2
      repeat' (first | (go_big_may; first | (refine v_alloc rfl zer_disk rfl ?_; intro u za hN; replace hR := hR.call hN.below; replace hM := hM.new hN; clear hN) | (refine v_fill rfl rfl row_disk rfl rfl hM.at0 (dkl_vs (v := .slice ya n0 yc) S rfl) rfl ?_; intro u hv hc; replace hR := rtp (rtz_chg hR.out hM.at0 (fun x q => by cases q) hc); replace hM := hM.put0 hc hv; clear hv hc)) | go_values | go_skip | go_guarded | go_step | go_upon | (simp only [Int.not_lt, Int.not_le] at *; go_simp))
      refine (H3.out _).mono ?_
      rintro e y ⟨rfl, hb⟩
      replace hM := hM.call hb
      replace hR := hR.call hb
      clear hb H3
      repeat' (first | (go_big_may; first | (refine v_alloc rfl zer_status rfl ?_; intro u zs hN; replace hR := hR.call hN.below; replace hM := hM.new hN; clear hN) | (refine v_fill rfl rfl row_status rfl rfl hM.at0 (spl_vs ⟨ztag, res, 0⟩) rfl ?_; intro u hv hc; replace hR := rtp (rtz_box hR.out hM.at0 (spl_ns _) hc); replace hM := hM.put0 hc hv; clear hv hc) | (refine v_get rfl rfl (by first | exact lod_int | exact lod_str | exact lod_fcs | exact lod_err | exact lod_bool | exact lod_txs) rfl hM.at3 rfl ?_) | (at_builtin; refine Stop.out ?_)) | go_values | go_skip | go_guarded | go_step | go_upon | (simp only [Int.not_lt, Int.not_le] at *; go_simp))
      refine ⟨?_⟩
      obtain ⟨U, hU⟩ : ∃ U, u.heap.size = U := ⟨_, rfl⟩
      have HUW : Hid (w.heap.size ≤ U) := by rw [← hU]; exact hM.below.size
      have HMM : Hid (∀ W, Below U u W → Mm w W [(zs, 36, spl ⟨ztag, res, 0⟩), (za, 24, dkl (.slice ya n0 yc) S), (zb, 5, (ten (I : Int) (n : Int)).map (Value.int .u8)), (zd, 24, dkl (.slice xa n0 xc) s0)]) := fun W h => hM.call (by rw [hU]; exact h)
      have HRR : Hid (∀ W, Below U u W → Rts W (.slice ya n0 yc) N) := fun W h => (hR.call (by rw [hU]; exact h)).out
      refine wpList_txt _ rfl _ _ rfl U _ [] rfl (Txs.nil _ _) _ l0 rfl (hC0.call hM.below).out (by simp; omega) (Nat.le_of_eq hU.symm) ?_
      intro v1 y5 q1 q2
      rw [List.nil_append] at q1
      obtain ⟨g, cp, rfl⟩ := txs_some q1 (by omega)
      have HT : Hid (Txs y5 U (.slice (some ⟨g, 0, none⟩) n0 cp) l0 ∧ Below U u y5) := ⟨by rw [hn0] at q1; exact q1, q2⟩
      rw [hn0]
      clear q1 q2 hM hR hC0 hU
      go_upto_region 12 with (fail)
      go_cut [119] from 97 to 119 (fun cv wx => cv = .bool false ∧ Hid (Txs wx U (.slice (some ⟨g, 0, none⟩) n0 cp) l0 ∧ Below U u wx))
      case first =>
        have hM := HMM.out _ HT.out.2
        go_step
        try simp only [List.append_eq, List.cons_append, List.nil_append]
        refine wpl_abs fun a0 ha0 => ?_
        have fz : a0.tmps.size = 188 := by rw [ha0]; rfl
        have fd : a0.defers = [] := by rw [ha0]
        have fr : ∀ k, (k < 97 ∨ 120 ≤ k) → a0.tmps[k]? = a0.tmps[k]? := fun _ _ => rfl
        have f1 : a0.tmps[1]? = some (.int .i64 (I : Int)) := by rw [ha0]; rfl
        have f2 : a0.tmps[2]? = some (.int .i64 (n : Int)) := by rw [ha0]; rfl
        have f3 : a0.tmps[3]? = some (.int .i64 a3) := by rw [ha0]; rfl
        have f4 : a0.tmps[4]? = some (.string t) := by rw [ha0]; rfl
        have f17 : a0.tmps[17]? = some (.pointer (some ⟨zs, 0, none⟩)) := by rw [ha0]; rfl
        have f19 : a0.tmps[19]? = some (.slice (some ⟨g, 0, none⟩) n0 cp) := by rw [ha0]; rfl
        refine p_val (v := .pointer (some ⟨zs, 2, none⟩)) rfl rfl (x_fld (r := 2) rfl f17 (fun w => by kernel_rfl)) (by rw [fz]; decide) ?_
        intro b1 hk hv hz hf
        replace fz := hz.trans fz
        replace fd := hf.trans fd
        replace fr := fun k hq => (hk k (by omega)).trans (fr k hq)
        replace f1 := (hk 1 (by decide)).trans f1
        replace f2 := (hk 2 (by decide)).trans f2
        replace f3 := (hk 3 (by decide)).trans f3
        replace f4 := (hk 4 (by decide)).trans f4
        replace f19 := (hk 19 (by decide)).trans f19
        clear f17
        have f97 := hv
        clear hk hv hz hf
        refine p_val (v := .int .i64 0) rfl rfl (p_get (v := .int .i64 0) rfl f97 hM.at0 rfl) (by rw [fz]; decide) ?_
        intro b2 hk hv hz hf
        replace fz := hz.trans fz
        replace fd := hf.trans fd
        replace fr := fun k hq => (hk k (by omega)).trans (fr k hq)
        replace f1 := (hk 1 (by decide)).trans f1
        replace f2 := (hk 2 (by decide)).trans f2
        replace f3 := (hk 3 (by decide)).trans f3
        replace f4 := (hk 4 (by decide)).trans f4
        replace f19 := (hk 19 (by decide)).trans f19
        clear f97
        have f98 := hv
        clear hk hv hz hf
        refine p_val (v := .bool true) rfl rfl (by simp only [execOp, ev_con, ev_of f98]; simp [go_sem]) (by rw [fz]; decide) ?_
        intro b3 hk hv hz hf
        replace fz := hz.trans fz
        replace fd := hf.trans fd
        replace fr := fun k hq => (hk k (by omega)).trans (fr k hq)
        replace f1 := (hk 1 (by decide)).trans f1
        replace f2 := (hk 2 (by decide)).trans f2
        replace f3 := (hk 3 (by decide)).trans f3
        replace f4 := (hk 4 (by decide)).trans f4
        replace f19 := (hk 19 (by decide)).trans f19
        clear f98
        have f99 := hv
        clear hk hv hz hf
        refine p_val (v := .bool true) rfl rfl (by simp only [execOp, ev_con, ev_of f99]; simp [go_sem]) (by rw [fz]; decide) ?_
        intro b4 hk hv hz hf
        replace fz := hz.trans fz
        replace fd := hf.trans fd
        replace fr := fun k hq => (hk k (by omega)).trans (fr k hq)
        replace f1 := (hk 1 (by decide)).trans f1
        replace f2 := (hk 2 (by decide)).trans f2
        replace f3 := (hk 3 (by decide)).trans f3
        replace f4 := (hk 4 (by decide)).trans f4
        replace f19 := (hk 19 (by decide)).trans f19
        clear f99
        have f100 := hv
        clear hk hv hz hf
        refine p_val (v := .int .i64 a3) ((wt_of rfl (by kernel_rfl) _ f100).trans rfl) rfl (by simp only [execOp, ev_con, ev_of f3]; simp [go_sem]) (by rw [fz]; decide) ?_
        intro b5 hk hv hz hf
        replace fz := hz.trans fz
        replace fd := hf.trans fd
        replace fr := fun k hq => (hk k (by omega)).trans (fr k hq)
        replace f1 := (hk 1 (by decide)).trans f1
        replace f2 := (hk 2 (by decide)).trans f2
        replace f3 := (hk 3 (by decide)).trans f3
        replace f4 := (hk 4 (by decide)).trans f4
        replace f19 := (hk 19 (by decide)).trans f19
        replace f100 := (hk 100 (by decide)).trans f100
        have f101 := hv
        clear hk hv hz hf
        refine p_val (v := .int .i64 (n : Int)) ((wt_of rfl (by kernel_rfl) _ f100).trans rfl) rfl (by simp only [execOp, ev_con, ev_of f2]; simp [go_sem]) (by rw [fz]; decide) ?_
        intro b6 hk hv hz hf
        replace fz := hz.trans fz
        replace fd := hf.trans fd
        replace fr := fun k hq => (hk k (by omega)).trans (fr k hq)
        replace f1 := (hk 1 (by decide)).trans f1
        replace f2 := (hk 2 (by decide)).trans f2
        replace f3 := (hk 3 (by decide)).trans f3
        replace f4 := (hk 4 (by decide)).trans f4
        replace f19 := (hk 19 (by decide)).trans f19
        replace f100 := (hk 100 (by decide)).trans f100
        replace f101 := (hk 101 (by decide)).trans f101
        have f102 := hv
        clear hk hv hz hf
        refine p_val (v := .int .i64 (p : Int)) ((wt_of rfl (by kernel_rfl) _ f100).trans rfl) rfl (by simp only [execOp, ev_con, ev_of f102]; simp [go_sem, jm]) (by rw [fz]; decide) ?_
        intro b7 hk hv hz hf
        replace fz := hz.trans fz
        replace fd := hf.trans fd
        replace fr := fun k hq => (hk k (by omega)).trans (fr k hq)
        replace f1 := (hk 1 (by decide)).trans f1
        replace f2 := (hk 2 (by decide)).trans f2
        replace f3 := (hk 3 (by decide)).trans f3
        replace f4 := (hk 4 (by decide)).trans f4
        replace f19 := (hk 19 (by decide)).trans f19
        replace f100 := (hk 100 (by decide)).trans f100
        replace f101 := (hk 101 (by decide)).trans f101
        clear f102
        have f103 := hv
        clear hk hv hz hf
        refine p_val (v := .bool true) ((wt_of rfl (by kernel_rfl) _ f100).trans rfl) rfl (by simp only [execOp, ev_con, ev_of f101, ev_of f103]; simp [go_sem, j1]) (by rw [fz]; decide) ?_
        intro b8 hk hv hz hf
        replace fz := hz.trans fz
        replace fd := hf.trans fd
        replace fr := fun k hq => (hk k (by omega)).trans (fr k hq)
        replace f1 := (hk 1 (by decide)).trans f1
        replace f2 := (hk 2 (by decide)).trans f2
        replace f3 := (hk 3 (by decide)).trans f3
        replace f4 := (hk 4 (by decide)).trans f4
        replace f19 := (hk 19 (by decide)).trans f19
        replace f100 := (hk 100 (by decide)).trans f100
        clear f101 f103
        have f104 := hv
        clear hk hv hz hf
        refine p_val (v := .bool true) rfl rfl (by simp only [execOp, ev_con, ev_of f100, ev_of f104]; simp [go_sem]) (by rw [fz]; decide) ?_
        intro b9 hk hv hz hf
        replace fz := hz.trans fz
        replace fd := hf.trans fd
        replace fr := fun k hq => (hk k (by omega)).trans (fr k hq)
        replace f1 := (hk 1 (by decide)).trans f1
        replace f2 := (hk 2 (by decide)).trans f2
        replace f3 := (hk 3 (by decide)).trans f3
        replace f4 := (hk 4 (by decide)).trans f4
        replace f19 := (hk 19 (by decide)).trans f19
        clear f100 f104
        have f105 := hv
        clear hk hv hz hf
        refine p_val (v := .bool true) rfl rfl (by simp only [execOp, ev_con, ev_of f105]; simp [go_sem]) (by rw [fz]; decide) ?_
        intro b10 hk hv hz hf
        replace fz := hz.trans fz
        replace fd := hf.trans fd
        replace fr := fun k hq => (hk k (by omega)).trans (fr k hq)
        replace f1 := (hk 1 (by decide)).trans f1
        replace f2 := (hk 2 (by decide)).trans f2
        replace f3 := (hk 3 (by decide)).trans f3
        replace f4 := (hk 4 (by decide)).trans f4
        replace f19 := (hk 19 (by decide)).trans f19
        clear f105
        have f106 := hv
        clear hk hv hz hf
        refine p_val (v := .int .i64 (I : Int)) ((wt_of rfl (by kernel_rfl) _ f106).trans rfl) rfl (by simp only [execOp, ev_con, ev_of f1]; simp [go_sem]) (by rw [fz]; decide) ?_
        intro b11 hk hv hz hf
        replace fz := hz.trans fz
        replace fd := hf.trans fd
        replace fr := fun k hq => (hk k (by omega)).trans (fr k hq)
        replace f2 := (hk 2 (by decide)).trans f2
        replace f3 := (hk 3 (by decide)).trans f3
        replace f4 := (hk 4 (by decide)).trans f4
        replace f19 := (hk 19 (by decide)).trans f19
        replace f106 := (hk 106 (by decide)).trans f106
        clear f1
        have f107 := hv
        clear hk hv hz hf
        refine p_val (v := .int .i64 (n : Int)) ((wt_of rfl (by kernel_rfl) _ f106).trans rfl) rfl (by simp only [execOp, ev_con, ev_of f2]; simp [go_sem]) (by rw [fz]; decide) ?_
        intro b12 hk hv hz hf
        replace fz := hz.trans fz
        replace fd := hf.trans fd
        replace fr := fun k hq => (hk k (by omega)).trans (fr k hq)
        replace f3 := (hk 3 (by decide)).trans f3
        replace f4 := (hk 4 (by decide)).trans f4
        replace f19 := (hk 19 (by decide)).trans f19
        replace f106 := (hk 106 (by decide)).trans f106
        replace f107 := (hk 107 (by decide)).trans f107
        clear f2
        have f108 := hv
        clear hk hv hz hf
        refine p_val (v := .int .i64 ((I : Int) + (n : Int))) ((wt_of rfl (by kernel_rfl) _ f106).trans rfl) rfl (by simp only [execOp, ev_con, ev_of f107, ev_of f108]; simp [go_sem, jw]) (by rw [fz]; decide) ?_
        intro b13 hk hv hz hf
        replace fz := hz.trans fz
        replace fd := hf.trans fd
        replace fr := fun k hq => (hk k (by omega)).trans (fr k hq)
        replace f3 := (hk 3 (by decide)).trans f3
        replace f4 := (hk 4 (by decide)).trans f4
        replace f19 := (hk 19 (by decide)).trans f19
        replace f106 := (hk 106 (by decide)).trans f106
        clear f107 f108
        have f109 := hv
        clear hk hv hz hf
        refine p_val (v := .slice (some ⟨g, 0, none⟩) n0 cp) ((wt_of rfl (by kernel_rfl) _ f106).trans rfl) rfl (by simp only [execOp, ev_con, ev_of f19]; simp [go_sem]) (by rw [fz]; decide) ?_
        intro b14 hk hv hz hf
        replace fz := hz.trans fz
        replace fd := hf.trans fd
        replace fr := fun k hq => (hk k (by omega)).trans (fr k hq)
        replace f3 := (hk 3 (by decide)).trans f3
        replace f4 := (hk 4 (by decide)).trans f4
        replace f106 := (hk 106 (by decide)).trans f106
        replace f109 := (hk 109 (by decide)).trans f109
        clear f19
        have f110 := hv
        clear hk hv hz hf
        refine p_val (v := .int .i64 (n0 : Int)) ((wt_of rfl (by kernel_rfl) _ f106).trans rfl) rfl (by simp only [execOp, ev_con, ev_of f110]; simp [go_sem, f110]) (by rw [fz]; decide) ?_
        intro b15 hk hv hz hf
        replace fz := hz.trans fz
        replace fd := hf.trans fd
        replace fr := fun k hq => (hk k (by omega)).trans (fr k hq)
        replace f3 := (hk 3 (by decide)).trans f3
        replace f4 := (hk 4 (by decide)).trans f4
        replace f106 := (hk 106 (by decide)).trans f106
        replace f109 := (hk 109 (by decide)).trans f109
        clear f110
        have f111 := hv
        clear hk hv hz hf
        refine p_val (v := .bool false) ((wt_of rfl (by kernel_rfl) _ f106).trans rfl) rfl (by simp only [execOp, ev_con, ev_of f109, ev_of f111]; simp [go_sem, j2i, j2]) (by rw [fz]; decide) ?_
        intro b16 hk hv hz hf
        replace fz := hz.trans fz
        replace fd := hf.trans fd
        replace fr := fun k hq => (hk k (by omega)).trans (fr k hq)
        replace f3 := (hk 3 (by decide)).trans f3
        replace f4 := (hk 4 (by decide)).trans f4
        replace f106 := (hk 106 (by decide)).trans f106
        clear f109 f111
        have f112 := hv
        clear hk hv hz hf
        refine p_val (v := .bool false) rfl rfl (by simp only [execOp, ev_con, ev_of f106, ev_of f112]; simp [go_sem]) (by rw [fz]; decide) ?_
        intro b17 hk hv hz hf
        replace fz := hz.trans fz
        replace fd := hf.trans fd
        replace fr := fun k hq => (hk k (by omega)).trans (fr k hq)
        replace f3 := (hk 3 (by decide)).trans f3
        replace f4 := (hk 4 (by decide)).trans f4
        clear f106 f112
        have f113 := hv
        clear hk hv hz hf
        refine p_val (v := .bool false) rfl rfl (by simp only [execOp, ev_con, ev_of f113]; simp [go_sem]) (by rw [fz]; decide) ?_
        intro b18 hk hv hz hf
        replace fz := hz.trans fz
        replace fd := hf.trans fd
        replace fr := fun k hq => (hk k (by omega)).trans (fr k hq)
        replace f3 := (hk 3 (by decide)).trans f3
        replace f4 := (hk 4 (by decide)).trans f4
        clear f113
        have f114 := hv
        clear hk hv hz hf
        refine p_not ((wt_of rfl (by kernel_rfl) _ f114).trans rfl) rfl (by rw [fz]; decide) ?_
        intro b19 hk hv hz hf
        replace fz := hz.trans fz
        replace fd := hf.trans fd
        replace fr := fun k hq => (hk k (by omega)).trans (fr k hq)
        replace f3 := (hk 3 (by decide)).trans f3
        replace f114 := (hk 114 (by decide)).trans f114
        clear f4
        have f115 := hv
        clear hk hv hz hf
        refine p_not ((wt_of rfl (by kernel_rfl) _ f114).trans rfl) rfl (by rw [fz]; decide) ?_
        intro b20 hk hv hz hf
        replace fz := hz.trans fz
        replace fd := hf.trans fd
        replace fr := fun k hq => (hk k (by omega)).trans (fr k hq)
        replace f3 := (hk 3 (by decide)).trans f3
        replace f114 := (hk 114 (by decide)).trans f114
        clear f115
        have f116 := hv
        clear hk hv hz hf
        refine p_not ((wt_of rfl (by kernel_rfl) _ f114).trans rfl) rfl (by rw [fz]; decide) ?_
        intro b21 hk hv hz hf
        replace fz := hz.trans fz
        replace fd := hf.trans fd
        replace fr := fun k hq => (hk k (by omega)).trans (fr k hq)
        replace f114 := (hk 114 (by decide)).trans f114
        replace f116 := (hk 116 (by decide)).trans f116
        clear f3
        have f117 := hv
        clear hk hv hz hf
        refine p_not ((wt_of rfl (by kernel_rfl) _ f114).trans rfl) rfl (by rw [fz]; decide) ?_
        intro b22 hk hv hz hf
        replace fz := hz.trans fz
        replace fd := hf.trans fd
        replace fr := fun k hq => (hk k (by omega)).trans (fr k hq)
        replace f114 := (hk 114 (by decide)).trans f114
        clear f116 f117
        have f118 := hv
        clear hk hv hz hf
        refine p_val (v := .bool false) rfl rfl (by simp only [execOp, ev_con, ev_of f114, ev_of f118]; simp [go_sem]) (by rw [fz]; decide) ?_
        intro b23 hk hv hz hf
        replace fz := hz.trans fz
        replace fd := hf.trans fd
        replace fr := fun k hq => (hk k (by omega)).trans (fr k hq)
        clear f114 f118
        have f119 := hv
        clear hk hv hz hf
        have hL : Lay a0 b23 97 23 := ⟨fz.trans (by rw [ha0]; rfl), fd.trans (by rw [ha0]), fun k hq => fr k (by omega)⟩
        have ef := hL.whole (N := 188) ha0 rfl (by decide)
        have e9 : b23.tmps.getD (97 + 22) undef = .bool false := by simp [f119]
        go_step
        rename_i HJ HK
        rw [ef]
        refine HK _ _ (Met.intro (HJ _ _ ?_))
        (repeat apply Exists.intro)
        refine ⟨?rel, rfl⟩
        case rel => exact ⟨e9, HT.out⟩
      case rest =>
      obtain ⟨rfl, HX⟩ := hcut
      rename World => y6
      clear HT
      have HT := HX
      clear HX
      rename World => y7
      have hM := HMM.out _ HT.out.2
      repeat' (first | go_values | go_skip | go_guarded | go_step | go_upon | (simp only [Int.not_lt, Int.not_le] at *; go_simp))
      refine (H4.out _ hM.below).mono ?_
      rintro e y8 ⟨rfl, hb⟩
      replace hM := hM.call hb
      have HT8 : Hid (Txs y8 U (.slice (some ⟨g, 0, none⟩) n0 cp) (l0) ∧ Below U u y8) := ⟨HT.out.1.below hb, HT.out.2.trans (hb.mono (Nat.le_trans (txs_block HT.out.1).1 (Nat.le_of_lt (txs_block HT.out.1).2)))⟩
      clear hb HT H4
      repeat' (first | (go_big_may; first | (refine v_build rfl rfl (bld_ry (p : Int) K2) ?hbv ?_; (case hbv => simp [Act.eval, Act.put]))) | go_values | go_skip | go_guarded | go_step | go_upon | (simp only [Int.not_lt, Int.not_le] at *; go_simp))
      refine (H5.out _).mono ?_
      rintro e y9 ⟨rfl, hb⟩
      replace hM := hM.call hb
      have hT := txp HT8.out.1
      replace hT := hT.call hb
      have hR := rtp (HRR.out _ HT8.out.2)
      replace hR := hR.call hb
      clear hb H5 HT8 HRR HMM
      repeat' (first | (go_big_may; first | (refine v_load rfl rfl row_disk rfl hM.at1 (Nat.le_refl _) (cut_all rfl) ?_)) | go_values | go_skip | go_guarded | go_step | go_upon | (simp only [Int.not_lt, Int.not_le] at *; go_simp))
      refine (H6.out _ _ hR.out).mono ?_
      rintro e y10 ⟨ka, kc, rfl, hb⟩
      replace hM := hM.call hb
      replace hT := hT.call hb
      replace hR := hR.call hb
      clear hb H6
      repeat' (first | (go_big_may; first | (refine v_alloc rfl zer_disk rfl ?_; intro u zk hN; replace hR := hR.call hN.below; replace hT := hT.call hN.below; replace hM := hM.new hN; clear hN) | (refine v_fill rfl rfl row_disk rfl rfl hM.at0 (dkl_vs (v := .slice ka n2 kc) S2 rfl) rfl ?_; intro u hv hc; replace hR := rtp (rtz_chg hR.out hM.at0 (fun x q => by cases q) hc); replace hT := txp (txs_chg hT.out hM.at0 (by decide) hc); replace hM := hM.put0 hc hv; clear hv hc) | (refine v_get rfl rfl (by first | exact lod_int | exact lod_str | exact lod_fcs | exact lod_err | exact lod_bool | exact lod_txs) rfl hM.at2 rfl ?_)) | go_values | go_skip | go_guarded | go_step | go_upon | (simp only [Int.not_lt, Int.not_le] at *; go_simp))
      refine (H7.out _ _ _ hR.out (by rw [hNl0]; exact hT.out.rts)).mono ?_
      rintro e y11 ⟨rfl, hb⟩
      replace hM := hM.call hb
      clear hb H7 hR hT
      dsimp only
      go_step
      try simp only [List.append_eq, List.cons_append, List.nil_append]
      refine wpl_abs fun a0 ha0 => ?_
      have fz : a0.tmps.size = 188 := by rw [ha0]; rfl
      have fd : a0.defers = [] := by rw [ha0]
      have f2 : a0.tmps[2]? = some (.int .i64 (n : Int)) := by rw [ha0]; rfl
      have f3 : a0.tmps[3]? = some (.int .i64 a3) := by rw [ha0]; rfl
      have f4 : a0.tmps[4]? = some (.string t) := by rw [ha0]; rfl
      have f17 : a0.tmps[17]? = some (.pointer (some ⟨zs, 0, none⟩)) := by rw [ha0]; rfl
      have f24 : a0.tmps[24]? = some (.string A2) := by rw [ha0]; rfl
      have f164 : a0.tmps[164]? = some (.bool true) := by rw [ha0]; rfl
      clear ha0
      refine p_val (v := .bool true) rfl rfl (by simp only [execOp, ev_con, ev_of f164]; simp [go_sem]) (by rw [fz]; decide) ?_
      intro d1 hk hv hz hf
      replace fz := hz.trans fz
      replace fd := hf.trans fd
      replace f2 := (hk 2 (by decide)).trans f2
      replace f3 := (hk 3 (by decide)).trans f3
      replace f4 := (hk 4 (by decide)).trans f4
      replace f17 := (hk 17 (by decide)).trans f17
      replace f24 := (hk 24 (by decide)).trans f24
      clear f164
      have f165 := hv
      clear hk hv hz hf
      refine p_val (v := .pointer (some ⟨zs, 2, none⟩)) ((wt_of rfl (by kernel_rfl) _ f165).trans rfl) rfl (x_fld (r := 2) rfl f17 (fun w => by kernel_rfl)) (by rw [fz]; decide) ?_
      intro d2 hk hv hz hf
      replace fz := hz.trans fz
      replace fd := hf.trans fd
      replace f2 := (hk 2 (by decide)).trans f2
      replace f3 := (hk 3 (by decide)).trans f3
      replace f4 := (hk 4 (by decide)).trans f4
      replace f24 := (hk 24 (by decide)).trans f24
      replace f165 := (hk 165 (by decide)).trans f165
      clear f17
      have f166 := hv
      clear hk hv hz hf
      refine p_val (v := .int .i64 0) ((wt_of rfl (by kernel_rfl) _ f165).trans rfl) rfl (p_get (v := .int .i64 0) rfl f166 hM.at1 rfl) (by rw [fz]; decide) ?_
      intro d3 hk hv hz hf
      replace fz := hz.trans fz
      replace fd := hf.trans fd
      replace f2 := (hk 2 (by decide)).trans f2
      replace f3 := (hk 3 (by decide)).trans f3
      replace f4 := (hk 4 (by decide)).trans f4
      replace f24 := (hk 24 (by decide)).trans f24
      replace f165 := (hk 165 (by decide)).trans f165
      clear f166
      have f167 := hv
      clear hk hv hz hf
      refine p_val (v := .bool false) ((wt_of rfl (by kernel_rfl) _ f165).trans rfl) rfl (by simp only [execOp, ev_con, ev_of f167]; simp [go_sem]) (by rw [fz]; decide) ?_
      intro d4 hk hv hz hf
      replace fz := hz.trans fz
      replace fd := hf.trans fd
      replace f2 := (hk 2 (by decide)).trans f2
      replace f3 := (hk 3 (by decide)).trans f3
      replace f4 := (hk 4 (by decide)).trans f4
      replace f24 := (hk 24 (by decide)).trans f24
      replace f165 := (hk 165 (by decide)).trans f165
      clear f167
      have f168 := hv
      clear hk hv hz hf
      refine p_val (v := .bool false) ((wt_of rfl (by kernel_rfl) _ f165).trans rfl) rfl (by simp only [execOp, ev_con, ev_of f168]; simp [go_sem]) (by rw [fz]; decide) ?_
      intro d5 hk hv hz hf
      replace fz := hz.trans fz
      replace fd := hf.trans fd
      replace f2 := (hk 2 (by decide)).trans f2
      replace f3 := (hk 3 (by decide)).trans f3
      replace f4 := (hk 4 (by decide)).trans f4
      replace f24 := (hk 24 (by decide)).trans f24
      replace f165 := (hk 165 (by decide)).trans f165
      clear f168
      have f169 := hv
      clear hk hv hz hf
      refine p_val (v := .int .i64 (n : Int)) ((wt_of rfl (by kernel_rfl) _ f169).trans rfl) rfl (by simp only [execOp, ev_con, ev_of f2]; simp [go_sem]) (by rw [fz]; decide) ?_
      intro d6 hk hv hz hf
      replace fz := hz.trans fz
      replace fd := hf.trans fd
      replace f2 := (hk 2 (by decide)).trans f2
      replace f3 := (hk 3 (by decide)).trans f3
      replace f4 := (hk 4 (by decide)).trans f4
      replace f24 := (hk 24 (by decide)).trans f24
      replace f165 := (hk 165 (by decide)).trans f165
      replace f169 := (hk 169 (by decide)).trans f169
      have f170 := hv
      clear hk hv hz hf
      refine p_val (v := .bool true) ((wt_of rfl (by kernel_rfl) _ f169).trans rfl) rfl (by simp only [execOp, ev_con, ev_of f170]; simp [go_sem, hn1, HN2.out]) (by rw [fz]; decide) ?_
      intro d7 hk hv hz hf
      replace fz := hz.trans fz
      replace fd := hf.trans fd
      replace f2 := (hk 2 (by decide)).trans f2
      replace f3 := (hk 3 (by decide)).trans f3
      replace f4 := (hk 4 (by decide)).trans f4
      replace f24 := (hk 24 (by decide)).trans f24
      replace f165 := (hk 165 (by decide)).trans f165
      replace f169 := (hk 169 (by decide)).trans f169
      clear f170
      have f171 := hv
      clear hk hv hz hf
      refine p_val (v := .bool true) ((wt_of rfl (by kernel_rfl) _ f165).trans rfl) rfl (by simp only [execOp, ev_con, ev_of f169, ev_of f171]; simp [go_sem]) (by rw [fz]; decide) ?_
      intro d8 hk hv hz hf
      replace fz := hz.trans fz
      replace fd := hf.trans fd
      replace f2 := (hk 2 (by decide)).trans f2
      replace f3 := (hk 3 (by decide)).trans f3
      replace f4 := (hk 4 (by decide)).trans f4
      replace f24 := (hk 24 (by decide)).trans f24
      replace f165 := (hk 165 (by decide)).trans f165
      clear f169 f171
      have f172 := hv
      clear hk hv hz hf
      refine p_val (v := .bool true) ((wt_of rfl (by kernel_rfl) _ f165).trans rfl) rfl (by simp only [execOp, ev_con, ev_of f172]; simp [go_sem]) (by rw [fz]; decide) ?_
      intro d9 hk hv hz hf
      replace fz := hz.trans fz
      replace fd := hf.trans fd
      replace f2 := (hk 2 (by decide)).trans f2
      replace f3 := (hk 3 (by decide)).trans f3
      replace f4 := (hk 4 (by decide)).trans f4
      replace f24 := (hk 24 (by decide)).trans f24
      replace f165 := (hk 165 (by decide)).trans f165
      clear f172
      have f173 := hv
      clear hk hv hz hf
      refine p_not ((wt_of rfl (by kernel_rfl) _ f173).trans rfl) rfl (by rw [fz]; decide) ?_
      intro d10 hk hv hz hf
      replace fz := hz.trans fz
      replace fd := hf.trans fd
      replace f2 := (hk 2 (by decide)).trans f2
      replace f4 := (hk 4 (by decide)).trans f4
      replace f24 := (hk 24 (by decide)).trans f24
      replace f165 := (hk 165 (by decide)).trans f165
      replace f173 := (hk 173 (by decide)).trans f173
      clear f3
      have f174 := hv
      clear hk hv hz hf
      refine p_not ((wt_of rfl (by kernel_rfl) _ f173).trans rfl) rfl (by rw [fz]; decide) ?_
      intro d11 hk hv hz hf
      replace fz := hz.trans fz
      replace fd := hf.trans fd
      replace f2 := (hk 2 (by decide)).trans f2
      replace f4 := (hk 4 (by decide)).trans f4
      replace f24 := (hk 24 (by decide)).trans f24
      replace f165 := (hk 165 (by decide)).trans f165
      replace f173 := (hk 173 (by decide)).trans f173
      replace f174 := (hk 174 (by decide)).trans f174
      have f175 := hv
      clear hk hv hz hf
      refine p_not ((wt_of rfl (by kernel_rfl) _ f173).trans rfl) rfl (by rw [fz]; decide) ?_
      intro d12 hk hv hz hf
      replace fz := hz.trans fz
      replace fd := hf.trans fd
      replace f2 := (hk 2 (by decide)).trans f2
      replace f4 := (hk 4 (by decide)).trans f4
      replace f24 := (hk 24 (by decide)).trans f24
      replace f165 := (hk 165 (by decide)).trans f165
      replace f173 := (hk 173 (by decide)).trans f173
      replace f174 := (hk 174 (by decide)).trans f174
      clear f175
      have f176 := hv
      clear hk hv hz hf
      refine p_not ((wt_of rfl (by kernel_rfl) _ f173).trans rfl) rfl (by rw [fz]; decide) ?_
      intro d13 hk hv hz hf
      replace fz := hz.trans fz
      replace fd := hf.trans fd
      replace f2 := (hk 2 (by decide)).trans f2
      replace f4 := (hk 4 (by decide)).trans f4
      replace f24 := (hk 24 (by decide)).trans f24
      replace f165 := (hk 165 (by decide)).trans f165
      replace f173 := (hk 173 (by decide)).trans f173
      clear f174 f176
      have f177 := hv
      clear hk hv hz hf
      refine p_val (v := .bool true) ((wt_of rfl (by kernel_rfl) _ f165).trans rfl) rfl (by simp only [execOp, ev_con, ev_of f173, ev_of f177]; simp [go_sem]) (by rw [fz]; decide) ?_
      intro d14 hk hv hz hf
      replace fz := hz.trans fz
      replace fd := hf.trans fd
      replace f2 := (hk 2 (by decide)).trans f2
      replace f4 := (hk 4 (by decide)).trans f4
      replace f24 := (hk 24 (by decide)).trans f24
      replace f165 := (hk 165 (by decide)).trans f165
      clear f173 f177
      have f178 := hv
      clear hk hv hz hf
      refine p_val (v := .bool true) ((wt_of rfl (by kernel_rfl) _ f165).trans rfl) rfl (by simp only [execOp, ev_con, ev_of f178]; simp [go_sem]) (by rw [fz]; decide) ?_
      intro d15 hk hv hz hf
      replace fz := hz.trans fz
      replace fd := hf.trans fd
      replace f2 := (hk 2 (by decide)).trans f2
      replace f4 := (hk 4 (by decide)).trans f4
      replace f24 := (hk 24 (by decide)).trans f24
      replace f165 := (hk 165 (by decide)).trans f165
      clear f178
      have f179 := hv
      clear hk hv hz hf
      refine p_not ((wt_of rfl (by kernel_rfl) _ f179).trans rfl) rfl (by rw [fz]; decide) ?_
      intro d16 hk hv hz hf
      replace fz := hz.trans fz
      replace fd := hf.trans fd
      replace f2 := (hk 2 (by decide)).trans f2
      replace f4 := (hk 4 (by decide)).trans f4
      replace f165 := (hk 165 (by decide)).trans f165
      replace f179 := (hk 179 (by decide)).trans f179
      clear f24
      have f180 := hv
      clear hk hv hz hf
      refine p_not ((wt_of rfl (by kernel_rfl) _ f179).trans rfl) rfl (by rw [fz]; decide) ?_
      intro d17 hk hv hz hf
      replace fz := hz.trans fz
      replace fd := hf.trans fd
      replace f2 := (hk 2 (by decide)).trans f2
      replace f165 := (hk 165 (by decide)).trans f165
      replace f179 := (hk 179 (by decide)).trans f179
      replace f180 := (hk 180 (by decide)).trans f180
      clear f4
      have f181 := hv
      clear hk hv hz hf
      refine p_not ((wt_of rfl (by kernel_rfl) _ f179).trans rfl) rfl (by rw [fz]; decide) ?_
      intro d18 hk hv hz hf
      replace fz := hz.trans fz
      replace fd := hf.trans fd
      replace f165 := (hk 165 (by decide)).trans f165
      replace f179 := (hk 179 (by decide)).trans f179
      replace f180 := (hk 180 (by decide)).trans f180
      replace f181 := (hk 181 (by decide)).trans f181
      clear f2
      have f182 := hv
      clear hk hv hz hf
      refine p_not ((wt_of rfl (by kernel_rfl) _ f179).trans rfl) rfl (by rw [fz]; decide) ?_
      intro d19 hk hv hz hf
      replace fz := hz.trans fz
      replace fd := hf.trans fd
      replace f165 := (hk 165 (by decide)).trans f165
      replace f179 := (hk 179 (by decide)).trans f179
      replace f180 := (hk 180 (by decide)).trans f180
      replace f181 := (hk 181 (by decide)).trans f181
      clear f182
      have f183 := hv
      clear hk hv hz hf
      refine p_not ((wt_of rfl (by kernel_rfl) _ f179).trans rfl) rfl (by rw [fz]; decide) ?_
      intro d20 hk hv hz hf
      replace fz := hz.trans fz
      replace fd := hf.trans fd
      replace f165 := (hk 165 (by decide)).trans f165
      replace f179 := (hk 179 (by decide)).trans f179
      replace f180 := (hk 180 (by decide)).trans f180
      clear f181 f183
      have f184 := hv
      clear hk hv hz hf
      refine p_not ((wt_of rfl (by kernel_rfl) _ f179).trans rfl) rfl (by rw [fz]; decide) ?_
      intro d21 hk hv hz hf
      replace fz := hz.trans fz
      replace fd := hf.trans fd
      replace f165 := (hk 165 (by decide)).trans f165
      replace f179 := (hk 179 (by decide)).trans f179
      clear f180 f184
      have f185 := hv
      clear hk hv hz hf
      refine p_val (v := .bool true) ((wt_of rfl (by kernel_rfl) _ f165).trans rfl) rfl (by simp only [execOp, ev_con, ev_of f179, ev_of f185]; simp [go_sem]) (by rw [fz]; decide) ?_
      intro d22 hk hv hz hf
      replace fz := hz.trans fz
      replace fd := hf.trans fd
      replace f165 := (hk 165 (by decide)).trans f165
      clear f179 f185
      have f186 := hv
      clear hk hv hz hf
      refine p_val (v := .bool true) rfl rfl (by simp only [execOp, ev_con, ev_of f165, ev_of f186]; simp [go_sem]) (by rw [fz]; decide) ?_
      intro d23 hk hv hz hf
      replace fz := hz.trans fz
      replace fd := hf.trans fd
      clear f165 f186
      have f187 := hv
      clear hk hv hz hf
      refine p_val (v := .bool true) rfl rfl (by simp only [execOp, ev_con, ev_of f187]; simp [go_sem]) (by rw [fz]; decide) ?_
      intro d24 hk hv hz hf
      replace fz := hz.trans fz
      replace fd := hf.trans fd
      clear f187
      have f10 := hv
      clear hk hv hz hf
      go_step
      go_step
      go_step
      go_step
      exact bodyPost_ret (ret_t rfl f10) fd ⟨rfl, hM.below⟩
end Go.Proofs.YtecknicmonhcaabDoor.bulkWrites
