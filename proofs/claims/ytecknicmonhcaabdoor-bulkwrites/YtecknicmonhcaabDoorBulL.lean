/- plugkeep: bulkLives. -/
import Derived.Test.YtecknicmonhcaabDoorBulC
import Derived.Test.YtecknicmonhcaabDoorBulF
import Derived.Test.YtecknicmonhcaabDoorBulV
namespace Go.Proofs.YtecknicmonhcaabDoor.bulk
open Go Go.RowKit Go.PlainAid Go.Proofs.YtecknicmonhcaabDoor.lane Go.Proofs.YtecknicmonhcaabDoor.pipe Go.Proofs.YtecknicmonhcaabDoor.strike
set_option linter.unusedVariables false
set_option linter.unusedSimpArgs false
set_option maxRecDepth 100000

def lvT : ByteArray := ⟨#[85, 83, 66, 83, 1, 0, 0, 0, 2, 1, 0, 0, 2]⟩
theorem lv_st : stT ⟨1, 258, 2⟩ = lvT ∧ stC ⟨1, 258, 2⟩ = 0 := by decide +kernel
theorem lv_jd : jdV ⟨1, 9⟩ ⟨1, 4⟩ = ⟨5, 4, 5, 0⟩ ∧ jdC ⟨1, 9⟩ ⟨1, 4⟩ = 0 := ⟨rfl, rfl⟩
theorem bld_vdR (a b c : Int) (w : World) : (Instr.build 44 #[(0, .int .i64 a), (1, .int .i64 b), (2, .int .i64 c)]).run Tryd.prog w = .ok (ag (vdl ⟨a, b, c, 0⟩)) w := by kernel_rfl
set_option maxHeartbeats 4000000 in
theorem lives_any (w : World) : Calls Tryd.prog 4 #[] w fun e w' => e = .returned (.bool true) ∧ Below w.heap.size w w' := by
  have HS : Hid (∀ u, Calls Tryd.prog 11 #[ag (spl ⟨1, 258, 2⟩)] u fun e w' => e = .returned (.tuple #[.string lvT, .int .i64 0]) ∧ Below u.heap.size u w') := fun u => by
    have := writeStatus_any ⟨1, 258, 2⟩ u
    rw [lv_st.1, lv_st.2] at this
    exact this
  have HJ : Hid (∀ u, Calls Tryd.prog 12 #[ag (mvl ⟨1, 9⟩), ag (mvl ⟨1, 4⟩)] u fun e w' => e = .returned (.tuple #[ag (vdl ⟨5, 4, 5, 0⟩), .int .i64 0]) ∧ Below u.heap.size u w') := fun u => by
    have := judge_any ⟨1, 9⟩ ⟨1, 4⟩ u
    rw [lv_jd.1, lv_jd.2] at this
    exact this
  have HE := eqs_v ⟨5, 4, 5, 0⟩
  have hTT : lvT.toList = [85, 83, 66, 83, 1, 0, 0, 0, 2, 1, 0, 0, 2] := by decide +kernel
  have hM := Mm.nil w
  go_enter Tryd.func4, Tryd.ntmps4
  repeat' (first | (go_big_may; first | (refine v_build rfl rfl (bld_status ⟨1, 258, 2⟩) ?hbv ?_; (case hbv => simp [Act.eval, Act.put]))) | go_values | go_skip | go_guarded | go_step | go_upon | (simp only [Int.not_lt, Int.not_le] at *; go_simp))
  refine (HS.out _).mono ?_
  rintro e u1 ⟨rfl, hb⟩
  replace hM := hM.call hb
  clear hb HS
  repeat' (first | (go_big_may; first | (refine v_build rfl rfl (bld_move ⟨1, 9⟩) ?hbv ?_; (case hbv => simp [Act.eval, Act.put])) | (refine v_build rfl rfl (bld_move ⟨1, 4⟩) ?hbv ?_; (case hbv => simp [Act.eval, Act.put]))) | go_values | go_skip | go_guarded | go_step | go_upon | (simp only [Int.not_lt, Int.not_le] at *; go_simp))
  refine (HJ.out _).mono ?_
  rintro e u1 ⟨rfl, hb⟩
  replace hM := hM.call hb
  clear hb HJ
  repeat' (first | (go_big_may; first | (refine v_alloc rfl zer_verdict rfl ?_; intro u zv hN; replace hM := hM.new hN; clear hN) | (refine v_fill rfl rfl row_verdict rfl rfl hM.at0 (vdl_vs ⟨5, 4, 5, 0⟩) rfl ?_; intro u hv hc; replace hM := hM.put0 hc hv; clear hv hc) | (refine v_load rfl rfl row_verdict rfl hM.at0 (Nat.le_refl _) (cut_all rfl) ?_) | (refine v_build rfl rfl (bld_vdR 5 4 5) ?hbv ?_; (case hbv => simp [Act.eval, Act.put])) | (refine v_eqs rfl rfl HE rfl rfl ?_)) | go_values | go_skip | go_guarded | go_step | go_upon | (simp only [Int.not_lt, Int.not_le] at *; go_simp))
  go_ret
  exact ⟨rfl, hM.below⟩
end Go.Proofs.YtecknicmonhcaabDoor.bulk
