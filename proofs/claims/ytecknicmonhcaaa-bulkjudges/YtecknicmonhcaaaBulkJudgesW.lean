/- BulkJudges: the walk. -/
import Derived.Test.YtecknicmonhcaaaBulF
import Derived.Test.YtecknicmonhcaaaBulVj
namespace Go.Proofs.Ytecknicmonhcaaa.bulkJudges
open Go Go.RowKit Go.PlainAid Go.Proofs.Ytecknicmonhcaaa.lane Go.Proofs.Ytecknicmonhcaaa.pipe Go.Proofs.Ytecknicmonhcaaa.strike Go.Proofs.Ytecknicmonhcaaa.bulk
set_option linter.unusedVariables false
set_option linter.unusedSimpArgs false
set_option maxRecDepth 100000

set_option maxHeartbeats 4000000 in
theorem walk (x y : Mv) (w : World) (hx : True) (hy : True) :
    Calls Try.prog 5 #[ag (mvl x), ag (mvl y)] w fun e w' => e = .returned (.bool true) ∧ Below w.heap.size w w' := by
  have HJ : Hid (∀ u, Calls Try.prog 17 #[ag (mvl x), ag (mvl y)] u fun e w' => e = .returned (.tuple #[ag (vdl (jdV x y)), .int .i64 (jdC x y)]) ∧ Below u.heap.size u w') := fun u => judge_any x y u
  have HR : Hid (∀ u, Calls Try.prog 18 #[ag (mvl x), ag (mvl y)] u fun e w' => e = .returned (.tuple #[ag (vdl (jdV x y)), .int .i64 (jdC x y)]) ∧ Below u.heap.size u w') := fun u => judged_any x y u
  have HE := eqs_v (jdV x y)
  have hM := Mm.nil w
  generalize jdV x y = V at *
  generalize jdC x y = C at *
  go_enter Try.func5, Try.ntmps5
  repeat' (first | (go_big_may; first | (refine v_box rfl rfl rfl ?_; intro u za hN; replace hM := Mm.new (L := []) hM hN; clear hN) | (refine v_box rfl rfl rfl ?_; intro u zb hN; replace hM := hM.new hN; clear hN) | (refine v_load rfl rfl row_move rfl hM.at1 (Nat.le_refl _) (cut_all rfl) ?_) | (refine v_load rfl rfl row_move rfl hM.at0 (Nat.le_refl _) (cut_all rfl) ?_)) | go_values | go_skip | go_guarded | go_step | go_upon | (simp only [Int.not_lt, Int.not_le] at *; go_simp))
  refine (HJ.out _).mono ?_
  rintro e u1 ⟨rfl, hb⟩
  replace hM := hM.call hb
  clear hb HJ
  repeat' (first | (go_big_may; first | (refine v_alloc rfl zer_verdict rfl ?_; intro u zv hN; replace hM := hM.new hN; clear hN) | (refine v_fill rfl rfl row_verdict rfl rfl hM.at0 (vdl_vs V) rfl ?_; intro u hv hc; replace hM := hM.put0 hc hv; clear hv hc) | (refine v_load rfl rfl row_move rfl hM.at2 (Nat.le_refl _) (cut_all rfl) ?_) | (refine v_load rfl rfl row_move rfl hM.at1 (Nat.le_refl _) (cut_all rfl) ?_)) | go_values | go_skip | go_guarded | go_step | go_upon | (simp only [Int.not_lt, Int.not_le] at *; go_simp))
  refine (HR.out _).mono ?_
  rintro e u2 ⟨rfl, hb⟩
  replace hM := hM.call hb
  clear hb HR
  repeat' (first | (go_big_may; first | (refine v_alloc rfl zer_verdict rfl ?_; intro u zr hN; replace hM := hM.new hN; clear hN) | (refine v_fill rfl rfl row_verdict rfl rfl hM.at0 (vdl_vs V) rfl ?_; intro u hv hc; replace hM := hM.put0 hc hv; clear hv hc) | (refine v_load rfl rfl row_verdict rfl hM.at1 (Nat.le_refl _) (cut_all rfl) ?_) | (refine v_load rfl rfl row_verdict rfl hM.at0 (Nat.le_refl _) (cut_all rfl) ?_) | (refine v_eqs rfl rfl HE rfl rfl ?_)) | go_values | go_skip | go_guarded | go_step | go_upon | (simp only [Int.not_lt, Int.not_le] at *; go_simp))
  go_ret
  exact ⟨rfl, hM.below⟩
end Go.Proofs.Ytecknicmonhcaaa.bulkJudges
