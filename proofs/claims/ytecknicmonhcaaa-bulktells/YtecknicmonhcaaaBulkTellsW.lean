/- BulkTells: the walk. -/
import Derived.Test.YtecknicmonhcaaaBulE
import Derived.Test.YtecknicmonhcaaaBulT
import Derived.Test.YtecknicmonhcaaaBulV
namespace Go.Proofs.Ytecknicmonhcaaa.bulkTells
open Go Go.RowKit Go.PlainAid Go.Proofs.Ytecknicmonhcaaa.lane Go.Proofs.Ytecknicmonhcaaa.pipe Go.Proofs.Ytecknicmonhcaaa.strike Go.Proofs.Ytecknicmonhcaaa.bulk
set_option linter.unusedVariables false
set_option linter.unusedSimpArgs false
set_option maxRecDepth 100000

set_option maxHeartbeats 4000000 in
theorem walk (x : Sp) (s : ByteArray) (hs : s.size ≤ maxLen) (w : World) (hx : True) :
    Calls Try.prog 4 #[ag (spl x), .string s] w fun e w' => e = .returned (.bool true) ∧ Below w.heap.size w w' := by
  have H1 : Hid (∀ u, Calls Try.prog 13 #[ag (spl x)] u fun e w' => e = .returned (.tuple #[.string (stT x), .int .i64 (stC x)]) ∧ Below u.heap.size u w') := fun u => writeStatus_any x u
  have H2 : Hid (∀ u, Calls Try.prog 14 #[ag (spl x)] u fun e w' => e = .returned (.tuple #[.string (stT x), .int .i64 (stC x)]) ∧ Below u.heap.size u w') := fun u => statusText_any x u
  have H3 : Hid (∀ u, Calls Try.prog 15 #[.string s] u fun e w' => e = .returned (.tuple #[ag (spl (rsW s)), .int .i64 (rsC s)]) ∧ Below u.heap.size u w') := fun u => readStatus_any s hs u
  have H4 : Hid (∀ u, Calls Try.prog 16 #[.string s] u fun e w' => e = .returned (.tuple #[ag (spl (rsW s)), .int .i64 (rsC s)]) ∧ Below u.heap.size u w') := fun u => rreadStatus_any s hs u
  have HE := eqs_s (rsW s)
  have hM := Mm.nil w
  have hTT : ((stT x).toList == (stT x).toList) = true := by simp
  generalize rsW s = y at *
  generalize rsC s = C at *
  generalize stT x = T at *
  generalize stC x = D at *
  clear hs
  go_enter Try.func4, Try.ntmps4
  repeat' (first | (go_big_may; first | (refine v_box rfl rfl rfl ?_; intro u zx hN; replace hM := hM.new hN; clear hN) | (refine v_load rfl rfl row_status rfl hM.at0 (Nat.le_refl _) (cut_all rfl) ?_)) | go_values | go_skip | go_guarded | go_step | go_upon | (simp only [Int.not_lt, Int.not_le] at *; go_simp))
  refine (H1.out _).mono ?_
  rintro e u1 ⟨rfl, hb⟩
  replace hM := hM.call hb
  clear hb H1
  repeat' (first | (go_big_may; first | (refine v_load rfl rfl row_status rfl hM.at0 (Nat.le_refl _) (cut_all rfl) ?_)) | go_values | go_skip | go_guarded | go_step | go_upon | (simp only [Int.not_lt, Int.not_le] at *; go_simp))
  refine (H2.out _).mono ?_
  rintro e u1 ⟨rfl, hb⟩
  replace hM := hM.call hb
  clear hb H2
  repeat' (first | go_values | go_skip | go_guarded | go_step | go_upon | (simp only [Int.not_lt, Int.not_le] at *; go_simp))
  refine (H3.out _).mono ?_
  rintro e u1 ⟨rfl, hb⟩
  replace hM := hM.call hb
  clear hb H3
  repeat' (first | (go_big_may; first | (refine v_alloc rfl zer_status rfl ?_; intro u za hN; replace hM := hM.new hN; clear hN) | (refine v_fill rfl rfl row_status rfl rfl hM.at0 (spl_vs y) rfl ?_; intro u hv hc; replace hM := hM.put0 hc hv; clear hv hc)) | go_values | go_skip | go_guarded | go_step | go_upon | (simp only [Int.not_lt, Int.not_le] at *; go_simp))
  refine (H4.out _).mono ?_
  rintro e u1 ⟨rfl, hb⟩
  replace hM := hM.call hb
  clear hb H4
  repeat' (first | (go_big_may; first | (refine v_alloc rfl zer_status rfl ?_; intro u zb hN; replace hM := hM.new hN; clear hN) | (refine v_fill rfl rfl row_status rfl rfl hM.at0 (spl_vs y) rfl ?_; intro u hv hc; replace hM := hM.put0 hc hv; clear hv hc) | (refine v_load rfl rfl row_status rfl hM.at1 (Nat.le_refl _) (cut_all rfl) ?_) | (refine v_load rfl rfl row_status rfl hM.at0 (Nat.le_refl _) (cut_all rfl) ?_) | (refine v_eqs rfl rfl HE rfl rfl ?_)) | go_values | go_skip | go_guarded | go_step | go_upon | (simp only [Int.not_lt, Int.not_le] at *; go_simp))
  go_ret
  exact ⟨rfl, hM.below⟩
end Go.Proofs.Ytecknicmonhcaaa.bulkTells
