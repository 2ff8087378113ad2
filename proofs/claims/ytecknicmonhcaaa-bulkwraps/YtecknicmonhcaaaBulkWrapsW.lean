/- BulkWraps: the walk. -/
import Derived.Test.YtecknicmonhcaaaBulE
import Derived.Test.YtecknicmonhcaaaBulU
import Derived.Test.YtecknicmonhcaaaBulV
namespace Go.Proofs.Ytecknicmonhcaaa.bulkWraps
open Go Go.RowKit Go.PlainAid Go.Proofs.Ytecknicmonhcaaa.lane Go.Proofs.Ytecknicmonhcaaa.pipe Go.Proofs.Ytecknicmonhcaaa.strike Go.Proofs.Ytecknicmonhcaaa.bulk
set_option linter.unusedVariables false
set_option linter.unusedSimpArgs false
set_option maxRecDepth 100000

set_option maxHeartbeats 4000000 in
theorem walk (x : Wp) (s : ByteArray) (hs : s.size ≤ maxLen) (w : World) (hx : x.cmd.size ≤ maxLen) :
    Calls Try.prog 3 #[ag (wpl x), .string s] w fun e w' => e = .returned (.bool true) ∧ Below w.heap.size w w' := by
  have H1 : Hid (∀ u, Calls Try.prog 9 #[ag (wpl x)] u fun e w' => e = .returned (.tuple #[.string (wrT x), .int .i64 (wrC x)]) ∧ Below u.heap.size u w') := fun u => writeWrap_any x hx u
  have H2 : Hid (∀ u, Calls Try.prog 10 #[ag (wpl x)] u fun e w' => e = .returned (.tuple #[.string (wrT x), .int .i64 (wrC x)]) ∧ Below u.heap.size u w') := fun u => wrapText_any x hx u
  have H3 : Hid (∀ u, Calls Try.prog 11 #[.string s] u fun e w' => e = .returned (.tuple #[ag (wpl (rdW s)), .int .i64 (rdC s)]) ∧ Below u.heap.size u w') := fun u => readWrap_any s hs u
  have H4 : Hid (∀ u, Calls Try.prog 12 #[.string s] u fun e w' => e = .returned (.tuple #[ag (wpl (rdW s)), .int .i64 (rdC s)]) ∧ Below u.heap.size u w') := fun u => rreadWrap_any s hs u
  have HE := eqs_w (rdW s)
  have hM := Mm.nil w
  have hTT : ((wrT x).toList == (wrT x).toList) = true := by simp
  generalize rdW s = y at *
  generalize rdC s = C at *
  generalize wrT x = T at *
  generalize wrC x = D at *
  clear hs hx
  go_enter Try.func3, Try.ntmps3
  repeat' (first | (go_big_may; first | (refine v_box rfl rfl rfl ?_; intro u zx hN; replace hM := hM.new hN; clear hN) | (refine v_load rfl rfl row_wrap rfl hM.at0 (Nat.le_refl _) (cut_all rfl) ?_)) | go_values | go_skip | go_guarded | go_step | go_upon | (simp only [Int.not_lt, Int.not_le] at *; go_simp))
  refine (H1.out _).mono ?_
  rintro e u1 ⟨rfl, hb⟩
  replace hM := hM.call hb
  clear hb H1
  repeat' (first | (go_big_may; first | (refine v_load rfl rfl row_wrap rfl hM.at0 (Nat.le_refl _) (cut_all rfl) ?_)) | go_values | go_skip | go_guarded | go_step | go_upon | (simp only [Int.not_lt, Int.not_le] at *; go_simp))
  refine (H2.out _).mono ?_
  rintro e u1 ⟨rfl, hb⟩
  replace hM := hM.call hb
  clear hb H2
  repeat' (first | go_values | go_skip | go_guarded | go_step | go_upon | (simp only [Int.not_lt, Int.not_le] at *; go_simp))
  refine (H3.out _).mono ?_
  rintro e u1 ⟨rfl, hb⟩
  replace hM := hM.call hb
  clear hb H3
  repeat' (first | (go_big_may; first | (refine v_alloc rfl zer_wrap rfl ?_; intro u za hN; replace hM := hM.new hN; clear hN) | (refine v_fill rfl rfl row_wrap rfl rfl hM.at0 (wpl_vs y) rfl ?_; intro u hv hc; replace hM := hM.put0 hc hv; clear hv hc)) | go_values | go_skip | go_guarded | go_step | go_upon | (simp only [Int.not_lt, Int.not_le] at *; go_simp))
  refine (H4.out _).mono ?_
  rintro e u1 ⟨rfl, hb⟩
  replace hM := hM.call hb
  clear hb H4
  repeat' (first | (go_big_may; first | (refine v_alloc rfl zer_wrap rfl ?_; intro u zb hN; replace hM := hM.new hN; clear hN) | (refine v_fill rfl rfl row_wrap rfl rfl hM.at0 (wpl_vs y) rfl ?_; intro u hv hc; replace hM := hM.put0 hc hv; clear hv hc) | (refine v_load rfl rfl row_wrap rfl hM.at1 (Nat.le_refl _) (cut_all rfl) ?_) | (refine v_load rfl rfl row_wrap rfl hM.at0 (Nat.le_refl _) (cut_all rfl) ?_) | (refine v_eqs rfl rfl HE rfl rfl ?_)) | go_values | go_skip | go_guarded | go_step | go_upon | (simp only [Int.not_lt, Int.not_le] at *; go_simp))
  go_ret
  exact ⟨rfl, hM.below⟩
end Go.Proofs.Ytecknicmonhcaaa.bulkWraps
