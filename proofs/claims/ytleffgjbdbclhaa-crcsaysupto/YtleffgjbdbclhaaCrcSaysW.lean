/- CrcSays: the walk. -/
import Derived.Test.YtleffgjbdbclhaaCrcT
import Derived.OpenShut
namespace Go.Proofs.Ytleffgjbdbclhaa.crcSays
open Go.RowKit Go.PlainAid Go.Proofs.Ytleffgjbdbclhaa.lane Go.Proofs.Ytleffgjbdbclhaa.crc

set_option linter.unusedVariables false
set_option maxHeartbeats 2000000 in
theorem walk (a0 : Int) (a1 : ByteArray) (w0 : (Lit.int .u16 a0).wf = true) (w1 : a1.size ≤ maxLen) (hs1 : a1.size ≤ 1048576) (w : World) :
    Calls Try.prog 4 #[.int .u16 a0, .string a1] w fun e w' => e = .returned (.bool true) ∧ Below w.heap.size w w' := by
  have b0 := bounds_u16 w0
  clear w0 w1
  obtain ⟨n, rfl⟩ := Int.eq_ofNat_of_zero_le b0.1
  have hn : n < 65536 := by omega
  clear b0
  have HM : Hid (a1.size ≤ maxLen) := by show _ ≤ _; unfold maxLen; omega
  have c1 := fun w => sixteen_any a1 HM.out w
  have c2 := fun w => rmore_any 0 a1 (by decide) hs1 w
  have c3 := fun w => more_any n a1 hn HM.out w
  have c4 := fun w => rmore_any n a1 hn hs1 w
  generalize more 0 (nums a1) = f at c1 c2
  generalize more n (nums a1) = g at c3 c4
  have C1 : Hid _ := c1
  have C2 : Hid _ := c2
  have C3 : Hid _ := c3
  have C4 : Hid _ := c4
  clear c1 c2 c3 c4
  go_enter Try.func4, Try.ntmps4
  go_wp2_with fail
  refine (C1.out _).mono ?_
  rintro e u1 ⟨rfl, rfl⟩
  go_wp2_with fail
  refine (C2.out _).mono ?_
  rintro e u1 ⟨rfl, hb1⟩
  go_wp2_with fail
  refine (C3.out _).mono ?_
  rintro e u2 ⟨rfl, rfl⟩
  go_wp2_with fail
  refine (C4.out _).mono ?_
  rintro e u3 ⟨rfl, hb2⟩
  go_wp2
  go_ret
  exact ⟨rfl, bseq hb1 hb2⟩
end Go.Proofs.Ytleffgjbdbclhaa.crcSays
