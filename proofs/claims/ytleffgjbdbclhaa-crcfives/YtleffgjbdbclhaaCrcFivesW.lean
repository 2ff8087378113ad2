/- CrcFives: the walk. -/
import Derived.Test.YtleffgjbdbclhaaCrcT
import Derived.OpenShut
namespace Go.Proofs.Ytleffgjbdbclhaa.crcFives
open Go.RowKit Go.PlainAid Go.Proofs.Ytleffgjbdbclhaa.lane Go.Proofs.Ytleffgjbdbclhaa.crc

set_option linter.unusedVariables false
set_option maxHeartbeats 2000000 in
theorem walk (a0 : Int) (w0 : (Lit.int .u16 a0).wf = true) (w : World) :
    Calls Try.prog 3 #[.int .u16 a0] w fun e w' => e = .returned (.bool true) ∧ Below w.heap.size w w' := by
  have b0 := bounds_u16 w0
  clear w0
  obtain ⟨n, rfl⟩ := Int.eq_ofNat_of_zero_le b0.1
  by_cases hn : n < 2048
  · have HN : Hid (n < 2048) := hn
    clear hn b0
    go_enter Try.func3, Try.ntmps3
    go_wp2_with fail
    refine (five_ok n HN.out _).mono ?_
    rintro e w1 ⟨rfl, rfl⟩
    go_wp2_with fail
    refine (rfive_ok n HN.out _).mono ?_
    generalize five n = f
    rintro e w1 ⟨rfl, hb⟩
    go_wp2
    go_ret
    exact ⟨rfl, hb⟩
  · have HN : Hid (2048 ≤ n) := by show _ ≤ _; omega
    clear hn b0
    go_enter Try.func3, Try.ntmps3
    go_wp2_with fail
    refine (five_no n HN.out _).mono ?_
    rintro e w1 ⟨rfl, rfl⟩
    go_wp2_with fail
    refine (rfive_no n HN.out _).mono ?_
    rintro e w1 ⟨rfl, hb⟩
    go_wp2
    go_ret
    exact ⟨rfl, hb⟩
end Go.Proofs.Ytleffgjbdbclhaa.crcFives
