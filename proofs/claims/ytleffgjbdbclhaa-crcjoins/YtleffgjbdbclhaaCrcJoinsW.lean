/- CrcJoins: the walk. -/
import Derived.Test.YtleffgjbdbclhaaCrcA
import Derived.Below
namespace Go.Proofs.Ytleffgjbdbclhaa.crcJoins
open Go.RowKit Go.PlainAid Go.Proofs.Ytleffgjbdbclhaa.lane Go.Proofs.Ytleffgjbdbclhaa.crc

set_option linter.unusedVariables false
set_option maxHeartbeats 2000000 in
theorem walk (a0 : ByteArray) (a1 : ByteArray) (a2 : ByteArray) (w0 : a0.size ≤ maxLen) (w1 : a1.size ≤ maxLen) (w2 : a2.size ≤ maxLen) (hs0 : a0.size ≤ 140737488351232) (hs1 : a1.size ≤ 140737488351232) (hs2 : a2.size ≤ 140737488351232) (w : World) :
    Calls Try.prog 5 #[.string a0, .string a1, .string a2] w fun e w' => e = .returned (.bool true) ∧ Below w.heap.size w w' := by
  clear w0 w1 w2
  have hz : (a0 ++ a1).size = a0.size + a1.size := ByteArray.size_append
  have hz2 : (a0 ++ a1 ++ a2).size = (a0 ++ a1).size + a2.size := ByteArray.size_append
  have hj : more 0 (nums (a0 ++ a1 ++ a2)) = more (more (more 0 (nums a0)) (nums a1)) (nums a2) := by
    rw [nums_append, nums_append, more_append, more_append]
  have h1 : more 0 (nums a0) < 65536 := more_lt _ (by decide)
  have h2 : more (more 0 (nums a0)) (nums a1) < 65536 := more_lt _ h1
  go_enter Try.func5, Try.ntmps5
  go_wp2_with fail
  refine (lives_any _).mono ?_
  rintro e u1 ⟨rfl, rfl⟩
  go_wp2_with fail
  refine (sixteen_any a0 (by unfold maxLen; omega) _).mono ?_
  rintro e u1 ⟨rfl, rfl⟩
  go_wp2_with fail
  refine (more_any _ a1 h1 (by unfold maxLen; omega) _).mono ?_
  rintro e u1 ⟨rfl, rfl⟩
  go_wp2_with fail
  refine (more_any _ a2 h2 (by unfold maxLen; omega) _).mono ?_
  rintro e u1 ⟨rfl, rfl⟩
  go_wp2_with fail
  refine (sixteen_any (a0 ++ a1 ++ a2) (by unfold maxLen; omega) _).mono ?_
  rintro e u1 ⟨rfl, rfl⟩
  rw [hj]
  go_wp2
  go_ret
  exact ⟨rfl, Below.refl _ _⟩
end Go.Proofs.Ytleffgjbdbclhaa.crcJoins
