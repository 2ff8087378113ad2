/- phy: what TrimSuffix answers where the text ends so. -/
import Derived.Test.YtbkdalgmhmaofaaPhyB
namespace Go.Proofs.Ytbkdalgmhmaofaa.lane
open Go.RowKit Go.PlainAid
set_option linter.unusedVariables false

theorem ext_tail (t p : ByteArray) : (t ++ p).extract t.size (t ++ p).size = p := by
  apply nums_inj
  rw [nums_extract, ← nums_length (t ++ p), List.take_length, nums_append, ← nums_length t, List.drop_left]
theorem ext_head (t p : ByteArray) : (t ++ p).extract 0 t.size = t := by
  apply nums_inj
  rw [nums_extract, nums_append, ← nums_length t, List.take_left, List.drop_zero]
set_option maxHeartbeats 400000 in
theorem hasSuffixLite_yes (t p : ByteArray) (w : World) (hs : (t ++ p).size ≤ 1048576) :
    Calls Try.prog 47 #[.string (t ++ p), .string p] w fun e w' => e = .returned (.bool true) ∧ w = w' := by
  have hz : (t ++ p).size = t.size + p.size := ByteArray.size_append
  have e := ext_tail t p
  obtain ⟨s, h⟩ : ∃ s, t ++ p = s := ⟨_, rfl⟩
  rw [h] at hz hs e ⊢
  rw [hz] at e
  clear h
  have g1 : (p.size : Int) ≤ s.size := by omega
  have g2 : s.size - p.size = t.size := by omega
  go_enter Try.func47, Try.ntmps47
  go_wp2
  go_ret
  exact ⟨rfl, rfl⟩
set_option maxHeartbeats 400000 in
theorem trimSuffix_yes (t p : ByteArray) (w : World) (hs : (t ++ p).size ≤ 1048576) :
    Calls Try.prog 10 #[.string (t ++ p), .string p] w fun e w' => e = .returned (.string t) ∧ w = w' := by
  have H : Hid (∀ w, Calls Try.prog 47 #[.string (t ++ p), .string p] w fun e w' => e = .returned (.bool true) ∧ w = w') := fun w => hasSuffixLite_yes t p w hs
  have hz : (t ++ p).size = t.size + p.size := ByteArray.size_append
  have e := ext_head t p
  obtain ⟨s, h⟩ : ∃ s, t ++ p = s := ⟨_, rfl⟩
  rw [h] at hz hs e H ⊢
  clear h
  have H2 : Hid (∀ w, Calls Try.prog 29 #[.string s, .string p] w fun e w' => e = .returned (.string t) ∧ w = w') := by
    intro w
    go_enter Try.func29, Try.ntmps29
    go_wp2_with fail
    refine (H.out _).mono ?_
    rintro r u ⟨rfl, rfl⟩
    go_wp2
    go_ret
    exact ⟨rfl, rfl⟩
  go_enter Try.func10, Try.ntmps10
  go_wp2_with fail
  refine (H2.out _).mono ?_
  rintro r u ⟨rfl, rfl⟩
  go_wp2
  go_ret
  exact ⟨rfl, rfl⟩
end Go.Proofs.Ytbkdalgmhmaofaa.lane
