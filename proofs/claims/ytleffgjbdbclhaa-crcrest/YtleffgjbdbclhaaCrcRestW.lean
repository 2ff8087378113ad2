/- CrcRest: the walk. -/
import Derived.Test.YtleffgjbdbclhaaCrcA
import Derived.Below
import Derived.Laws.BytesArg
namespace Go.Proofs.Ytleffgjbdbclhaa.crcRest
open Go.RowKit Go.PlainAid Go.Proofs.Ytleffgjbdbclhaa.lane Go.Proofs.Ytleffgjbdbclhaa.crc

set_option linter.unusedVariables false
set_option maxHeartbeats 2000000 in
theorem walk (a0 : ByteArray) (w0 : a0.size ≤ maxLen) (hs0 : a0.size ≤ 140737488351232) (w : World) :
    Calls Try.prog 7 #[.string a0] w fun e w' => e = .returned (.bool true) ∧ Below w.heap.size w w' := by
  clear w0
  go_enter Try.func7, Try.ntmps7
  go_wp2_with fail
  refine (sixteen_any a0 (by unfold maxLen; omega) _).mono ?_
  rintro e u1 ⟨rfl, rfl⟩
  obtain ⟨n, hn⟩ : ∃ n, n = more 0 (nums a0) := ⟨_, rfl⟩
  have hn1 : n < 65536 := by rw [hn]; exact more_lt _ (by decide)
  rw [← hn]
  have HN : Hid (n = more 0 (nums a0)) := hn
  clear hn
  go_wp2_with fail
  refine (lives_any _).mono ?_
  rintro e u1 ⟨rfl, rfl⟩
  have hcv : (convert 32 9 (.slice (some ⟨w.heap.size, 0, none⟩) 2 2)).run Try.prog (w.alloc (.cells #[.int .u8 ((n : Int) % 256), .int .u8 ((n : Int) / 256)] 5)) =
      .ok (.string (strOfNums [(n : Int) % 256, (n : Int) / 256])) (w.alloc (.cells #[.int .u8 ((n : Int) % 256), .int .u8 ((n : Int) / 256)] 5)) := by
    refine run_convert_bytes_arg _ 32 5 Try.underlying32 Try.underlying5 w.heap.size 0 2 2 [(n : Int) % 256, (n : Int) / 256] rfl ?_ 9 Try.underlying9
    intro i hi
    rw [World.cell?_alloc_new]
    match i, hi with
    | 0, _ => rfl
    | 1, _ => rfl
  have hz : (a0 ++ strOfNums [(n : Int) % 256, (n : Int) / 256]).size = a0.size + 2 := by rw [ByteArray.size_append, str_size]; rfl
  have hz2 : (strOfNums [(n : Int) % 256, (n : Int) / 256]).size = 2 := by rw [str_size]; rfl
  have HR : Hid (more 0 (nums (a0 ++ strOfNums [(n : Int) % 256, (n : Int) / 256])) = 20478) := by
    show _ = _
    rw [nums_append, nums_str _ (by intro x hx; simp at hx; rcases hx with rfl | rfl <;> omega)]
    have h := rest (nums a0) (nums_byt a0) n HN.out
    simpa using h
  go_wp2_with fail
  refine (sixteen_any (a0 ++ strOfNums [(n : Int) % 256, (n : Int) / 256]) (by unfold maxLen; omega) _).mono ?_
  rw [HR.out]
  rintro e u1 ⟨rfl, rfl⟩
  go_wp2
  go_ret
  exact ⟨rfl, (Below.refl _ _).alloc (Nat.le_refl _) _⟩
end Go.Proofs.Ytleffgjbdbclhaa.crcRest
