/- setup: what shapeOf answers, where it calls nothing. -/
import Derived.Test.YtdnmjeiljpdmcaaSetA
namespace Go.Proofs.Ytdnmjeiljpdmcaa.setup
open Go.RowKit Go.PlainAid Go.Proofs.Ytdnmjeiljpdmcaa.lane
set_option linter.unusedVariables false

def shk (k : Int) : Value := shv (col k 0) (col k 1) (col k 2) (col k 3) (col k 4) (col k 5) (col k 6) (col k 7) (te k)
theorem b5 (w : World) (o1 o2 o3 o4 o5 : Obj) : Below w.heap.size w (((((w.alloc o1).alloc o2).alloc o3).alloc o4).alloc o5) := bsq (bsq (bsq (bsq (balloc _ _) (balloc _ _)) (balloc _ _)) (balloc _ _)) (balloc _ _)
theorem shk_num : shk 1 = shv 128 0 0 0 0 0 2 2 false ∧ shk 2 = shv 2 1 0 0 0 0 0 0 true ∧ shk 3 = shv 2 3 0 0 0 0 0 0 true ∧ shk 4 = shv 0 5 0 127 0 0 0 0 false ∧ shk 5 = shv 128 6 0 65535 0 65535 0 65535 false ∧ shk 6 = shv 0 9 0 255 0 0 0 0 false ∧
    shk 7 = shv 128 8 0 0 0 0 1 1 false ∧ shk 8 = shv 163 0 0 0 1 15 4 4 false ∧ shk 9 = shv 35 3 0 31 1 15 0 0 false ∧ shk 10 = shv 35 1 0 31 1 15 0 0 false ∧ shk 11 = shv 33 255 0 0 0 255 0 0 false ∧ shk 12 = shv 161 254 0 0 0 255 1 1 false ∧
    shk 13 = shv 33 10 0 65535 0 255 0 0 false ∧ shk 14 = shv 33 9 512 512 0 255 1 1 false := ⟨rfl, rfl, rfl, rfl, rfl, rfl, rfl, rfl, rfl, rfl, rfl, rfl, rfl, rfl⟩
set_option maxHeartbeats 4000000 in
theorem shape_plain (k : Int) (h : k = 2 ∨ k = 3 ∨ k = 4 ∨ k = 5 ∨ k = 6 ∨ k = 9 ∨ k = 10 ∨ k = 11 ∨ k = 13) (w : World) :
    Calls Try.prog 42 #[.int .i64 k] w fun e w' => e = .returned (.tuple #[shk k, .bool true]) ∧ Below w.heap.size w w' := by
  rcases h with rfl | rfl | rfl | rfl | rfl | rfl | rfl | rfl | rfl
  all_goals go_enter Try.func42, Try.ntmps42
  all_goals go_wp2
  all_goals exact bodyPost_ret (by simp [results, Try.results42, go_sem]; rfl) rfl ⟨rfl, b5 _ _ _ _ _ _⟩
end Go.Proofs.Ytdnmjeiljpdmcaa.setup
