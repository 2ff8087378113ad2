/- strike: what was told, in a place of its own; two of them held against each other; strikeLives; HasPrefix. -/
import Derived.Test.YtgnffifohdgekaaStrC
import Derived.Laws.StructEq
namespace Go.Proofs.Ytgnffifohdgekaa.strike
open Go.RowKit Go.Proofs.Ytgnffifohdgekaa.pipe
set_option linter.unusedVariables false
set_option linter.unusedSimpArgs false
set_option maxRecDepth 100000

theorem cr_laid (u : World) (k : Int) (g : ByteArray) (d n : Int) : ∃ u1 uf, u.alloc (crO 0 ⟨#[]⟩ 0 0) = u1 ∧ (((u1.setCell ⟨u.heap.size, 0, none⟩ (.int .i64 k)).setCell ⟨u.heap.size, 1, none⟩ (.string g)).setCell ⟨u.heap.size, 2, none⟩ (.int .i64 d)).setCell ⟨u.heap.size, 3, none⟩ (.int .i64 n) = uf ∧
    u1.heap[u.heap.size]? = some (crO 0 ⟨#[]⟩ 0 0) ∧ uf.heap[u.heap.size]? = some (crO k g d n) ∧ Below u.heap.size u uf := by
  obtain ⟨u1, hu1, hX1, hb1⟩ := cr_named u 0 ⟨#[]⟩ 0 0
  obtain ⟨uf, huf, hXf, hBf⟩ := cr_put u1 u.heap.size _ _ _ _ k g d n hX1
  exact ⟨u1, uf, hu1, huf, hX1, hXf, hBf _ _ (Nat.le_refl _) hb1⟩
theorem cund : Try.prog.underlying 41 = some (.struct (Try.prog.fieldsOf 41)) := by kernel_rfl
theorem cstood : Try.prog.stoodInHeld 41 = false := by kernel_rfl
theorem cguardT : Try.prog.eqGuardType Try.prog.depth 41 = false := by kernel_rfl
theorem eq_cr (k : Int) (g : ByteArray) (d n : Int) (w : World) : (Op.equalIn 10000 41 (crV k g d n) (crV k g d n)).run Try.prog w = .ok true w := by
  rw [run_equalIn_struct w 9999 41 _ _ cund cstood]
  simp [go_sem]
theorem eql_cr (k : Int) (g : ByteArray) (d n : Int) (w : World) : (binOp .eql 41 (crV k g d n) (crV k g d n)).run Try.prog w = .ok (.bool true) w := by
  rw [run_eql_struct, eq_cr]; rfl
theorem toList_self (g : ByteArray) : (g.toList == g.toList) = true := by simp
end Go.Proofs.Ytgnffifohdgekaa.strike
