/- strike: what was told, in a place of its own; two of them held against each other; strikeLives; HasPrefix. -/
import Derived.Test.YtgnffifohdgekabStrC
import Derived.Laws.StructEq
namespace Go.Proofs.Ytgnffifohdgekab.strike
open Go.RowKit Go.Proofs.Ytgnffifohdgekab.pipe
set_option linter.unusedVariables false
set_option linter.unusedSimpArgs false
set_option maxRecDepth 100000

theorem cr_laid (u : World) (k : Int) (g : ByteArray) (d n : Int) : ∃ u1 uf, u.alloc (crO 0 ⟨#[]⟩ 0 0) = u1 ∧ (((u1.setCell ⟨u.heap.size, 0, none⟩ (.int .i64 k)).setCell ⟨u.heap.size, 1, none⟩ (.string g)).setCell ⟨u.heap.size, 2, none⟩ (.int .i64 d)).setCell ⟨u.heap.size, 3, none⟩ (.int .i64 n) = uf ∧
    u1.heap[u.heap.size]? = some (crO 0 ⟨#[]⟩ 0 0) ∧ uf.heap[u.heap.size]? = some (crO k g d n) ∧ Below u.heap.size u uf := by
  obtain ⟨u1, hu1, hX1, hb1⟩ := cr_named u 0 ⟨#[]⟩ 0 0
  obtain ⟨uf, huf, hXf, hBf⟩ := cr_put u1 u.heap.size _ _ _ _ k g d n hX1
  exact ⟨u1, uf, hu1, huf, hX1, hXf, hBf _ _ (Nat.le_refl _) hb1⟩
theorem cund : Try.prog.underlying 44 = some (.struct (Try.prog.fieldsOf 44)) := by kernel_rfl
theorem cstood : Try.prog.stoodInHeld 44 = false := by kernel_rfl
theorem cguardT : Try.prog.eqGuardType Try.prog.depth 44 = false := by kernel_rfl
theorem eq_cr (k : Int) (g : ByteArray) (d n : Int) (w : World) : (Op.equalIn 10000 44 (crV k g d n) (crV k g d n)).run Try.prog w = .ok true w := by
  rw [run_equalIn_struct w 9999 44 _ _ cund cstood]
  simp [go_sem]
theorem eql_cr (k : Int) (g : ByteArray) (d n : Int) (w : World) : (binOp .eql 44 (crV k g d n) (crV k g d n)).run Try.prog w = .ok (.bool true) w := by
  rw [run_eql_struct, eq_cr]; rfl
theorem toList_self (g : ByteArray) : (g.toList == g.toList) = true := by simp
def tABC : ByteArray := ⟨#[97, 98, 99]⟩
theorem lives_c : caC 2 tABC [3, 1, 1, 5] = 0 := by decide +kernel
theorem lives_v : caV 2 tABC [3, 1, 1, 5] = ⟨0, tABC, 3, 3⟩ := by
  unfold caV
  rw [if_pos lives_c]
  have hl : (pcs (2 : Int).toNat tABC).length = 2 := by rw [pcs_length]; rfl
  rw [hl]
  have hg : gt 2 (0, 0) 0 [3, 1, 1, 5] = ⟨(2, 2), 0, 3⟩ := by rfl
  rw [hg]
  have hx : tABC.extract 0 (min (2 * (2 : Int).toNat) tABC.size) = tABC := by apply ext_list; rw [ex_list]; rfl
  unfold toC
  rw [hx]
  rfl
set_option maxHeartbeats 1000000 in
theorem lives_any (w : World) : Calls Try.prog 18 #[] w fun e w' => e = .returned (.bool true) ∧ Below w.heap.size w w' := by
  obtain ⟨w1, hw1⟩ : ∃ w1, w.alloc (.cells #[.int .i64 3, .int .i64 1, .int .i64 1, .int .i64 5] 3) = w1 := ⟨_, rfl⟩
  have hb1 : Below w.heap.size w w1 := by rw [← hw1]; exact balloc _ _
  have h1 : Ris w1 (.slice (some ⟨w.heap.size, 0, none⟩) 4 4) [3, 1, 1, 5] := by rw [← hw1]; exact ris_laid w [3, 1, 1, 5] (by decide)
  have HR : Hid (Calls Try.prog 20 #[.string ⟨#[97, 98, 99]⟩, .int .i64 2, .slice (some ⟨w.heap.size, 0, none⟩) 4 4] w1 fun e w' => e = .returned (.tuple #[crV 0 ⟨#[97, 98, 99]⟩ 3 3, .int .i64 0]) ∧ Below w1.heap.size w1 w') := by
    have := carry_any 2 tABC _ [3, 1, 1, 5] w1 (by decide) h1
    rw [lives_c, lives_v] at this
    exact this
  have HB1 : Hid (Below w.heap.size w w1) := hb1
  have heq := fun w => eql_cr 0 ⟨#[97, 98, 99]⟩ 3 3 w
  clear hb1 h1
  go_enter Try.func18, Try.ntmps18
  go_wp2_with fail
  refine HR.out.mono ?_
  rintro e u ⟨rfl, hb⟩
  obtain ⟨u1, uf, hu1, huf, hX1, hXf, hbf⟩ := cr_laid u 0 ⟨#[97, 98, 99]⟩ 3 3
  obtain ⟨⟨hz, x0, x1, x2, x3⟩, f0, f1, f2, f3⟩ := cbox hX1
  obtain ⟨⟨hz', y0, y1, y2, y3⟩, _⟩ := cbox hXf
  have HB : Hid (Below w.heap.size w uf) := bsq HB1.out (bsq hb hbf)
  clear hb hX1 hXf hbf HR HB1
  go_wp2
  try rw [huf]
  go_ret
  exact ⟨rfl, HB.out⟩
set_option maxHeartbeats 400000 in
theorem hasPrefix_front (s p : ByteArray) (w : World) (hs : s.size ≤ maxLen) (hp : p.size ≤ s.size) (h : s.extract 0 p.size = p) :
    Calls Try.prog 21 #[.string s, .string p] w fun e w' => e = .returned (.bool true) ∧ w = w' := by
  have H : Hid (∀ w, Calls Try.prog 32 #[.string s, .string p] w fun e w' => e = .returned (.bool true) ∧ w = w') := fun w => by
    unfold maxLen at hs
    have e := toList_self p
    go_enter Try.func32, Try.ntmps32
    go_wp2
    go_ret
    exact ⟨rfl, rfl⟩
  clear h
  go_enter Try.func21, Try.ntmps21
  go_wp2_with fail
  refine (H.out _).mono ?_
  rintro e w' ⟨rfl, rfl⟩
  go_wp2
  go_ret
  exact ⟨rfl, rfl⟩
end Go.Proofs.Ytgnffifohdgekab.strike
