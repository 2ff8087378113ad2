/- plugkeep.ringLives: a ring of two places has room for one word. -/
import Derived.Test.YtmapnkjmgpkhfabRngQ
namespace Go.Proofs.Ytmapnkjmgpkhfab.ring
open Go Go.RowKit
set_option linter.unusedVariables false
set_option linter.unusedSimpArgs false
set_option maxRecDepth 100000

def tcells (T : List Tn) : List Value := T.flatMap tcell
theorem tcells_cons (x : Tn) (r : List Tn) : tcells (x :: r) = .int .i64 x.1 :: .int .u64 x.2 :: tcells r := rfl
theorem tcells_at : ∀ (T : List Tn) (j : Nat) (x : Tn), T[j]? = some x → (tcells T)[j * 2]? = some (.int .i64 x.1) ∧ (tcells T)[j * 2 + 1]? = some (.int .u64 x.2)
  | [], j, x, h => by simp at h
  | y :: r, 0, x, h => by simp at h; subst h; exact ⟨rfl, rfl⟩
  | y :: r, j + 1, x, h => by
    have := tcells_at r j x (by simpa using h)
    rw [tcells_cons, show (j + 1) * 2 = j * 2 + 1 + 1 by omega]
    exact this
theorem rtn_laid (w : World) (T : List Tn) (h : T.length ≤ 1000) : Rtn (w.alloc (.cells (tcells T).toArray 52)) (.slice (some ⟨w.heap.size, 0, none⟩) T.length T.length) T := by
  refine ⟨_, _, rfl, Nat.le_refl _, by unfold maxLen; omega, fun _ => ⟨_, _, rfl, by simp, fun j x hx => ?_⟩⟩
  rw [Nat.zero_add, cell_of_row _ _ _ _ _ (0, 0) (MapKept.heap_alloc w _).1, cell_of_row _ _ _ _ _ (0, 0) (MapKept.heap_alloc w _).1]
  have := tcells_at T j x hx
  simpa using this
def lvT : List Tn := [(1, 7), (1, 8), (2, 0), (1, 9), (3, 0), (1, 10), (2, 0), (2, 0)]
theorem lives_c : plC 3 lvT = 0 ∧ plL 3 lvT = [7, 10] := by decide +kernel
set_option maxHeartbeats 1000000 in
theorem lives_any (w : World) : Calls Try.prog 7 #[] w fun e w' => e = .returned (.bool true) ∧ Below w.heap.size w w' := by
  obtain ⟨w1, hw1⟩ : ∃ w1, w.alloc (.cells #[.int .i64 1, .int .u64 7, .int .i64 1, .int .u64 8, .int .i64 2, .int .u64 0, .int .i64 1, .int .u64 9, .int .i64 3, .int .u64 0, .int .i64 1, .int .u64 10, .int .i64 2, .int .u64 0, .int .i64 2, .int .u64 0] 52) = w1 := ⟨_, rfl⟩
  have hb1 : Below w.heap.size w w1 := by rw [← hw1]; exact balloc _ _
  have h1 : Rtn w1 (.slice (some ⟨w.heap.size, 0, none⟩) 8 8) lvT := by rw [← hw1]; exact rtn_laid w lvT (by decide)
  obtain ⟨V, hV⟩ : ∃ V, plR 3 lvT = V := ⟨_, rfl⟩
  have HT : Hid (Calls Try.prog 17 #[.int .i64 3, .slice (some ⟨w.heap.size, 0, none⟩) 8 8] w1 fun e w' => ∃ v' gv, e = .returned (.tuple #[rgW v' V, gv, .int .i64 0]) ∧ Ces w' w1.heap.size v' V.C ∧ Wds w' w1.heap.size gv [7, 10] ∧ Below w1.heap.size w1 w') := by
    have := Play_any 3 (.slice (some ⟨w.heap.size, 0, none⟩) 8 8) lvT w1 h1
    rw [hV, lives_c.1, lives_c.2] at this
    exact this
  have HB1 : Hid (Below w.heap.size w w1) := hb1
  obtain ⟨VC, vpa, vpb, vga, vgb, vsn⟩ := V
  clear hb1 h1 hV
  go_enter Try.func7, Try.ntmps7
  go_wp2_with fail
  refine HT.out.mono ?_
  rintro e u1 ⟨v1, gv, rfl, hv1, hgv, hb⟩
  obtain ⟨u1', u2, hu1', hu2, hY1, hY2, hb2⟩ := laid6 u1 26 (.slice none 0 0) (.int .i64 0) (.int .i64 0) (.int .i64 0) (.int .i64 0) (.int .i64 0) v1 (.int .i64 vpa) (.int .i64 vpb) (.int .i64 vga) (.int .i64 vgb) (.int .i64 vsn)
  obtain ⟨va, vn, vc, rfl⟩ : ∃ a n c, v1 = .slice a n c := by obtain ⟨a, c, h, _⟩ := hv1.form; exact ⟨_, _, _, h⟩
  obtain ⟨ua, un, uc, rfl⟩ : ∃ a n c, gv = .slice a n c := by obtain ⟨a, c, h, _⟩ := hgv.form; exact ⟨_, _, _, h⟩
  obtain ⟨u3, hu3⟩ : ∃ u3, u2.alloc (.cells #[.int .u64 7, .int .u64 10] 27) = u3 := ⟨_, rfl⟩
  have hb3 : Below u2.heap.size u2 u3 := by rw [← hu3]; exact balloc _ _
  have h3 : Rws u3 (.slice (some ⟨u2.heap.size, 0, none⟩) 2 2) [7, 10] := by rw [← hu3]; exact rws_laid u2 [7, 10] (by decide)
  have HS : Hid (Calls Try.prog 18 #[.slice ua un uc, .slice (some ⟨u2.heap.size, 0, none⟩) 2 2] u3 fun e w' => e = .returned (.bool true) ∧ Below u3.heap.size u3 w') := by
    have := equalW_any (.slice ua un uc) (.slice (some ⟨u2.heap.size, 0, none⟩) 2 2) [7, 10] [7, 10] u3 (hgv.rws.below (bsq hb2 hb3)) h3
    rw [decide_eq_true rfl] at this
    exact this
  have HB3 : Hid (Below w.heap.size w u3) := bsq HB1.out (bsq hb (bsq hb2 hb3))
  obtain ⟨⟨hz1, t0, t1, t2, t3, t4, t5⟩, f0, f1, f2, f3, f4, f5⟩ := box6 hY1
  clear hv1 hgv hb hY1 hY2 hb2 hb3 h3 HT HB1 hw1
  go_upto_region 2 with (fail)
  try rw [hu2]
  clear hu2 hu1' t0 t1 t2 t3 t4 t5 f0 f1 f2 f3 f4 f5
  go_wp2_with fail
  try rw [hu3]
  refine HS.out.mono ?_
  rintro e u4 ⟨rfl, hb4⟩
  have HB4 : Hid (Below w.heap.size w u4) := bsq HB3.out hb4
  clear hb4 HS HB3
  go_wp2
  go_ret
  exact ⟨rfl, HB4.out⟩
end Go.Proofs.Ytmapnkjmgpkhfab.ring
