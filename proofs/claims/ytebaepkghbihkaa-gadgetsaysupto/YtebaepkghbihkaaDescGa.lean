/- desc: what ReadDevice answers of any text. -/
import Derived.Test.YtebaepkghbihkaaDescG
namespace Go.Proofs.Ytebaepkghbihkaa.desc
open Go.RowKit Go.PlainAid Go.Proofs.Ytebaepkghbihkaa.lane
set_option linter.unusedVariables false
set_option linter.unusedSimpArgs false

set_option maxRecDepth 100000 in
set_option maxHeartbeats 1000000 in
theorem readDevice_short (s : ByteArray) (w : World) (h18 : s.size < 18) :
    Calls Try.prog 18 #[.string s] w fun e w' => e = .returned (.tuple #[dvV noD, .int .i64 3]) ∧ Below w.heap.size w w' := by
  obtain ⟨v, hv⟩ : ∃ v, w.alloc (.cells #[.int .i64 0, .int .i64 0, .int .i64 0, .int .i64 0, .int .i64 0, .int .i64 0, .int .i64 0, .int .i64 0, .int .i64 0, .int .i64 0, .int .i64 0, .int .i64 0] 23) = v := ⟨_, rfl⟩
  have HB0 : Hid (Below w.heap.size w v) := by rw [← hv]; exact balloc _ _
  have hRv : v.heap[w.heap.size]? = some (dvO noD) := by rw [← hv]; exact (MapKept.heap_alloc w _).1
  obtain ⟨⟨hzR, z0, z1, z2, z3, z4, z5, z6, z7, z8, z9, z10, z11⟩, hfr⟩ := box12 hRv
  simp only [noD] at z0 z1 z2 z3 z4 z5 z6 z7 z8 z9 z10 z11
  have f0 := hfr 0
  have f1 := hfr 1
  have f2 := hfr 2
  have f3 := hfr 3
  have f4 := hfr 4
  have f5 := hfr 5
  have f6 := hfr 6
  have f7 := hfr 7
  have f8 := hfr 8
  have f9 := hfr 9
  have f10 := hfr 10
  have f11 := hfr 11
  have hch : ((((((((((((v.setCell ⟨w.heap.size, 0, none⟩ (.int .i64 (0))).setCell ⟨w.heap.size, 1, none⟩ (.int .i64 (0))).setCell ⟨w.heap.size, 2, none⟩ (.int .i64 (0))).setCell ⟨w.heap.size, 3, none⟩ (.int .i64 (0))).setCell ⟨w.heap.size, 4, none⟩ (.int .i64 (0))).setCell ⟨w.heap.size, 5, none⟩ (.int .i64 (0))).setCell ⟨w.heap.size, 6, none⟩ (.int .i64 (0))).setCell ⟨w.heap.size, 7, none⟩ (.int .i64 (0))).setCell ⟨w.heap.size, 8, none⟩ (.int .i64 (0))).setCell ⟨w.heap.size, 9, none⟩ (.int .i64 (0))).setCell ⟨w.heap.size, 10, none⟩ (.int .i64 (0))).setCell ⟨w.heap.size, 11, none⟩ (.int .i64 (0))).heap[w.heap.size]? = some (dvO noD) := chain12 (e := noD) (d := noD) hRv
  have hBf : Below w.heap.size w ((((((((((((v.setCell ⟨w.heap.size, 0, none⟩ (.int .i64 (0))).setCell ⟨w.heap.size, 1, none⟩ (.int .i64 (0))).setCell ⟨w.heap.size, 2, none⟩ (.int .i64 (0))).setCell ⟨w.heap.size, 3, none⟩ (.int .i64 (0))).setCell ⟨w.heap.size, 4, none⟩ (.int .i64 (0))).setCell ⟨w.heap.size, 5, none⟩ (.int .i64 (0))).setCell ⟨w.heap.size, 6, none⟩ (.int .i64 (0))).setCell ⟨w.heap.size, 7, none⟩ (.int .i64 (0))).setCell ⟨w.heap.size, 8, none⟩ (.int .i64 (0))).setCell ⟨w.heap.size, 9, none⟩ (.int .i64 (0))).setCell ⟨w.heap.size, 10, none⟩ (.int .i64 (0))).setCell ⟨w.heap.size, 11, none⟩ (.int .i64 (0))) := (bset1 (bset1 (bset1 (bset1 (bset1 (bset1 (bset1 (bset1 (bset1 (bset1 (bset1 (bset1 HB0.out))))))))))))
  obtain ⟨vf, hvf⟩ : ∃ vf, ((((((((((((v.setCell ⟨w.heap.size, 0, none⟩ (.int .i64 (0))).setCell ⟨w.heap.size, 1, none⟩ (.int .i64 (0))).setCell ⟨w.heap.size, 2, none⟩ (.int .i64 (0))).setCell ⟨w.heap.size, 3, none⟩ (.int .i64 (0))).setCell ⟨w.heap.size, 4, none⟩ (.int .i64 (0))).setCell ⟨w.heap.size, 5, none⟩ (.int .i64 (0))).setCell ⟨w.heap.size, 6, none⟩ (.int .i64 (0))).setCell ⟨w.heap.size, 7, none⟩ (.int .i64 (0))).setCell ⟨w.heap.size, 8, none⟩ (.int .i64 (0))).setCell ⟨w.heap.size, 9, none⟩ (.int .i64 (0))).setCell ⟨w.heap.size, 10, none⟩ (.int .i64 (0))).setCell ⟨w.heap.size, 11, none⟩ (.int .i64 (0))) = vf := ⟨_, rfl⟩
  rw [hvf] at hch hBf
  obtain ⟨⟨hzf, r0, r1, r2, r3, r4, r5, r6, r7, r8, r9, r10, r11⟩, _⟩ := box12 hch
  simp only [noD] at r0 r1 r2 r3 r4 r5 r6 r7 r8 r9 r10 r11
  have HBf : Hid (Below w.heap.size w vf) := hBf
  clear hRv hfr hch hBf
  go_enter Try.func18, Try.ntmps18
  go_wp2
  try rw [hvf]
  exact bodyPost_ret (v := .tuple #[dvV noD, .int .i64 3]) (by simp [results, Try.results18, go_sem, hzf, r0, r1, r2, r3, r4, r5, r6, r7, r8, r9, r10, r11, noD]) rfl ⟨rfl, HBf.out⟩
theorem readDevice_any (s : ByteArray) (w : World) (hs : s.size ≤ maxLen) :
    Calls Try.prog 18 #[.string s] w fun e w' => e = .returned (.tuple #[dvV (rdD s), .int .i64 (rdE s)]) ∧ Below w.heap.size w w' := by
  unfold rdD rdE
  by_cases h : s.size < 18
  · rw [if_pos h, if_pos h]; exact readDevice_short s w h
  · rw [if_neg h, if_neg h]; exact readDevice_long s w hs h
end Go.Proofs.Ytebaepkghbihkaa.desc
