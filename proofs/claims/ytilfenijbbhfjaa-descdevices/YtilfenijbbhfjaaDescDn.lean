/- plugref's devices: what ReadDevice answers of other texts. -/
import Derived.Test.YtilfenijbbhfjaaDescDc
namespace Go.Proofs.Ytilfenijbbhfjaa.desc
open Go.RowKit Go.PlainAid Go.Proofs.Ytilfenijbbhfjaa.lane
set_option linter.unusedVariables false
set_option linter.unusedSimpArgs false

set_option maxRecDepth 100000 in
set_option maxHeartbeats 4000000 in
theorem rread_no (s : ByteArray) (w : World) (hs : s.size ≤ maxLen) (h18 : ¬ s.size < 18) (hno : ¬ isDev s = true) :
    Calls Try.prog 15 #[.string s] w fun e w' => e = .returned (.tuple #[dvV (rdD s), .int .i64 (rdE s)]) ∧ Below w.heap.size w w' := by
  have hsm := hs
  unfold maxLen at hs
  obtain ⟨v, hv⟩ : ∃ v, w.alloc (dvO noD) = v := ⟨_, rfl⟩
  have hbv : Below w.heap.size w v := by rw [← hv]; exact balloc _ _
  have hRv : v.heap[w.heap.size]? = some (dvO noD) := by rw [← hv]; exact (MapKept.heap_alloc w _).1
  obtain ⟨v2, hv2⟩ : ∃ v2, v.alloc (dvO noD) = v2 := ⟨_, rfl⟩
  have hb2 : Below v.heap.size v v2 := by rw [← hv2]; exact balloc _ _
  have hN2 : v2.heap[v.heap.size]? = some (dvO noD) := by rw [← hv2]; exact (MapKept.heap_alloc v _).1
  have hR2 := res_below hRv hb2
  have hlt : w.heap.size < v.heap.size := (Array.getElem?_eq_some_iff.1 hRv).1
  obtain ⟨v3, hv3, hN3, hB3, hO3⟩ := ch12 v2 v.heap.size noD noD hN2
  have hR3 := hO3 _ _ (Nat.ne_of_lt hlt) hR2
  have HB3 : Hid (Below w.heap.size w v3) := hB3 w (Nat.le_of_lt hlt) (bsq hbv hb2)
  obtain ⟨⟨hz2, y0, y1, y2, y3, y4, y5, y6, y7, y8, y9, y10, y11⟩, hfy⟩ := box12 (d := noD) hN2
  have g0 := hfy 0
  have g1 := hfy 1
  have g2 := hfy 2
  have g3 := hfy 3
  have g4 := hfy 4
  have g5 := hfy 5
  have g6 := hfy 6
  have g7 := hfy 7
  have g8 := hfy 8
  have g9 := hfy 9
  have g10 := hfy 10
  have g11 := hfy 11
  obtain ⟨⟨hz3, n0, n1, n2, n3, n4, n5, n6, n7, n8, n9, n10, n11⟩, _⟩ := box12 (d := noD) hN3
  obtain ⟨⟨hzR, z0, z1, z2, z3, z4, z5, z6, z7, z8, z9, z10, z11⟩, hfr⟩ := box12 (d := noD) hR3
  have f0 := hfr 0
  have f1 := hfr 1
  have f2 := hfr 2
  have f3 := hfr 3
  have f4 := hfr 4
  have f5 := hfr 5
  have f6 := hfr 6
  have f7 := hfr 7
  have f8 := hfr 8
  have f9 := hfr 9
  have f10 := hfr 10
  have f11 := hfr 11
  obtain ⟨vf, hvf, hRf, hBf, _⟩ := ch12 v3 w.heap.size noD noD hR3
  have HBf : Hid (Below w.heap.size w vf) := hBf w (Nat.le_refl _) HB3.out
  obtain ⟨⟨hzf, r0, r1, r2, r3, r4, r5, r6, r7, r8, r9, r10, r11⟩, _⟩ := box12 (d := noD) hRf
  have HR3 : Hid (v3.heap[w.heap.size]? = some (dvO noD)) := hR3
  simp only [noD] at y0 y1 y2 y3 y4 y5 y6 y7 y8 y9 y10 y11 n0 n1 n2 n3 n4 n5 n6 n7 n8 n9 n10 n11 z0 z1 z2 z3 z4 z5 z6 z7 z8 z9 z10 z11 r0 r1 r2 r3 r4 r5 r6 r7 r8 r9 r10 r11 hv3 hvf hv hv2
  clear hbv hRv hb2 hN2 hR2 hN3 hB3 hO3 hR3 hfy hfr hRf hBf
  have h18' : 18 ≤ s.size := by omega
  have hft := first_two s h18'
  have hsl : ∀ W : World, (Instr.slice 9 (.string s) none (some (.int .i64 2)) none).run Try.prog W = .ok (.string (s.extract 0 2)) W := fun W =>
    run_slice_string_h (P := Try.prog) (w := W) 9 s Try.underlying9 .i64 2 (by omega) (by omega)
  have x4 : ∀ W : World, (Instr.index 9 (.string s) (.int .i64 4)).run Try.prog W = .ok (.int .u8 (bt s 4)) W := run_ix s 4 (by omega)
  have x5 : ∀ W : World, (Instr.index 9 (.string s) (.int .i64 5)).run Try.prog W = .ok (.int .u8 (bt s 5)) W := run_ix s 5 (by omega)
  have x6 : ∀ W : World, (Instr.index 9 (.string s) (.int .i64 6)).run Try.prog W = .ok (.int .u8 (bt s 6)) W := run_ix s 6 (by omega)
  have x7 : ∀ W : World, (Instr.index 9 (.string s) (.int .i64 7)).run Try.prog W = .ok (.int .u8 (bt s 7)) W := run_ix s 7 (by omega)
  have x14 : ∀ W : World, (Instr.index 9 (.string s) (.int .i64 14)).run Try.prog W = .ok (.int .u8 (bt s 14)) W := run_ix s 14 (by omega)
  have x15 : ∀ W : World, (Instr.index 9 (.string s) (.int .i64 15)).run Try.prog W = .ok (.int .u8 (bt s 15)) W := run_ix s 15 (by omega)
  have x16 : ∀ W : World, (Instr.index 9 (.string s) (.int .i64 16)).run Try.prog W = .ok (.int .u8 (bt s 16)) W := run_ix s 16 (by omega)
  have x17 : ∀ W : World, (Instr.index 9 (.string s) (.int .i64 17)).run Try.prog W = .ok (.int .u8 (bt s 17)) W := run_ix s 17 (by omega)
  have hM : ∀ k, IntKind.i64.wrap (bt s k) = bt s k := fun k => by have := bt_nonneg s k; have := bt_le s k; rw [IntKind.wrap_i64]; omega
  have HIX : Hid (∀ w : World, Calls Try.prog 33 #[.string ⟨#[8, 16, 32, 64]⟩, .int .u8 (bt s 7)] w fun e w' => e = .returned (.int .i64 (Lib.indexByte [8, 16, 32, 64] (bt s 7).toNat.toUInt8)) ∧ w = w') := fun w => indexByte_any _ _ w
  have HID : Hid _ := idx_m0 (bt s 7) (bt_nonneg s 7) (bt_le s 7)
  have HIR : Hid (isDev s = true ↔ isDevR s) := isDev_R s h18'
  have HRD : Hid (rdD s = if isDev s = true then devO s else noD) := by show _ = _; unfold rdD; rw [if_neg h18]
  have HRE : Hid (rdE s = if isDev s = true then 0 else 4) := by show _ = _; unfold rdE; rw [if_neg h18]
  have e2 : ((s.extract 0 2).toList == [18, 1]) = decide (s.extract 0 2 = ⟨#[18, 1]⟩) := by
    have := toList_beq (s.extract 0 2) ⟨#[18, 1]⟩
    rwa [show (⟨#[18, 1]⟩ : ByteArray).toList = [18, 1] by decide +kernel] at this
  obtain ⟨RD, hRD⟩ : ∃ d, rdD s = d := ⟨_, rfl⟩
  obtain ⟨RE, hRE⟩ : ∃ d, rdE s = d := ⟨_, rfl⟩
  rw [hRD] at HRD
  rw [hRE] at HRE
  rw [hRD, hRE]
  have HHM : Hid _ := hM
  clear hRD hRE hM
  generalize Lib.indexByte [8, 16, 32, 64] (bt s 7).toNat.toUInt8 = ix at *
  by_cases hgt : 18 < s.size
  · have HNO : Hid (RD = noD ∧ RE = 4) := by
      have : ¬ isDev s = true := fun h => by
        obtain ⟨q1, q2, q3, q4, q5⟩ := HIR.out.1 h
        omega
      exact ⟨by rw [HRD.out, if_neg this], by rw [HRE.out, if_neg this]⟩
    clear hft HHM x4 x5 x6 x14 x15 x16
    clear HIR HRD HRE HID
    rw [HNO.out.1, HNO.out.2]
    go_enter Try.func15, Try.ntmps15
    go_wp2
    try rw [hvf]
    exact bodyPost_ret (v := .tuple #[dvV noD, .int .i64 4]) (by simp [results, Try.results15, go_sem, hzf, r0, r1, r2, r3, r4, r5, r6, r7, r8, r9, r10, r11, noD]) rfl ⟨rfl, HBf.out⟩
  by_cases hex : s.extract 0 2 = ⟨#[18, 1]⟩
  case neg =>
    have HNO : Hid (RD = noD ∧ RE = 4) := by
      have : ¬ isDev s = true := fun h => by
        obtain ⟨q1, q2, q3, q4, q5⟩ := HIR.out.1 h
        exact hex (hft.2 ⟨q2, q3⟩)
      exact ⟨by rw [HRD.out, if_neg this], by rw [HRE.out, if_neg this]⟩
    rw [decide_eq_false hex] at e2
    clear hft HHM x4 x5 x6 x14 x15 x16
    clear HIR HRD HRE HID
    rw [HNO.out.1, HNO.out.2]
    go_enter Try.func15, Try.ntmps15
    go_wp2
    try rw [hvf]
    exact bodyPost_ret (v := .tuple #[dvV noD, .int .i64 4]) (by simp [results, Try.results15, go_sem, hzf, r0, r1, r2, r3, r4, r5, r6, r7, r8, r9, r10, r11, noD]) rfl ⟨rfl, HBf.out⟩
  by_cases h17 : bt s 17 = 0
  · have HNO : Hid (RD = noD ∧ RE = 4) := by
      have : ¬ isDev s = true := fun h => by
        obtain ⟨q1, q2, q3, q4, q5⟩ := HIR.out.1 h
        exact q4 h17
      exact ⟨by rw [HRD.out, if_neg this], by rw [HRE.out, if_neg this]⟩
    rw [decide_eq_true hex] at e2
    have e17 : (bt s 17 == 0) = true := by simpa using h17
    clear h17
    clear hft HHM x4 x5 x6 x14 x15 x16
    clear HIR HRD HRE HID
    rw [HNO.out.1, HNO.out.2]
    go_enter Try.func15, Try.ntmps15
    go_wp2
    try rw [hvf]
    exact bodyPost_ret (v := .tuple #[dvV noD, .int .i64 4]) (by simp [results, Try.results15, go_sem, hzf, r0, r1, r2, r3, r4, r5, r6, r7, r8, r9, r10, r11, noD]) rfl ⟨rfl, HBf.out⟩
  by_cases hix : ix < 0
  · have HNO : Hid (RD = noD ∧ RE = 4) := by
      have : ¬ isDev s = true := fun h => by
        obtain ⟨q1, q2, q3, q4, q5⟩ := HIR.out.1 h
        have := HID.out; rw [decide_eq_true hix] at this; simp at this; omega
      exact ⟨by rw [HRD.out, if_neg this], by rw [HRE.out, if_neg this]⟩
    rw [decide_eq_true hex] at e2
    have e17 : (bt s 17 == 0) = false := by simpa using h17
    clear h17
    clear hft HHM x4 x5 x6 x14 x15 x16
    clear HIR HRD HRE HID
    rw [HNO.out.1, HNO.out.2]
    go_enter Try.func15, Try.ntmps15
    go_wp2_with fail
    refine (HIX.out _).mono ?_
    rintro e wq ⟨rfl, rfl⟩
    go_wp2
    try rw [hvf]
    exact bodyPost_ret (v := .tuple #[dvV noD, .int .i64 4]) (by simp [results, Try.results15, go_sem, hzf, r0, r1, r2, r3, r4, r5, r6, r7, r8, r9, r10, r11, noD]) rfl ⟨rfl, HBf.out⟩
  exact absurd (HIR.out.2 ⟨by omega, (hft.1 hex).1, (hft.1 hex).2, h17, by have := HID.out; rw [decide_eq_false hix] at this; simpa using this⟩) hno
end Go.Proofs.Ytilfenijbbhfjaa.desc
