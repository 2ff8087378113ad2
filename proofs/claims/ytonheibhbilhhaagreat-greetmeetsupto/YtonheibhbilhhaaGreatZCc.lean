/- plugref's devices: what ReadDevice answers of a device's text. -/
import Derived.Test.YtonheibhbilhhaaGreatZCb
namespace Go.Proofs.YtonheibhbilhhaaGreat.desc
open Go.RowKit Go.PlainAid Go.Proofs.YtonheibhbilhhaaGreat.lane
set_option linter.unusedVariables false
set_option linter.unusedSimpArgs false
set_option maxRecDepth 100000 in
set_option maxHeartbeats 16000000 in
theorem rread_yes (s : ByteArray) (w : World) (hs : s.size ≤ maxLen) (h18 : ¬ s.size < 18) (hyes : isDev s = true) :
  Calls Tryz.prog 80 #[.string s] w fun e w' => e = .returned (.tuple #[dvV (rdD s), .int .i64 (rdE s)]) ∧ Below w.heap.size w w' := by
 have hsm := hs
 unfold maxLen at hs
 obtain ⟨v, hv⟩ : ∃ v, w.alloc (dvO noD) = v := ⟨_, rfl⟩
 have hbv : Below w.heap.size w v := by rw [← hv]; exact balloc _ _
 have hRv : v.heap[w.heap.size]? = some (dvO noD) := by rw [← hv]; exact (MapKept.heap_alloc w _).1
 obtain ⟨v2, hv2⟩ : ∃ v2, v.alloc (dvO noD) = v2 := ⟨_, rfl⟩
 have hb2 : Below v.heap.size v v2 := by rw [← hv2]; exact balloc _ _
 have hN2 : v2.heap[v.heap.size]? = some (dvO noD) := by rw [← hv2]; exact (MapKept.heap_alloc v _).1
 have hR2 := res_below hRv hb2
 have hlt : w.heap.size < v.heap.size := (Array.getElem?_eq_some_iff.1 hRv).1
 obtain ⟨v3, hv3, hN3, hB3, hO3⟩ := ch12 v2 v.heap.size noD noD hN2
 have hR3 := hO3 _ _ (Nat.ne_of_lt hlt) hR2
 have HB3 : Hid (Below w.heap.size w v3) := hB3 w (Nat.le_of_lt hlt) (bsq hbv hb2)
 obtain ⟨⟨hz2, y0, y1, y2, y3, y4, y5, y6, y7, y8, y9, y10, y11⟩, hfy⟩ := box12 (d := noD) hN2
 have g0 := hfy 0
 have g1 := hfy 1
 have g2 := hfy 2
 have g3 := hfy 3
 have g4 := hfy 4
 have g5 := hfy 5
 have g6 := hfy 6
 have g7 := hfy 7
 have g8 := hfy 8
 have g9 := hfy 9
 have g10 := hfy 10
 have g11 := hfy 11
 obtain ⟨⟨hz3, n0, n1, n2, n3, n4, n5, n6, n7, n8, n9, n10, n11⟩, _⟩ := box12 (d := noD) hN3
 obtain ⟨⟨hzR, z0, z1, z2, z3, z4, z5, z6, z7, z8, z9, z10, z11⟩, hfr⟩ := box12 (d := noD) hR3
 have f0 := hfr 0
 have f1 := hfr 1
 have f2 := hfr 2
 have f3 := hfr 3
 have f4 := hfr 4
 have f5 := hfr 5
 have f6 := hfr 6
 have f7 := hfr 7
 have f8 := hfr 8
 have f9 := hfr 9
 have f10 := hfr 10
 have f11 := hfr 11
 obtain ⟨vf, hvf, hRf, hBf, _⟩ := ch12 v3 w.heap.size noD noD hR3
 have HBf : Hid (Below w.heap.size w vf) := hBf w (Nat.le_refl _) HB3.out
 obtain ⟨⟨hzf, r0, r1, r2, r3, r4, r5, r6, r7, r8, r9, r10, r11⟩, _⟩ := box12 (d := noD) hRf
 have HR3 : Hid (v3.heap[w.heap.size]? = some (dvO noD)) := hR3
 simp only [noD] at y0 y1 y2 y3 y4 y5 y6 y7 y8 y9 y10 y11 n0 n1 n2 n3 n4 n5 n6 n7 n8 n9 n10 n11 z0 z1 z2 z3 z4 z5 z6 z7 z8 z9 z10 z11 r0 r1 r2 r3 r4 r5 r6 r7 r8 r9 r10 r11 hv3 hvf hv hv2
 clear hbv hRv hb2 hN2 hR2 hN3 hB3 hO3 hR3 hfy hfr hRf hBf
 have h18' : 18 ≤ s.size := by omega
 have hft := first_two s h18'
 have hsl : ∀ W : World, (Instr.slice 9 (.string s) none (some (.int .i64 2)) none).run Tryz.prog W = .ok (.string (s.extract 0 2)) W := fun W =>
  run_slice_string_h (P := Tryz.prog) (w := W) 9 s Tryz.underlying9 .i64 2 (by omega) (by omega)
 have x4 : ∀ W : World, (Instr.index 9 (.string s) (.int .i64 4)).run Tryz.prog W = .ok (.int .u8 (bt s 4)) W := run_ix s 4 (by omega)
 have x5 : ∀ W : World, (Instr.index 9 (.string s) (.int .i64 5)).run Tryz.prog W = .ok (.int .u8 (bt s 5)) W := run_ix s 5 (by omega)
 have x6 : ∀ W : World, (Instr.index 9 (.string s) (.int .i64 6)).run Tryz.prog W = .ok (.int .u8 (bt s 6)) W := run_ix s 6 (by omega)
 have x7 : ∀ W : World, (Instr.index 9 (.string s) (.int .i64 7)).run Tryz.prog W = .ok (.int .u8 (bt s 7)) W := run_ix s 7 (by omega)
 have x14 : ∀ W : World, (Instr.index 9 (.string s) (.int .i64 14)).run Tryz.prog W = .ok (.int .u8 (bt s 14)) W := run_ix s 14 (by omega)
 have x15 : ∀ W : World, (Instr.index 9 (.string s) (.int .i64 15)).run Tryz.prog W = .ok (.int .u8 (bt s 15)) W := run_ix s 15 (by omega)
 have x16 : ∀ W : World, (Instr.index 9 (.string s) (.int .i64 16)).run Tryz.prog W = .ok (.int .u8 (bt s 16)) W := run_ix s 16 (by omega)
 have x17 : ∀ W : World, (Instr.index 9 (.string s) (.int .i64 17)).run Tryz.prog W = .ok (.int .u8 (bt s 17)) W := run_ix s 17 (by omega)
 have hM : ∀ k, IntKind.i64.wrap (bt s k) = bt s k := fun k => by have := bt_nonneg s k; have := bt_le s k; rw [IntKind.wrap_i64]; omega
 have HIX : Hid (∀ w : World, Calls Tryz.prog 109 #[.string ⟨#[8, 16, 32, 64]⟩, .int .u8 (bt s 7)] w fun e w' => e = .returned (.int .i64 (Lib.indexByte [8, 16, 32, 64] (bt s 7).toNat.toUInt8)) ∧ w = w') := fun w => indexByte_any _ _ w
 have HID : Hid _ := idx_m0 (bt s 7) (bt_nonneg s 7) (bt_le s 7)
 have HIR : Hid (isDev s = true ↔ isDevR s) := isDev_R s h18'
 have HRD : Hid (rdD s = if isDev s = true then devO s else noD) := by show _ = _; unfold rdD; rw [if_neg h18]
 have HRE : Hid (rdE s = if isDev s = true then 0 else 4) := by show _ = _; unfold rdE; rw [if_neg h18]
 have e2 : ((s.extract 0 2).toList == [18, 1]) = decide (s.extract 0 2 = ⟨#[18, 1]⟩) := by
  have := toList_beq (s.extract 0 2) ⟨#[18, 1]⟩
  rwa [show (⟨#[18, 1]⟩ : ByteArray).toList = [18, 1] by decide +kernel] at this
 obtain ⟨RD, hRD⟩ : ∃ d, rdD s = d := ⟨_, rfl⟩
 obtain ⟨RE, hRE⟩ : ∃ d, rdE s = d := ⟨_, rfl⟩
 rw [hRD] at HRD
 rw [hRE] at HRE
 rw [hRD, hRE]
 have HHM : Hid _ := hM
 clear hRD hRE hM
 generalize Lib.indexByte [8, 16, 32, 64] (bt s 7).toNat.toUInt8 = ix at *
 by_cases hgt : 18 < s.size
 ·exact absurd (HIR.out.1 hyes).1 (by omega)
 have hex : s.extract 0 2 = ⟨#[18, 1]⟩ := hft.2 ⟨(HIR.out.1 hyes).2.1, (HIR.out.1 hyes).2.2.1⟩
 have h17 : ¬ bt s 17 = 0 := (HIR.out.1 hyes).2.2.2.1
 have hix : ¬ ix < 0 := fun q => by
  have h := HID.out
  rw [decide_eq_true q] at h
  have h5 := (HIR.out.1 hyes).2.2.2.2
  rw [decide_eq_true h5] at h
  simp at h
 have HDR : Hid (RD = devO s ∧ RE = 0) := by
  have : isDev s = true := HIR.out.2 ⟨by omega, (hft.1 hex).1, (hft.1 hex).2, h17, by have := HID.out; rw [decide_eq_false hix] at this; simpa using this⟩
  exact ⟨by rw [HRD.out, if_pos this], by rw [HRE.out, if_pos this]⟩
 rw [decide_eq_true hex] at e2
 have e17 : (bt s 17 == 0) = false := by simpa using h17
 have q18 : s.size = 18 := by omega
 have HW2 : Hid (∀ w : World, Calls Tryz.prog 78 #[.string s, .int .i64 2] w fun e w' => e = .returned (.int .i64 (wdOf (s.extract 2 s.size))) ∧ ∃ q, w' = w.drewN q) := fun w => wordAt_any s 2 w (by omega) hsm
 have HW8 : Hid (∀ w : World, Calls Tryz.prog 78 #[.string s, .int .i64 8] w fun e w' => e = .returned (.int .i64 (wdOf (s.extract 8 s.size))) ∧ ∃ q, w' = w.drewN q) := fun w => wordAt_any s 8 w (by omega) hsm
 have HW10 : Hid (∀ w : World, Calls Tryz.prog 78 #[.string s, .int .i64 10] w fun e w' => e = .returned (.int .i64 (wdOf (s.extract 10 s.size))) ∧ ∃ q, w' = w.drewN q) := fun w => wordAt_any s 10 w (by omega) hsm
 have HW12 : Hid (∀ w : World, Calls Tryz.prog 78 #[.string s, .int .i64 12] w fun e w' => e = .returned (.int .i64 (wdOf (s.extract 12 s.size))) ∧ ∃ q, w' = w.drewN q) := fun w => wordAt_any s 12 w (by omega) hsm
 unfold devO at HDR
 have HSZ : Hid (v.heap.size ≠ w.heap.size) := Nat.ne_of_gt hlt
 generalize s.extract 2 s.size = s2 at *
 generalize s.extract 8 s.size = s8 at *
 generalize s.extract 10 s.size = s10 at *
 generalize s.extract 12 s.size = s12 at *
 clear hft hex h17 HIR HRD HRE HID hsm
 go_enter Tryz.func80, Tryz.ntmps80
 go_wp2_with fail
 refine (HIX.out _).mono ?_
 rintro e wq ⟨rfl, rfl⟩
 clear hv hv2 hv3 y0 y1 y2 y3 y4 y5 y6 y7 y8 y9 y10 y11 n0 n1 n2 n3 n4 n5 n6 n7 n8 n9 n10 n11 z0 z1 z2 z3 z4 z5 z6 z7 z8 z9 z10 z11 r0 r1 r2 r3 r4 r5 r6 r7 r8 r9 r10 r11 g0 g1 g2 g3 g4 g5 g6 g7 g8 g9 g10 g11 f0 f1 f2 f3 f4 f5 f6 f7 f8 f9 f10 f11 hvf hzf HBf hz2 hz3 hzR hlt
 go_wp2_with fail
 have m4 := HHM.out 4
 have m5 := HHM.out 5
 have m6 := HHM.out 6
 have m7 := HHM.out 7
 have m14 := HHM.out 14
 have m15 := HHM.out 15
 have m16 := HHM.out 16
 have m17 := HHM.out 17
 obtain ⟨W0, hW0⟩ : ∃ W0, v3 = W0 := ⟨_, rfl⟩
 rw [hW0] at HB3 HR3 ⊢
 refine wp_abs (fun a0 => a0.tmps.size = 72 ∧ (∀ h, a0.tmps[0]'h = .string s)) ⟨rfl, fun _ => rfl⟩ ?_
 rintro a0 ⟨hsz, g0⟩ ha0
 refine wp_region_L (St fun L => (if L.getD 16 false = true then (if L.getD 15 false = true then some (W0.alloc (dvO ⟨wdOf s2, bt s 4, bt s 5, bt s 6, bt s 7, 0, 0, 0, 0, 0, 0, 0⟩)) else none) else if L.getD 15 false = true then some (W0.alloc (dvO noD)) else some W0)) (by kernel_rfl) (by kernel_rfl) ⟨W0, 1, rfl, rfl⟩ ?_
 have hst : ∀ k, k ≠ 15 → k ≠ 16 → ∀ L : Array Bool, (if (L.setIfInBounds k true).getD 16 false = true then (if (L.setIfInBounds k true).getD 15 false = true then some (W0.alloc (dvO ⟨wdOf s2, bt s 4, bt s 5, bt s 6, bt s 7, 0, 0, 0, 0, 0, 0, 0⟩)) else none) else if (L.setIfInBounds k true).getD 15 false = true then some (W0.alloc (dvO noD)) else some W0) = (if L.getD 16 false = true then (if L.getD 15 false = true then some (W0.alloc (dvO ⟨wdOf s2, bt s 4, bt s 5, bt s 6, bt s 7, 0, 0, 0, 0, 0, 0, 0⟩)) else none) else if L.getD 15 false = true then some (W0.alloc (dvO noD)) else some W0) := fun k h1 h2 L => by rw [getD_set_ne false h1, getD_set_ne false h2]
 refine lex_plain (.string s) (fun L => by simp only [hst 0 (by decide) (by decide)]) rfl (fun W => by simp [execOp, go_sem, hsz, g0]) ?_
 refine lex_call (.int .i64 (wdOf s2)) 78 #[.string s, .int .i64 2] (fun L => by simp only [hst 1 (by decide) (by decide)]) rfl (fun W => by simp [execOp, go_sem, hsz, g0]) (fun W => HW2.out W) ?_
 refine lex_plain (.string s) (fun L => by simp only [hst 2 (by decide) (by decide)]) rfl (fun W => by simp [execOp, go_sem, hsz, g0]) ?_
 refine lex_plain (.int .u8 (bt s 4)) (fun L => by simp only [hst 3 (by decide) (by decide)]) rfl (fun W => by simp [execOp, go_sem, hsz, g0, x4]) ?_
 refine lex_plain (.int .i64 (bt s 4)) (fun L => by simp only [hst 4 (by decide) (by decide)]) rfl (fun W => by simp [execOp, go_sem, hsz, g0, m4]) ?_
 refine lex_plain (.string s) (fun L => by simp only [hst 5 (by decide) (by decide)]) rfl (fun W => by simp [execOp, go_sem, hsz, g0]) ?_
 refine lex_plain (.int .u8 (bt s 5)) (fun L => by simp only [hst 6 (by decide) (by decide)]) rfl (fun W => by simp [execOp, go_sem, hsz, g0, x5]) ?_
 refine lex_plain (.int .i64 (bt s 5)) (fun L => by simp only [hst 7 (by decide) (by decide)]) rfl (fun W => by simp [execOp, go_sem, hsz, g0, m5]) ?_
 refine lex_plain (.string s) (fun L => by simp only [hst 8 (by decide) (by decide)]) rfl (fun W => by simp [execOp, go_sem, hsz, g0]) ?_
 refine lex_plain (.int .u8 (bt s 6)) (fun L => by simp only [hst 9 (by decide) (by decide)]) rfl (fun W => by simp [execOp, go_sem, hsz, g0, x6]) ?_
 refine lex_plain (.int .i64 (bt s 6)) (fun L => by simp only [hst 10 (by decide) (by decide)]) rfl (fun W => by simp [execOp, go_sem, hsz, g0, m6]) ?_
 refine lex_plain (.string s) (fun L => by simp only [hst 11 (by decide) (by decide)]) rfl (fun W => by simp [execOp, go_sem, hsz, g0]) ?_
 refine lex_plain (.int .u8 (bt s 7)) (fun L => by simp only [hst 12 (by decide) (by decide)]) rfl (fun W => by simp [execOp, go_sem, hsz, g0, x7]) ?_
 refine lex_plain (.int .i64 (bt s 7)) (fun L => by simp only [hst 13 (by decide) (by decide)]) rfl (fun W => by simp [execOp, go_sem, hsz, g0, m7]) ?_
 refine lex_plain (.agg #[.int .i64 (wdOf s2), .int .i64 (bt s 4), .int .i64 (bt s 5), .int .i64 (bt s 6), .int .i64 (bt s 7), .int .i64 0, .int .i64 0, .int .i64 0, .int .i64 0, .int .i64 0, .int .i64 0, .int .i64 0]) (fun L => by simp only [hst 14 (by decide) (by decide)]) rfl (fun W => by simp [execOp, go_sem, hsz, g0]) ?_
 refine lex_turn (.pointer (some ⟨W0.heap.size, 0, none⟩)) rfl (fun L W n hr hs => ?_) ?_
 ·obtain ⟨h37, hz37⟩ := rdy_at hr
  have h37' : (L.setIfInBounds 15 true).getD 15 false = true := set_same hz37
  have h38' : (L.setIfInBounds 15 true).getD 16 false = L.getD 16 false := getD_set_ne false (by decide)
  have h37 : L.getD 15 false = false := h37
  cases h38 : L.getD 16 false
  ·simp only [h38, h37] at hs
   have hs : some W0 = some W := hs
   injection hs with hs
   subst hs
   refine ⟨W0.alloc (dvO noD), ?_, .inl ?_⟩
   ·show (if (L.setIfInBounds 15 true).getD 16 false = true then _ else if (L.setIfInBounds 15 true).getD 15 false = true then _ else _) = _
    rw [h38', h38, h37']
    rfl
   ·simp [execOp, go_sem, noD, hsz, g0]
    rfl
  ·simp only [h38, h37] at hs
   have hs : (none : Option World) = some W := hs
   cases hs
 refine lex_turn undef rfl (fun L W n hr hs => ?_) ?_
 ·obtain ⟨h38, hz38⟩ := rdy_at hr
  have h37 : L.getD 15 false = true := rdy_after hr (by kernel_rfl)
  have h38 : L.getD 16 false = false := h38
  have h38' : (L.setIfInBounds 16 true).getD 16 false = true := set_same hz38
  have h37' : (L.setIfInBounds 16 true).getD 15 false = L.getD 15 false := getD_set_ne false (by decide)
  simp only [h38, h37] at hs
  have hs : some (W0.alloc (dvO noD)) = some W := hs
  injection hs with hs
  subst hs
  refine ⟨W0.alloc (dvO ⟨wdOf s2, bt s 4, bt s 5, bt s 6, bt s 7, 0, 0, 0, 0, 0, 0, 0⟩), ?_, .inr ⟨?_, rfl⟩⟩
  ·show (if (L.setIfInBounds 16 true).getD 16 false = true then (if (L.setIfInBounds 16 true).getD 15 false = true then _ else _) else _) = _
   rw [h38', h37', h37]
   rfl
  ·simp [execOp, go_sem, noD, hsz, g0]
   simp only [set_drewN]
   simp [go_sem]
 intro w' hw'
 subst ha0
 clear hsz g0
 obtain ⟨W, n, hs, rfl⟩ := hw'
 have hs2 : some (W0.alloc (dvO ⟨wdOf s2, bt s 4, bt s 5, bt s 6, bt s 7, 0, 0, 0, 0, 0, 0, 0⟩)) = some W := hs
 injection hs2 with hs2
 subst hs2
 obtain ⟨u, hu⟩ : ∃ u, (W0.alloc (dvO ⟨wdOf s2, bt s 4, bt s 5, bt s 6, bt s 7, 0, 0, 0, 0, 0, 0, 0⟩)).drewN n = u := ⟨_, rfl⟩
 have HB : Hid (Below w.heap.size w u) := by show Below _ _ _; rw [← hu]; exact below_drewN (bsq HB3.out (balloc _ _)) _
 have HX : Hid (u.heap[W0.heap.size]? = some (dvO ⟨wdOf s2, bt s 4, bt s 5, bt s 6, bt s 7, 0, 0, 0, 0, 0, 0, 0⟩)) := by show _ = _; rw [← hu]; exact (MapKept.heap_alloc W0 _).1
 have HR : Hid (u.heap[w.heap.size]? = some (dvO noD)) := by show _ = _; rw [← hu]; exact res_below HR3.out (below_drewN (balloc _ _) _)
 have hXL : w.heap.size < W0.heap.size := (Array.getElem?_eq_some_iff.1 HR3.out).1
 rw [hu]
 obtain ⟨XB, hXB⟩ : ∃ X, W0.heap.size = X := ⟨_, rfl⟩
 rw [hXB] at HX hXL ⊢
 have HXR : Hid (w.heap.size ≠ XB) := Nat.ne_of_lt hXL
 have HXL : Hid (w.heap.size ≤ XB) := Nat.le_of_lt hXL
 clear hu hs hst hXB hW0 HB3 HR3 hXL
 go_wp2_with fail
 refine (HW8.out _).mono ?_
 rintro e ua ⟨rfl, qa, hqa⟩
 go_wp2_with fail
 refine (HW10.out _).mono ?_
 rintro e ub ⟨rfl, qb, hqb⟩
 go_wp2_with fail
 refine (HW12.out _).mono ?_
 rintro e uc ⟨rfl, qc, hqc⟩
 have hBc : Below w.heap.size w uc := by rw [hqc]; exact below_drewN (below_drewN HB.out _) _
 have hXc : uc.heap[XB]? = some (dvO ⟨wdOf s2, bt s 4, bt s 5, bt s 6, bt s 7, 0, 0, 0, 0, 0, 0, 0⟩) := by rw [hqc]; exact HX.out
 have hRc : uc.heap[w.heap.size]? = some (dvO noD) := by rw [hqc]; exact HR.out
 obtain ⟨⟨hzc, c0, c1, c2, c3, c4, c5, c6, c7, c8, c9, c10, c11⟩, hfc⟩ := box12 (d := ⟨wdOf s2, bt s 4, bt s 5, bt s 6, bt s 7, 0, 0, 0, 0, 0, 0, 0⟩) hXc
 have f5 := hfc 5
 have f6 := hfc 6
 have f7 := hfc 7
 have k5 := cset1 (cs' := #[.int .i64 (wdOf s2), .int .i64 (bt s 4), .int .i64 (bt s 5), .int .i64 (bt s 6), .int .i64 (bt s 7), .int .i64 (wdOf s8), .int .i64 0, .int .i64 0, .int .i64 0, .int .i64 0, .int .i64 0, .int .i64 0]) 5 (.int .i64 (wdOf s8)) hXc rfl
 have k6 := cset1 (cs' := #[.int .i64 (wdOf s2), .int .i64 (bt s 4), .int .i64 (bt s 5), .int .i64 (bt s 6), .int .i64 (bt s 7), .int .i64 (wdOf s8), .int .i64 (wdOf s10), .int .i64 0, .int .i64 0, .int .i64 0, .int .i64 0, .int .i64 0]) 6 (.int .i64 (wdOf s10)) k5 rfl
 have k7 := cset1 (cs' := #[.int .i64 (wdOf s2), .int .i64 (bt s 4), .int .i64 (bt s 5), .int .i64 (bt s 6), .int .i64 (bt s 7), .int .i64 (wdOf s8), .int .i64 (wdOf s10), .int .i64 (wdOf s12), .int .i64 0, .int .i64 0, .int .i64 0, .int .i64 0]) 7 (.int .i64 (wdOf s12)) k6 rfl
 obtain ⟨ud, hud⟩ : ∃ ud, ((uc.setCell ⟨XB, 5, none⟩ (.int .i64 (wdOf s8))).setCell ⟨XB, 6, none⟩ (.int .i64 (wdOf s10))).setCell ⟨XB, 7, none⟩ (.int .i64 (wdOf s12)) = ud := ⟨_, rfl⟩
 have HC0 : Hid (C8 w XB w.heap.size (D8 (wdOf s2) (bt s 4) (bt s 5) (bt s 6) (bt s 7) (wdOf s8) (wdOf s10) (wdOf s12)) (bt s 14) (bt s 15) (bt s 16) (bt s 17) (Array.replicate 20 false) ud.drew) := by
  rw [hud] at k7
  refine ⟨k7, ?_, ?_⟩
  ·show ud.heap[w.heap.size]? = _
   rw [← hud]
   exact res_set (res_set (res_set hRc HXR.out) HXR.out) HXR.out
  ·rw [← hud]
   exact ((((hBc.setCell HXL.out _).setCell HXL.out _).setCell HXL.out _)).drew
 simp only at c0 c1 c2 c3 c4 c5 c6 c7 c8 c9 c10 c11
 clear hqc hBc hXc hRc k5 k6 k7 hfc HX HR HB HW2 HW8 HW10 HW12
 go_wp2_with fail
 try rw [hud]
 refine wp_abs (fun a0 => a0.tmps.size = 72 ∧ (∀ h, a0.tmps[0]'h = .string s) ∧ (∀ h, a0.tmps[5]'h = .pointer (some ⟨XB, 0, none⟩))) ⟨rfl, fun _ => rfl, fun _ => rfl⟩ ?_
 rintro a0 ⟨hsz, g0, g5⟩ ha0
 refine wp_region_L (C8 w XB w.heap.size (D8 (wdOf s2) (bt s 4) (bt s 5) (bt s 6) (bt s 7) (wdOf s8) (wdOf s10) (wdOf s12)) (bt s 14) (bt s 15) (bt s 16) (bt s 17)) (by kernel_rfl) (by kernel_rfl) HC0.out ?_
 refine lexg (.string s) rfl (fun L W hr hC => by simp only [execOp]; simp [go_sem, hsz, g0, g5, rUpon]; exact C8_keep 0 (by decide) (by decide) (by decide) (by decide) hC) ?_
 refine lexg (.int .u8 (bt s 14)) rfl (fun L W hr hC => by simp only [execOp]; simp [go_sem, hsz, g0, g5, x14, rUpon]; exact C8_keep 1 (by decide) (by decide) (by decide) (by decide) hC) ?_
 refine lexg (.int .i64 (bt s 14)) rfl (fun L W hr hC => by simp only [execOp]; simp [go_sem, hsz, g0, g5, m14, rUpon]; exact C8_keep 2 (by decide) (by decide) (by decide) (by decide) hC) ?_
 refine lexg (.string s) rfl (fun L W hr hC => by simp only [execOp]; simp [go_sem, hsz, g0, g5, rUpon]; exact C8_keep 3 (by decide) (by decide) (by decide) (by decide) hC) ?_
 refine lexg (.int .u8 (bt s 15)) rfl (fun L W hr hC => by simp only [execOp]; simp [go_sem, hsz, g0, g5, x15, rUpon]; exact C8_keep 4 (by decide) (by decide) (by decide) (by decide) hC) ?_
 refine lexg (.int .i64 (bt s 15)) rfl (fun L W hr hC => by simp only [execOp]; simp [go_sem, hsz, g0, g5, m15, rUpon]; exact C8_keep 5 (by decide) (by decide) (by decide) (by decide) hC) ?_
 refine lexg (.string s) rfl (fun L W hr hC => by simp only [execOp]; simp [go_sem, hsz, g0, g5, rUpon]; exact C8_keep 6 (by decide) (by decide) (by decide) (by decide) hC) ?_
 refine lexg (.int .u8 (bt s 16)) rfl (fun L W hr hC => by simp only [execOp]; simp [go_sem, hsz, g0, g5, x16, rUpon]; exact C8_keep 7 (by decide) (by decide) (by decide) (by decide) hC) ?_
 refine lexg (.int .i64 (bt s 16)) rfl (fun L W hr hC => by simp only [execOp]; simp [go_sem, hsz, g0, g5, m16, rUpon]; exact C8_keep 8 (by decide) (by decide) (by decide) (by decide) hC) ?_
 refine lexg (.string s) rfl (fun L W hr hC => by simp only [execOp]; simp [go_sem, hsz, g0, g5, rUpon]; exact C8_keep 9 (by decide) (by decide) (by decide) (by decide) hC) ?_
 refine lexg (.int .u8 (bt s 17)) rfl (fun L W hr hC => by simp only [execOp]; simp [go_sem, hsz, g0, g5, x17, rUpon]; exact C8_keep 10 (by decide) (by decide) (by decide) (by decide) hC) ?_
 refine lexg (.int .i64 (bt s 17)) rfl (fun L W hr hC => by simp only [execOp]; simp [go_sem, hsz, g0, g5, m17, rUpon]; exact C8_keep 11 (by decide) (by decide) (by decide) (by decide) hC) ?_
 refine lexg (.pointer (some ⟨XB, 8, none⟩)) rfl (fun L W hr hC => by simp only [execOp]; simp [go_sem, hsz, g0, g5, rUpon]; exact C8_keep 12 (by decide) (by decide) (by decide) (by decide) hC) ?_
 refine lexg undef rfl (fun L W hr hC => by have hz : 13 < L.size := (rdy_at hr).2; have hq := C8_set0 hz hC HXR.out HXL.out; have hq1 := hq.1; have hq2 := hq.2.1; have hq3 := hq.2.2; simp only [execOp]; simp [go_sem, hsz, g0, g5, rUpon, hq1, hq2]; exact hq3) ?_
 refine lexg (.pointer (some ⟨XB, 9, none⟩)) rfl (fun L W hr hC => by simp only [execOp]; simp [go_sem, hsz, g0, g5, rUpon]; exact C8_keep 14 (by decide) (by decide) (by decide) (by decide) hC) ?_
 refine lexg undef rfl (fun L W hr hC => by have hz : 15 < L.size := (rdy_at hr).2; have hq := C8_set1 hz hC HXR.out HXL.out; have hq1 := hq.1; have hq2 := hq.2.1; have hq3 := hq.2.2; simp only [execOp]; simp [go_sem, hsz, g0, g5, rUpon, hq1, hq2]; exact hq3) ?_
 refine lexg (.pointer (some ⟨XB, 10, none⟩)) rfl (fun L W hr hC => by simp only [execOp]; simp [go_sem, hsz, g0, g5, rUpon]; exact C8_keep 16 (by decide) (by decide) (by decide) (by decide) hC) ?_
 refine lexg undef rfl (fun L W hr hC => by have hz : 17 < L.size := (rdy_at hr).2; have hq := C8_set2 hz hC HXR.out HXL.out; have hq1 := hq.1; have hq2 := hq.2.1; have hq3 := hq.2.2; simp only [execOp]; simp [go_sem, hsz, g0, g5, rUpon, hq1, hq2]; exact hq3) ?_
 refine lexg (.pointer (some ⟨XB, 11, none⟩)) rfl (fun L W hr hC => by simp only [execOp]; simp [go_sem, hsz, g0, g5, rUpon]; exact C8_keep 18 (by decide) (by decide) (by decide) (by decide) hC) ?_
 refine lexg undef rfl (fun L W hr hC => by have hz : 19 < L.size := (rdy_at hr).2; have hq := C8_set3 hz hC HXR.out HXL.out; have hq1 := hq.1; have hq2 := hq.2.1; have hq3 := hq.2.2; simp only [execOp]; simp [go_sem, hsz, g0, g5, rUpon, hq1, hq2]; exact hq3) ?_
 intro w' hw'
 subst ha0
 clear hsz g0 g5
 have hXw : w'.heap[XB]? = some (dvO ⟨wdOf s2, bt s 4, bt s 5, bt s 6, bt s 7, wdOf s8, wdOf s10, wdOf s12, bt s 14, bt s 15, bt s 16, bt s 17⟩) := hw'.1
 have hRw : w'.heap[w.heap.size]? = some (dvO noD) := hw'.2.1
 have hBw : Below w.heap.size w w' := hw'.2.2
 obtain ⟨⟨hzw, d0, d1, d2, d3, d4, d5, d6, d7, d8, d9, d10, d11⟩, _⟩ := box12 (d := ⟨wdOf s2, bt s 4, bt s 5, bt s 6, bt s 7, wdOf s8, wdOf s10, wdOf s12, bt s 14, bt s 15, bt s 16, bt s 17⟩) hXw
 obtain ⟨⟨hzR, z0, z1, z2, z3, z4, z5, z6, z7, z8, z9, z10, z11⟩, hfr⟩ := box12 (d := noD) hRw
 have t0 := hfr 0
 have t1 := hfr 1
 have t2 := hfr 2
 have t3 := hfr 3
 have t4 := hfr 4
 have t5 := hfr 5
 have t6 := hfr 6
 have t7 := hfr 7
 have t8 := hfr 8
 have t9 := hfr 9
 have t10 := hfr 10
 have t11 := hfr 11
 obtain ⟨vf, hvf, hRf, hBf, _⟩ := ch12 w' w.heap.size noD ⟨wdOf s2, bt s 4, bt s 5, bt s 6, bt s 7, wdOf s8, wdOf s10, wdOf s12, bt s 14, bt s 15, bt s 16, bt s 17⟩ hRw
 have HBf : Hid (Below w.heap.size w vf) := hBf w (Nat.le_refl _) hBw
 obtain ⟨⟨hzf, r0, r1, r2, r3, r4, r5, r6, r7, r8, r9, r10, r11⟩, _⟩ := box12 (d := ⟨wdOf s2, bt s 4, bt s 5, bt s 6, bt s 7, wdOf s8, wdOf s10, wdOf s12, bt s 14, bt s 15, bt s 16, bt s 17⟩) hRf
 simp only [noD] at z0 z1 z2 z3 z4 z5 z6 z7 z8 z9 z10 z11 r0 r1 r2 r3 r4 r5 r6 r7 r8 r9 r10 r11 hvf d0 d1 d2 d3 d4 d5 d6 d7 d8 d9 d10 d11
 clear hw' hXw hRw hBw hfr hRf hBf HC0 hud c0 c1 c2 c3 c4 c5 c6 c7 c8 c9 c10 c11 f5 f6 f7 x4 x5 x6 x7 x14 x15 x16 x17 m4 m5 m6 m7 m14 m15 m16 m17
 go_simp
 go_wp2
 try rw [hvf]
 exact bodyPost_ret (v := .tuple #[dvV ⟨wdOf s2, bt s 4, bt s 5, bt s 6, bt s 7, wdOf s8, wdOf s10, wdOf s12, bt s 14, bt s 15, bt s 16, bt s 17⟩, .int .i64 0]) (by simp [results, Tryz.results80, go_sem, hzf, r0, r1, r2, r3, r4, r5, r6, r7, r8, r9, r10, r11]) rfl ⟨by rw [HDR.out.1, HDR.out.2], HBf.out⟩
end Go.Proofs.YtonheibhbilhhaaGreat.desc
namespace Go.Proofs.YtonheibhbilhhaaGreat.desc
open Go.RowKit Go.PlainAid Go.Proofs.YtonheibhbilhhaaGreat.lane
set_option linter.unusedVariables false
set_option linter.unusedSimpArgs false
theorem rreadDevice_any (s : ByteArray) (w : World) (hs : s.size ≤ maxLen) :
  Calls Tryz.prog 80 #[.string s] w fun e w' => e = .returned (.tuple #[dvV (rdD s), .int .i64 (rdE s)]) ∧ Below w.heap.size w w' := by
 by_cases h18 : s.size < 18
 ·exact rread_short s w hs h18
 ·by_cases hd : isDev s = true
  ·exact rread_yes s w hs h18 hd
  ·exact rread_no s w hs h18 hd
end Go.Proofs.YtonheibhbilhhaaGreat.desc
