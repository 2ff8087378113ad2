/- plugref's devices: what ReadDevice answers. -/
import Derived.Test.YtonheibhbilhhaaGreatZBe
import Derived.Test.YtonheibhbilhhaaGreatZAg
import Derived.Test.YtonheibhbilhhaaGreatZBd
import Derived.Lib.Bytealg
import Derived.Deep.QuietTactic
import Derived.BigQuiet
namespace Go.Proofs.YtonheibhbilhhaaGreat.desc
open Go.RowKit Go.PlainAid Go.Proofs.YtonheibhbilhhaaGreat.lane
set_option linter.unusedVariables false
set_option linter.unusedSimpArgs false
theorem ch12 (W : World) (R : Nat) (e d : Dv) (h : W.heap[R]? = some (dvO e)) :
  ∃ wf, ((((((((((((W).setCell ⟨R, 0, none⟩ (.int .i64 d.us)).setCell ⟨R, 1, none⟩ (.int .i64 d.cl)).setCell ⟨R, 2, none⟩ (.int .i64 d.su)).setCell ⟨R, 3, none⟩ (.int .i64 d.pr)).setCell ⟨R, 4, none⟩ (.int .i64 d.m0)).setCell ⟨R, 5, none⟩ (.int .i64 d.ve)).setCell ⟨R, 6, none⟩ (.int .i64 d.pd)).setCell ⟨R, 7, none⟩ (.int .i64 d.re)).setCell ⟨R, 8, none⟩ (.int .i64 d.ma)).setCell ⟨R, 9, none⟩ (.int .i64 d.nm)).setCell ⟨R, 10, none⟩ (.int .i64 d.se)).setCell ⟨R, 11, none⟩ (.int .i64 d.cf) = wf ∧ wf.heap[R]? = some (dvO d) ∧
   (∀ w0 : World, w0.heap.size ≤ R → Below w0.heap.size w0 W → Below w0.heap.size w0 wf) ∧ (∀ (Y : Nat) (o : Obj), Y ≠ R → W.heap[Y]? = some o → wf.heap[Y]? = some o) :=
 ⟨_, rfl, chain12 h, fun w0 hR hb => (((((((((((hb.setCell hR _).setCell hR _).setCell hR _).setCell hR _).setCell hR _).setCell hR _).setCell hR _).setCell hR _).setCell hR _).setCell hR _).setCell hR _).setCell hR _,
  fun Y o hne h => res_set (res_set (res_set (res_set (res_set (res_set (res_set (res_set (res_set (res_set (res_set (res_set h hne) hne) hne) hne) hne) hne) hne) hne) hne) hne) hne) hne⟩
set_option maxHeartbeats 1000000 in
set_option maxRecDepth 100000 in
theorem indexByteLite (s : ByteArray) (c : Int) (w : World) :
  Calls Tryz.prog 126 #[.string s, .int .u8 c] w fun e w' => e = .returned (.int .i64 (Lib.indexByte s.data.toList c.toNat.toUInt8)) ∧ w = w' := by
 go_enter Tryz.func126, Tryz.ntmps126
 go_wp2
 rw [run_callFunc_extern Tryz.func139 (by kernel_rfl) (by kernel_rfl) (by kernel_rfl) (e := Extern.BytealgIndexByte.indexByte) (by kernel_rfl), Lib.run_indexByteString]
 simp only [Result.andThen]
 rw [Oper.upon_value]
 go_wp2
 go_ret
 exact ⟨rfl, rfl⟩
theorem indexByte_any (s : ByteArray) (c : Int) (w : World) :
  Calls Tryz.prog 109 #[.string s, .int .u8 c] w fun e w' => e = .returned (.int .i64 (Lib.indexByte s.data.toList c.toNat.toUInt8)) ∧ w = w' := by
 go_enter Tryz.func109, Tryz.ntmps109
 go_wp2_with (go_at_call 126; refine (indexByteLite _ _ _).mono ?_; rintro e w' ⟨rfl, rfl⟩)
 go_ret
 exact ⟨rfl, rfl⟩
theorem idx_m0_all : ∀ n : Fin 256, decide (((n.val : Int) = 8 ∨ (n.val : Int) = 16 ∨ (n.val : Int) = 32 ∨ (n.val : Int) = 64)) = !decide (Lib.indexByte [8, 16, 32, 64] (n.val : Int).toNat.toUInt8 < 0) := by decide +kernel
theorem idx_m0 (x : Int) (h0 : 0 ≤ x) (h1 : x ≤ 255) : decide (x = 8 ∨ x = 16 ∨ x = 32 ∨ x = 64) = !decide (Lib.indexByte [8, 16, 32, 64] x.toNat.toUInt8 < 0) := by
 have h := idx_m0_all ⟨x.toNat, by omega⟩
 have e : ((x.toNat : Nat) : Int) = x := by omega
 simp only [e] at h
 exact h
theorem first_two (s : ByteArray) (h : 18 ≤ s.size) : s.extract 0 2 = ⟨#[18, 1]⟩ ↔ bt s 0 = 18 ∧ bt s 1 = 1 := by
 have e : (⟨#[18, 1]⟩ : ByteArray) = strOfNums [18, 1] := rfl
 have hn : nums (s.extract 0 2) = [bt s 0, bt s 1] := by
  rw [nums_extract, List.drop_zero, bt_nums s 0 (by omega), bt_nums s 1 (by omega)]
  have hl := nums_length s
  match hm : nums s with
  | [] => rw [hm] at hl; simp at hl; omega
  | [a] => rw [hm] at hl; simp at hl; omega
  | a :: b :: r => rfl
 constructor
 ·intro h1
  have h2 : nums (s.extract 0 2) = nums (strOfNums [18, 1]) := by rw [h1, e]
  rw [hn, nums_str _ (by intro x hx; simp at hx; omega)] at h2
  injection h2 with h3 h4
  injection h4 with h4 _
  exact ⟨h3, h4⟩
 ·rintro ⟨h1, h2⟩
  rw [h1, h2] at hn
  rw [e, ← hn, str_nums]
set_option maxHeartbeats 400000 in
theorem wordAt_any (s : ByteArray) (k : Nat) (w : World) (hk : k + 1 < s.size) (hs : s.size ≤ maxLen) :
  Calls Tryz.prog 78 #[.string s, .int .i64 (k : Int)] w fun e w' => e = .returned (.int .i64 (wdOf (s.extract k s.size))) ∧ ∃ q, w' = w.drewN q := by
 unfold maxLen at hs
 have x0 : ∀ W : World, (Instr.index 9 (.string s) (.int .i64 (k : Int))).run Tryz.prog W = .ok (.int .u8 (bt s k)) W := run_ix s k (by omega)
 have x1 : ∀ W : World, (Instr.index 9 (.string s) (.int .i64 ((k : Int) + 1))).run Tryz.prog W = .ok (.int .u8 (bt s (k + 1))) W := run_ix s (k + 1) (by omega)
 have b0 := bt_nonneg s k
 have b1 := bt_le s k
 have c0 := bt_nonneg s (k + 1)
 have c1 := bt_le s (k + 1)
 have HN : Hid (256 * bt s (k + 1) + bt s k = wdOf (s.extract k s.size)) := by show _ = _; rw [wd_at s k hk]; omega
 generalize wdOf (s.extract k s.size) = N at *
 generalize bt s (k + 1) = y at *
 generalize bt s k = x at *
 go_enter Tryz.func78, Tryz.ntmps78
 go_wp2_with fail
 go_quiet (fail)
 go_wp2
 go_ret
 rw [HN.out]
 exact ⟨rfl, _, rfl⟩
def C8 (w : World) (X R : Nat) (D : Int → Int → Int → Int → Dv) (x y z t : Int) (L : Array Bool) (W : World) : Prop :=
 W.heap[X]? = some (dvO (D (if L.getD 13 false = true then x else 0) (if L.getD 15 false = true then y else 0) (if L.getD 17 false = true then z else 0) (if L.getD 19 false = true then t else 0))) ∧ W.heap[R]? = some (dvO noD) ∧ Below w.heap.size w W
theorem C8_keep {w : World} {X R : Nat} {D : Int → Int → Int → Int → Dv} {x y z t : Int} {L : Array Bool} {W : World} (k : Nat) (h13 : k ≠ 13) (h15 : k ≠ 15) (h17 : k ≠ 17) (h19 : k ≠ 19) (h : C8 w X R D x y z t L W) : C8 w X R D x y z t (L.setIfInBounds k true) W := by
 unfold C8 at *
 rw [getD_set_ne false h13, getD_set_ne false h15, getD_set_ne false h17, getD_set_ne false h19]
 exact h
def D8 (us cl su pr m0 ve pd re : Int) (ma nm se cf : Int) : Dv := ⟨us, cl, su, pr, m0, ve, pd, re, ma, nm, se, cf⟩
theorem C8_set0 {w : World} {X R : Nat} {us cl su pr m0 ve pd re : Int} {x y z t : Int} {L : Array Bool} {W : World} (hz : 13 < L.size) (h : C8 w X R (D8 us cl su pr m0 ve pd re) x y z t L W) (hXR : R ≠ X) (hXL : w.heap.size ≤ X) :
  W.cell? ⟨X, 8, none⟩ = some (.int .i64 (if L.getD 13 false = true then x else 0)) ∧ W.frozen? ⟨X, 8, none⟩ = false ∧ C8 w X R (D8 us cl su pr m0 ve pd re) x y z t (L.setIfInBounds 13 true) (W.setCell ⟨X, 8, none⟩ (.int .i64 x)) := by
 obtain ⟨h1, h2, h3⟩ := h
 obtain ⟨hd, hf⟩ := box12 h1
 refine ⟨hd.c8, hf 8, ?_, res_set h2 hXR, h3.setCell hXL _⟩
 rw [set_same hz, if_pos rfl, getD_set_ne (i := 13) (j := 15) false (by decide), getD_set_ne (i := 13) (j := 17) false (by decide), getD_set_ne (i := 13) (j := 19) false (by decide)]
 exact cset1 8 (.int .i64 x) h1 rfl
theorem C8_set1 {w : World} {X R : Nat} {us cl su pr m0 ve pd re : Int} {x y z t : Int} {L : Array Bool} {W : World} (hz : 15 < L.size) (h : C8 w X R (D8 us cl su pr m0 ve pd re) x y z t L W) (hXR : R ≠ X) (hXL : w.heap.size ≤ X) :
  W.cell? ⟨X, 9, none⟩ = some (.int .i64 (if L.getD 15 false = true then y else 0)) ∧ W.frozen? ⟨X, 9, none⟩ = false ∧ C8 w X R (D8 us cl su pr m0 ve pd re) x y z t (L.setIfInBounds 15 true) (W.setCell ⟨X, 9, none⟩ (.int .i64 y)) := by
 obtain ⟨h1, h2, h3⟩ := h
 obtain ⟨hd, hf⟩ := box12 h1
 refine ⟨hd.c9, hf 9, ?_, res_set h2 hXR, h3.setCell hXL _⟩
 rw [set_same hz, if_pos rfl, getD_set_ne (i := 15) (j := 13) false (by decide), getD_set_ne (i := 15) (j := 17) false (by decide), getD_set_ne (i := 15) (j := 19) false (by decide)]
 exact cset1 9 (.int .i64 y) h1 rfl
theorem C8_set2 {w : World} {X R : Nat} {us cl su pr m0 ve pd re : Int} {x y z t : Int} {L : Array Bool} {W : World} (hz : 17 < L.size) (h : C8 w X R (D8 us cl su pr m0 ve pd re) x y z t L W) (hXR : R ≠ X) (hXL : w.heap.size ≤ X) :
  W.cell? ⟨X, 10, none⟩ = some (.int .i64 (if L.getD 17 false = true then z else 0)) ∧ W.frozen? ⟨X, 10, none⟩ = false ∧ C8 w X R (D8 us cl su pr m0 ve pd re) x y z t (L.setIfInBounds 17 true) (W.setCell ⟨X, 10, none⟩ (.int .i64 z)) := by
 obtain ⟨h1, h2, h3⟩ := h
 obtain ⟨hd, hf⟩ := box12 h1
 refine ⟨hd.c10, hf 10, ?_, res_set h2 hXR, h3.setCell hXL _⟩
 rw [set_same hz, if_pos rfl, getD_set_ne (i := 17) (j := 13) false (by decide), getD_set_ne (i := 17) (j := 15) false (by decide), getD_set_ne (i := 17) (j := 19) false (by decide)]
 exact cset1 10 (.int .i64 z) h1 rfl
theorem C8_set3 {w : World} {X R : Nat} {us cl su pr m0 ve pd re : Int} {x y z t : Int} {L : Array Bool} {W : World} (hz : 19 < L.size) (h : C8 w X R (D8 us cl su pr m0 ve pd re) x y z t L W) (hXR : R ≠ X) (hXL : w.heap.size ≤ X) :
  W.cell? ⟨X, 11, none⟩ = some (.int .i64 (if L.getD 19 false = true then t else 0)) ∧ W.frozen? ⟨X, 11, none⟩ = false ∧ C8 w X R (D8 us cl su pr m0 ve pd re) x y z t (L.setIfInBounds 19 true) (W.setCell ⟨X, 11, none⟩ (.int .i64 t)) := by
 obtain ⟨h1, h2, h3⟩ := h
 obtain ⟨hd, hf⟩ := box12 h1
 refine ⟨hd.c11, hf 11, ?_, res_set h2 hXR, h3.setCell hXL _⟩
 rw [set_same hz, if_pos rfl, getD_set_ne (i := 19) (j := 13) false (by decide), getD_set_ne (i := 19) (j := 15) false (by decide), getD_set_ne (i := 19) (j := 17) false (by decide)]
 exact cset1 11 (.int .i64 t) h1 rfl
set_option maxRecDepth 100000 in
set_option maxHeartbeats 4000000 in
theorem rread_short (s : ByteArray) (w : World) (hs : s.size ≤ maxLen) (h18 : s.size < 18) :
  Calls Tryz.prog 80 #[.string s] w fun e w' => e = .returned (.tuple #[dvV (rdD s), .int .i64 (rdE s)]) ∧ Below w.heap.size w w' := by
 have hsm := hs
 unfold maxLen at hs
 obtain ⟨v, hv⟩ : ∃ v, w.alloc (dvO noD) = v := ⟨_, rfl⟩
 have hbv : Below w.heap.size w v := by rw [← hv]; exact balloc _ _
 have hRv : v.heap[w.heap.size]? = some (dvO noD) := by rw [← hv]; exact (MapKept.heap_alloc w _).1
 obtain ⟨v2, hv2⟩ : ∃ v2, v.alloc (dvO noD) = v2 := ⟨_, rfl⟩
 have hb2 : Below v.heap.size v v2 := by rw [← hv2]; exact balloc _ _
 have hN2 : v2.heap[v.heap.size]? = some (dvO noD) := by rw [← hv2]; exact (MapKept.heap_alloc v _).1
 have hR2 := res_below hRv hb2
 have hlt : w.heap.size < v.heap.size := (Array.getElem?_eq_some_iff.1 hRv).1
 obtain ⟨v3, hv3, hN3, hB3, hO3⟩ := ch12 v2 v.heap.size noD noD hN2
 have hR3 := hO3 _ _ (Nat.ne_of_lt hlt) hR2
 have HB3 : Hid (Below w.heap.size w v3) := hB3 w (Nat.le_of_lt hlt) (bsq hbv hb2)
 obtain ⟨⟨hz2, y0, y1, y2, y3, y4, y5, y6, y7, y8, y9, y10, y11⟩, hfy⟩ := box12 (d := noD) hN2
 have g0 := hfy 0
 have g1 := hfy 1
 have g2 := hfy 2
 have g3 := hfy 3
 have g4 := hfy 4
 have g5 := hfy 5
 have g6 := hfy 6
 have g7 := hfy 7
 have g8 := hfy 8
 have g9 := hfy 9
 have g10 := hfy 10
 have g11 := hfy 11
 obtain ⟨⟨hz3, n0, n1, n2, n3, n4, n5, n6, n7, n8, n9, n10, n11⟩, _⟩ := box12 (d := noD) hN3
 obtain ⟨⟨hzR, z0, z1, z2, z3, z4, z5, z6, z7, z8, z9, z10, z11⟩, hfr⟩ := box12 (d := noD) hR3
 have f0 := hfr 0
 have f1 := hfr 1
 have f2 := hfr 2
 have f3 := hfr 3
 have f4 := hfr 4
 have f5 := hfr 5
 have f6 := hfr 6
 have f7 := hfr 7
 have f8 := hfr 8
 have f9 := hfr 9
 have f10 := hfr 10
 have f11 := hfr 11
 obtain ⟨vf, hvf, hRf, hBf, _⟩ := ch12 v3 w.heap.size noD noD hR3
 have HBf : Hid (Below w.heap.size w vf) := hBf w (Nat.le_refl _) HB3.out
 obtain ⟨⟨hzf, r0, r1, r2, r3, r4, r5, r6, r7, r8, r9, r10, r11⟩, _⟩ := box12 (d := noD) hRf
 have HR3 : Hid (v3.heap[w.heap.size]? = some (dvO noD)) := hR3
 simp only [noD] at y0 y1 y2 y3 y4 y5 y6 y7 y8 y9 y10 y11 n0 n1 n2 n3 n4 n5 n6 n7 n8 n9 n10 n11 z0 z1 z2 z3 z4 z5 z6 z7 z8 z9 z10 z11 r0 r1 r2 r3 r4 r5 r6 r7 r8 r9 r10 r11 hv3 hvf hv hv2
 clear hbv hRv hb2 hN2 hR2 hN3 hB3 hO3 hR3 hfy hfr hRf hBf
 rw [show rdD s = noD by unfold rdD; rw [if_pos h18], show rdE s = 3 by unfold rdE; rw [if_pos h18]]
 go_enter Tryz.func80, Tryz.ntmps80
 go_wp2
 try rw [hvf]
 exact bodyPost_ret (v := .tuple #[dvV noD, .int .i64 3]) (by simp [results, Tryz.results80, go_sem, hzf, r0, r1, r2, r3, r4, r5, r6, r7, r8, r9, r10, r11, noD]) rfl ⟨rfl, HBf.out⟩
end Go.Proofs.YtonheibhbilhhaaGreat.desc
namespace Go.Proofs.YtonheibhbilhhaaGreat.desc
open Go.RowKit Go.PlainAid Go.Proofs.YtonheibhbilhhaaGreat.lane
set_option linter.unusedVariables false
set_option linter.unusedSimpArgs false
set_option maxRecDepth 100000 in
set_option maxHeartbeats 4000000 in
theorem rread_no (s : ByteArray) (w : World) (hs : s.size ≤ maxLen) (h18 : ¬ s.size < 18) (hno : ¬ isDev s = true) :
  Calls Tryz.prog 80 #[.string s] w fun e w' => e = .returned (.tuple #[dvV (rdD s), .int .i64 (rdE s)]) ∧ Below w.heap.size w w' := by
 have hsm := hs
 unfold maxLen at hs
 obtain ⟨v, hv⟩ : ∃ v, w.alloc (dvO noD) = v := ⟨_, rfl⟩
 have hbv : Below w.heap.size w v := by rw [← hv]; exact balloc _ _
 have hRv : v.heap[w.heap.size]? = some (dvO noD) := by rw [← hv]; exact (MapKept.heap_alloc w _).1
 obtain ⟨v2, hv2⟩ : ∃ v2, v.alloc (dvO noD) = v2 := ⟨_, rfl⟩
 have hb2 : Below v.heap.size v v2 := by rw [← hv2]; exact balloc _ _
 have hN2 : v2.heap[v.heap.size]? = some (dvO noD) := by rw [← hv2]; exact (MapKept.heap_alloc v _).1
 have hR2 := res_below hRv hb2
 have hlt : w.heap.size < v.heap.size := (Array.getElem?_eq_some_iff.1 hRv).1
 obtain ⟨v3, hv3, hN3, hB3, hO3⟩ := ch12 v2 v.heap.size noD noD hN2
 have hR3 := hO3 _ _ (Nat.ne_of_lt hlt) hR2
 have HB3 : Hid (Below w.heap.size w v3) := hB3 w (Nat.le_of_lt hlt) (bsq hbv hb2)
 obtain ⟨⟨hz2, y0, y1, y2, y3, y4, y5, y6, y7, y8, y9, y10, y11⟩, hfy⟩ := box12 (d := noD) hN2
 have g0 := hfy 0
 have g1 := hfy 1
 have g2 := hfy 2
 have g3 := hfy 3
 have g4 := hfy 4
 have g5 := hfy 5
 have g6 := hfy 6
 have g7 := hfy 7
 have g8 := hfy 8
 have g9 := hfy 9
 have g10 := hfy 10
 have g11 := hfy 11
 obtain ⟨⟨hz3, n0, n1, n2, n3, n4, n5, n6, n7, n8, n9, n10, n11⟩, _⟩ := box12 (d := noD) hN3
 obtain ⟨⟨hzR, z0, z1, z2, z3, z4, z5, z6, z7, z8, z9, z10, z11⟩, hfr⟩ := box12 (d := noD) hR3
 have f0 := hfr 0
 have f1 := hfr 1
 have f2 := hfr 2
 have f3 := hfr 3
 have f4 := hfr 4
 have f5 := hfr 5
 have f6 := hfr 6
 have f7 := hfr 7
 have f8 := hfr 8
 have f9 := hfr 9
 have f10 := hfr 10
 have f11 := hfr 11
 obtain ⟨vf, hvf, hRf, hBf, _⟩ := ch12 v3 w.heap.size noD noD hR3
 have HBf : Hid (Below w.heap.size w vf) := hBf w (Nat.le_refl _) HB3.out
 obtain ⟨⟨hzf, r0, r1, r2, r3, r4, r5, r6, r7, r8, r9, r10, r11⟩, _⟩ := box12 (d := noD) hRf
 have HR3 : Hid (v3.heap[w.heap.size]? = some (dvO noD)) := hR3
 simp only [noD] at y0 y1 y2 y3 y4 y5 y6 y7 y8 y9 y10 y11 n0 n1 n2 n3 n4 n5 n6 n7 n8 n9 n10 n11 z0 z1 z2 z3 z4 z5 z6 z7 z8 z9 z10 z11 r0 r1 r2 r3 r4 r5 r6 r7 r8 r9 r10 r11 hv3 hvf hv hv2
 clear hbv hRv hb2 hN2 hR2 hN3 hB3 hO3 hR3 hfy hfr hRf hBf
 have h18' : 18 ≤ s.size := by omega
 have hft := first_two s h18'
 have hsl : ∀ W : World, (Instr.slice 9 (.string s) none (some (.int .i64 2)) none).run Tryz.prog W = .ok (.string (s.extract 0 2)) W := fun W =>
  run_slice_string_h (P := Tryz.prog) (w := W) 9 s Tryz.underlying9 .i64 2 (by omega) (by omega)
 have x4 : ∀ W : World, (Instr.index 9 (.string s) (.int .i64 4)).run Tryz.prog W = .ok (.int .u8 (bt s 4)) W := run_ix s 4 (by omega)
 have x5 : ∀ W : World, (Instr.index 9 (.string s) (.int .i64 5)).run Tryz.prog W = .ok (.int .u8 (bt s 5)) W := run_ix s 5 (by omega)
 have x6 : ∀ W : World, (Instr.index 9 (.string s) (.int .i64 6)).run Tryz.prog W = .ok (.int .u8 (bt s 6)) W := run_ix s 6 (by omega)
 have x7 : ∀ W : World, (Instr.index 9 (.string s) (.int .i64 7)).run Tryz.prog W = .ok (.int .u8 (bt s 7)) W := run_ix s 7 (by omega)
 have x14 : ∀ W : World, (Instr.index 9 (.string s) (.int .i64 14)).run Tryz.prog W = .ok (.int .u8 (bt s 14)) W := run_ix s 14 (by omega)
 have x15 : ∀ W : World, (Instr.index 9 (.string s) (.int .i64 15)).run Tryz.prog W = .ok (.int .u8 (bt s 15)) W := run_ix s 15 (by omega)
 have x16 : ∀ W : World, (Instr.index 9 (.string s) (.int .i64 16)).run Tryz.prog W = .ok (.int .u8 (bt s 16)) W := run_ix s 16 (by omega)
 have x17 : ∀ W : World, (Instr.index 9 (.string s) (.int .i64 17)).run Tryz.prog W = .ok (.int .u8 (bt s 17)) W := run_ix s 17 (by omega)
 have hM : ∀ k, IntKind.i64.wrap (bt s k) = bt s k := fun k => by have := bt_nonneg s k; have := bt_le s k; rw [IntKind.wrap_i64]; omega
 have HIX : Hid (∀ w : World, Calls Tryz.prog 109 #[.string ⟨#[8, 16, 32, 64]⟩, .int .u8 (bt s 7)] w fun e w' => e = .returned (.int .i64 (Lib.indexByte [8, 16, 32, 64] (bt s 7).toNat.toUInt8)) ∧ w = w') := fun w => indexByte_any _ _ w
 have HID : Hid _ := idx_m0 (bt s 7) (bt_nonneg s 7) (bt_le s 7)
 have HIR : Hid (isDev s = true ↔ isDevR s) := isDev_R s h18'
 have HRD : Hid (rdD s = if isDev s = true then devO s else noD) := by show _ = _; unfold rdD; rw [if_neg h18]
 have HRE : Hid (rdE s = if isDev s = true then 0 else 4) := by show _ = _; unfold rdE; rw [if_neg h18]
 have e2 : ((s.extract 0 2).toList == [18, 1]) = decide (s.extract 0 2 = ⟨#[18, 1]⟩) := by
  have := toList_beq (s.extract 0 2) ⟨#[18, 1]⟩
  rwa [show (⟨#[18, 1]⟩ : ByteArray).toList = [18, 1] by decide +kernel] at this
 obtain ⟨RD, hRD⟩ : ∃ d, rdD s = d := ⟨_, rfl⟩
 obtain ⟨RE, hRE⟩ : ∃ d, rdE s = d := ⟨_, rfl⟩
 rw [hRD] at HRD
 rw [hRE] at HRE
 rw [hRD, hRE]
 have HHM : Hid _ := hM
 clear hRD hRE hM
 generalize Lib.indexByte [8, 16, 32, 64] (bt s 7).toNat.toUInt8 = ix at *
 by_cases hgt : 18 < s.size
 ·have HNO : Hid (RD = noD ∧ RE = 4) := by
   have : ¬ isDev s = true := fun h => by
    obtain ⟨q1, q2, q3, q4, q5⟩ := HIR.out.1 h
    omega
   exact ⟨by rw [HRD.out, if_neg this], by rw [HRE.out, if_neg this]⟩
  clear hft HHM x4 x5 x6 x14 x15 x16
  clear HIR HRD HRE HID
  rw [HNO.out.1, HNO.out.2]
  go_enter Tryz.func80, Tryz.ntmps80
  go_wp2
  try rw [hvf]
  exact bodyPost_ret (v := .tuple #[dvV noD, .int .i64 4]) (by simp [results, Tryz.results80, go_sem, hzf, r0, r1, r2, r3, r4, r5, r6, r7, r8, r9, r10, r11, noD]) rfl ⟨rfl, HBf.out⟩
 by_cases hex : s.extract 0 2 = ⟨#[18, 1]⟩
 case neg =>
  have HNO : Hid (RD = noD ∧ RE = 4) := by
   have : ¬ isDev s = true := fun h => by
    obtain ⟨q1, q2, q3, q4, q5⟩ := HIR.out.1 h
    exact hex (hft.2 ⟨q2, q3⟩)
   exact ⟨by rw [HRD.out, if_neg this], by rw [HRE.out, if_neg this]⟩
  rw [decide_eq_false hex] at e2
  clear hft HHM x4 x5 x6 x14 x15 x16
  clear HIR HRD HRE HID
  rw [HNO.out.1, HNO.out.2]
  go_enter Tryz.func80, Tryz.ntmps80
  go_wp2
  try rw [hvf]
  exact bodyPost_ret (v := .tuple #[dvV noD, .int .i64 4]) (by simp [results, Tryz.results80, go_sem, hzf, r0, r1, r2, r3, r4, r5, r6, r7, r8, r9, r10, r11, noD]) rfl ⟨rfl, HBf.out⟩
 by_cases h17 : bt s 17 = 0
 ·have HNO : Hid (RD = noD ∧ RE = 4) := by
   have : ¬ isDev s = true := fun h => by
    obtain ⟨q1, q2, q3, q4, q5⟩ := HIR.out.1 h
    exact q4 h17
   exact ⟨by rw [HRD.out, if_neg this], by rw [HRE.out, if_neg this]⟩
  rw [decide_eq_true hex] at e2
  have e17 : (bt s 17 == 0) = true := by simpa using h17
  clear h17
  clear hft HHM x4 x5 x6 x14 x15 x16
  clear HIR HRD HRE HID
  rw [HNO.out.1, HNO.out.2]
  go_enter Tryz.func80, Tryz.ntmps80
  go_wp2
  try rw [hvf]
  exact bodyPost_ret (v := .tuple #[dvV noD, .int .i64 4]) (by simp [results, Tryz.results80, go_sem, hzf, r0, r1, r2, r3, r4, r5, r6, r7, r8, r9, r10, r11, noD]) rfl ⟨rfl, HBf.out⟩
 by_cases hix : ix < 0
 ·have HNO : Hid (RD = noD ∧ RE = 4) := by
   have : ¬ isDev s = true := fun h => by
    obtain ⟨q1, q2, q3, q4, q5⟩ := HIR.out.1 h
    have := HID.out; rw [decide_eq_true hix] at this; simp at this; omega
   exact ⟨by rw [HRD.out, if_neg this], by rw [HRE.out, if_neg this]⟩
  rw [decide_eq_true hex] at e2
  have e17 : (bt s 17 == 0) = false := by simpa using h17
  clear h17
  clear hft HHM x4 x5 x6 x14 x15 x16
  clear HIR HRD HRE HID
  rw [HNO.out.1, HNO.out.2]
  go_enter Tryz.func80, Tryz.ntmps80
  go_wp2_with fail
  refine (HIX.out _).mono ?_
  rintro e wq ⟨rfl, rfl⟩
  go_wp2
  try rw [hvf]
  exact bodyPost_ret (v := .tuple #[dvV noD, .int .i64 4]) (by simp [results, Tryz.results80, go_sem, hzf, r0, r1, r2, r3, r4, r5, r6, r7, r8, r9, r10, r11, noD]) rfl ⟨rfl, HBf.out⟩
 exact absurd (HIR.out.2 ⟨by omega, (hft.1 hex).1, (hft.1 hex).2, h17, by have := HID.out; rw [decide_eq_false hix] at this; simpa using this⟩) hno
end Go.Proofs.YtonheibhbilhhaaGreat.desc
