/- ring: what New answers. -/
import Derived.Test.YthjmcopknkemnaaRngJ
namespace Go.Proofs.Ythjmcopknkemnaa.ring
open Go Go.RowKit
set_option linter.unusedVariables false
set_option linter.unusedSimpArgs false
set_option maxRecDepth 100000

theorem run_make_op {P : Program} {o : Oper} {a : Act} {w w' : World} {x y v : Value} (t : TypeId) (l c : Operand) (ho : o.op = .makeSlice t l c) (hl : a.eval l = x) (hc : a.eval c = y) (hrun : (Instr.makeSlice t x y).run P w = .ok v w') : (execOp a.eval o).run P w = .ok (.value v) w' := by
  simp [execOp, ho, hl, hc, hrun, Result.andThen]
theorem made_cells (n : Nat) : (madeCells #[.int .u64 0, .int .i64 0, .bool false] (n * 3)).toList = ccells (List.replicate n cz) := by
  apply List.ext_getElem?
  intro j
  by_cases hj : j < n * 3
  · have h := ccells_at (List.replicate n cz) (j / 3) cz (by rw [List.getElem?_replicate, if_pos (by omega)])
    have hL : (madeCells #[.int .u64 0, .int .i64 0, .bool false] (n * 3)).toList[j]? = some ((#[.int .u64 0, .int .i64 0, .bool false] : Array Value)[j % 3]!) := by
      simp [madeCells, hj]
    rw [hL]
    rcases (by omega : j = j / 3 * 3 ∨ j = j / 3 * 3 + 1 ∨ j = j / 3 * 3 + 2) with q | q | q
    · rw [show j % 3 = 0 by omega, q, h.1]; rfl
    · rw [show j % 3 = 1 by omega, q, h.2.1]; rfl
    · rw [show j % 3 = 2 by omega, q, h.2.2]; rfl
  · rw [List.getElem?_eq_none (by simp [madeCells]; omega), List.getElem?_eq_none (by rw [ccells_length, List.length_replicate]; omega)]
theorem made_ces {w : World} {B g n : Nat} (h : w.ownsRow B 91 3 (.slice (some ⟨g, 0, none⟩) n n) n (madeCells (Value.agg #[.int .u64 0, .int .i64 0, .bool false]).cells (n * 3)).toList) : Ces w B (.slice (some ⟨g, 0, none⟩) n n) (List.replicate n cz) := by
  have e : (madeCells (Value.agg #[.int .u64 0, .int .i64 0, .bool false]).cells (n * 3)).toList = ccells (List.replicate n cz) := made_cells n
  rw [e] at h
  unfold Ces
  rw [List.length_replicate]
  exact h
/-- what New answers -/
def nwR (c : Int) : Rg := if cnB c = true then st (c.toNat - 1) [] 0 0 else zR
def nwC (c : Int) : Int := if cnB c = true then 0 else 1
theorem new_list {n : Nat} (hn : 1 ≤ n) : (List.replicate n cz).set (n - 1) (0, 0, true) = (st (n - 1) [] 0 0).C := by
  rw [st_new]
  apply List.ext_getElem?
  intro j
  simp only
  by_cases hj : j < n - 1
  · rw [List.getElem?_set_ne (by omega), List.getElem?_append_left (by simpa using hj), List.getElem?_replicate, List.getElem?_replicate, if_pos (by omega), if_pos hj]
  · by_cases hj2 : j = n - 1
    · subst hj2
      rw [List.getElem?_set_self (by simp; omega), List.getElem?_append_right (by simp)]
      simp
    · rw [List.getElem?_eq_none (by simp; omega), List.getElem?_eq_none (by simp; omega)]
set_option maxHeartbeats 8000000 in
theorem New_any (cc : Int) (w : World) : Calls Try.prog 49 #[.int .i64 cc] w fun e w' => ∃ v', e = .returned (.tuple #[rgW v' (nwR cc), .int .i64 (nwC cc)]) ∧ Tel w v' (nwR cc) w' := by
  obtain ⟨w1, hw1, hX1, hb1⟩ := named w (rgO (.slice none 0 0) 0 0 0 0 0)
  obtain ⟨⟨hz1, x0, x1, x2, x3, x4, x5⟩, f0, f1, f2, f3, f4, f5⟩ := box6 hX1
  have HS : Hid (Calls Try.prog 75 #[.int .i64 cc] w1 fun e w' => e = .returned (.bool (cnB cc)) ∧ w1 = w') := isCount_any cc w1
  cases hs : cnB cc
  · rw [hs] at HS
    obtain ⟨uf, huf, hXf, hBf, _, _⟩ := put6 w1 w.heap.size (.slice none 0 0) (.int .i64 0) (.int .i64 0) (.int .i64 0) (.int .i64 0) (.int .i64 0) hX1
    obtain ⟨⟨hzf, y0, y1, y2, y3, y4, y5⟩, _⟩ := box6 hXf
    have HB : Hid (Below w.heap.size w uf) := hBf _ _ (Nat.le_refl _) hb1
    unfold nwR nwC
    rw [hs, if_neg (by decide), if_neg (by decide)]
    clear hX1 hb1 hXf hBf hs
    go_enter Try.func49, Try.ntmps49
    go_wp2_with fail
    refine HS.out.mono ?_
    rintro e u ⟨rfl, rfl⟩
    clear hw1
    go_wp2
    try rw [huf]
    exact bodyPost_ret (v := .tuple #[rgV (.slice none 0 0) 0 0 0 0 0, .int .i64 1]) (by simp [results, Try.results49, go_sem, hzf, y0, y1, y2, y3, y4, y5]) rfl ⟨_, rfl, Ces.nil _ _, HB.out⟩
  rw [hs] at HS
  have hcc := cn_iff.1 hs
  obtain ⟨n, rfl⟩ : ∃ n : Nat, cc = (n : Int) := ⟨cc.toNat, by omega⟩
  have h3 : 3 ≤ n := by omega
  have h64 : n ≤ 64 := by omega
  have HR : Hid (∀ (v' : Value) (w' : World), v' = .slice (some ⟨v'.ownBlock.getD 0, 0, none⟩) n n → Ces w' w.heap.size v' ((List.replicate n cz).set (n - 1) (0, 0, true)) → Below w.heap.size w w' → ∃ v'', (Ending.returned (.tuple #[rgV v' 0 1 0 1 0, .int .i64 0])) = .returned (.tuple #[rgW v'' (nwR (n : Int)), .int .i64 (nwC (n : Int))]) ∧ Tel w v'' (nwR (n : Int)) w') := fun v' w' _ h1 h2 => by
    unfold nwR nwC
    rw [hs, if_pos rfl, if_pos rfl, Int.toNat_natCast]
    refine ⟨v', ?_, ?_, h2⟩
    · rw [st_new]
    · rw [new_list (by omega)] at h1; exact h1
  generalize hZ : (fun (e : Ending) (w' : World) => ∃ v', e = .returned (.tuple #[rgW v' (nwR (n : Int)), .int .i64 (nwC (n : Int))]) ∧ Tel w v' (nwR (n : Int)) w') = Z at HR ⊢
  have HZ : Hid (∀ (g : Nat) (w' : World), Ces w' w.heap.size (.slice (some ⟨g, 0, none⟩) n n) ((List.replicate n cz).set (n - 1) (0, 0, true)) → Below w.heap.size w w' → Z (.returned (.tuple #[rgV (.slice (some ⟨g, 0, none⟩) n n) 0 1 0 1 0, .int .i64 0])) w') := fun g w' h1 h2 => by
    rw [← hZ]
    exact HR.out _ w' rfl h1 h2
  have HLK : Hid (∀ g u, Calls Try.prog 76 #[rgV (.slice (some ⟨g, 0, none⟩) n n) 0 1 0 1 0] u fun e w' => e = .returned (.pointer (some ⟨g, (n - 1) * 3, none⟩)) ∧ Below u.heap.size u w') := fun g u => by
    have := link_any g 0 n n 0 1 0 1 0 u h3 h64
    rw [Nat.zero_add] at this
    exact this
  obtain ⟨w2', w2, hw2', hw2, hM1, hM2, hb2⟩ := laid2 w1 33 (.int .i64 0) (.int .i64 0) (.int .i64 0) (.int .i64 1)
  obtain ⟨⟨hz2, m0, m1⟩, mf0, mf1⟩ := box2 hM1
  have HM : Hid (∀ u, Below w2.heap.size w2 u → u.heap[w1.heap.size]? = some (mkO 0 1) ∧ u.heap[w.heap.size]? = some (rgO (.slice none 0 0) 0 0 0 0 0)) := fun u hu => ⟨keep hM2 hu, keep (keep hX1 hb2) hu⟩
  have HB2 : Hid (Below w.heap.size w w2) := bsq hb1 hb2
  have HSZ : Hid (w.heap.size < w2.heap.size) := (Array.getElem?_eq_some_iff.1 (keep hX1 hb2)).1
  obtain ⟨i0, hi, hz0, hzs1, hzs2⟩ := info_parts infoC
  clear hX1 hb1 hM1 hM2 hb2 hs hcc HR hZ x0 x1 x2 x3 x4 x5 f0 f1 f2 f3 f4 f5
  go_enter Try.func49, Try.ntmps49
  go_wp2_with fail
  refine HS.out.mono ?_
  rintro e u ⟨rfl, rfl⟩
  clear hw1
  go_upto_region 4 with (fail)
  try rw [hw2]
  clear hw2 hw2' m0 m1 mf0 mf1
  go_cut [5] from 6 (fun yv wx => ∃ Y g : Nat, yv = .pointer (some ⟨Y, 0, none⟩) ∧ Hid (wx.heap[Y]? = some (rgO (.slice (some ⟨g, 0, none⟩) n n) 0 1 0 1 0) ∧ Ces wx g (.slice (some ⟨g, 0, none⟩) n n) (List.replicate n cz) ∧ Below w2.heap.size w2 wx ∧ w2.heap.size ≤ g ∧ w2.heap.size ≤ Y))
  case first =>
    refine wp_abs (fun a0 => a0.tmps.size = 21 ∧ (∀ h, a0.tmps[0]'h = .int .i64 (n : Int)) ∧ (∀ h, a0.tmps[4]'h = .pointer (some ⟨w1.heap.size, 0, none⟩))) ⟨rfl, fun _ => rfl, fun _ => rfl⟩ ?_
    rintro a0 ⟨hsz, s0, s4⟩ ha0
    refine wp_region_held (S := fun W => Below w2.heap.size w2 W) (by kernel_rfl) ?_
    have hS0 : Below w2.heap.size w2 w2.drew := (Below.refl _ _).drew
    refine h_take (i := 0) (.int .i64 (n : Int)) rfl (by kernel_rfl) (by kernel_rfl) (by kernel_rfl) (fun _ _ _ h => h) rfl hS0 (fun W hW => by simp [execOp, go_sem, Act.put, hsz, s0, s4]) ?_
    refine h_take (i := 2) (mkV 0 1) rfl (by kernel_rfl) (by kernel_rfl) (by kernel_rfl) (fun _ _ _ h => h) rfl hS0 (fun W hW => by obtain ⟨⟨zb, x0, x1⟩, _⟩ := box2 ((HM.out W hW).1); simp [execOp, go_sem, Act.put, hsz, s0, s4, x0, x1]) ?_
    refine h_take (i := 3) (mkV 0 1) rfl (by kernel_rfl) (by kernel_rfl) (by kernel_rfl) (fun _ _ _ h => h) rfl hS0 (fun W hW => by obtain ⟨⟨zb, x0, x1⟩, _⟩ := box2 ((HM.out W hW).1); simp [execOp, go_sem, Act.put, hsz, s0, s4, x0, x1]) ?_
    refine h_two 1 5 (by kernel_rfl) ?_ ?_
    · obtain ⟨v1, hrun, r1, r2⟩ := run_make_full (P := Try.prog) (w := w2.drew) w2.heap.size 31 91 i0 (.agg #[.int .u64 0, .int .i64 0, .bool false]) 3 Try.underlying31 hi hz0 hzs1 .i64 .i64 n (by rw [hzs2]; omega) (by unfold maxLen; omega) (Nat.le_refl _)
      rw [show w2.drew.heap.size = w2.heap.size from rfl] at hrun r1
      have hb1 : Below w2.heap.size w2 v1 := hS0.grown r2 (Nat.le_refl _) (fun k hk => by cases hk)
      have hc1 := made_ces r1
      refine o_value (w' := v1) (.slice (some ⟨w2.heap.size, 0, none⟩) n n) rfl rfl (run_make_op _ _ _ rfl (by simp [go_sem, Act.put, hsz, s0]) (by simp [go_sem, Act.put, hsz, s0]) hrun) ⟨hb1, ?_⟩
      refine h_take (i := 4) (rgV (.slice (some ⟨w2.heap.size, 0, none⟩) n n) 0 1 0 1 0) rfl (by kernel_rfl) (by kernel_rfl) (by kernel_rfl) (fun _ _ _ h => h) rfl hb1 (fun W hW => by simp [execOp, go_sem, Act.put, hsz, s0, s4]) ?_
      obtain ⟨v2, v3, hv2, hv3, hY2, hY3, hbY⟩ := laid6 v1 35 (.slice none 0 0) (.int .i64 0) (.int .i64 0) (.int .i64 0) (.int .i64 0) (.int .i64 0) (.slice (some ⟨w2.heap.size, 0, none⟩) n n) (.int .i64 0) (.int .i64 1) (.int .i64 0) (.int .i64 1) (.int .i64 0)
      obtain ⟨⟨zz, q0, q1, q2, q3, q4, q5⟩, g0, g1, g2, g3, g4, g5⟩ := box6 hY2
      have hb2 : Below w2.heap.size w2 v2 := by rw [← hv2]; exact bsq hb1 (balloc _ _)
      have hb3 : Below w2.heap.size w2 v3 := bsq hb1 hbY
      refine h_value (i := 5) (w' := v2) (.pointer (some ⟨v1.heap.size, 0, none⟩)) rfl (by kernel_rfl) rfl (by rw [← hv2]; simp [execOp, go_sem, Act.put, hsz, s0, s4]) hb2 ?_
      refine h_skip (i := 6) (w' := v3) rfl (by kernel_rfl) rfl (by rw [← hv3]; simp [execOp, go_sem, Act.put, hsz, s0, s4, zz, q0, q1, q2, q3, q4, q5, g0, g1, g2, g3, g4, g5]) hb3 ?_
      refine wpAnyH_done (by kernel_rfl) ?_ _
      have HF : Hid (v3.heap[v1.heap.size]? = some (rgO (.slice (some ⟨w2.heap.size, 0, none⟩) n n) 0 1 0 1 0) ∧ Ces v3 w2.heap.size (.slice (some ⟨w2.heap.size, 0, none⟩) n n) (List.replicate n cz) ∧ Below w2.heap.size w2 v3 ∧ w2.heap.size ≤ w2.heap.size ∧ w2.heap.size ≤ v1.heap.size) := ⟨hY3, hc1.below hbY, hb3, Nat.le_refl _, hb1.size⟩
      clear hv2 hv3 q0 q1 q2 q3 q4 q5 g0 g1 g2 g3 g4 g5 hY2 hY3 hbY hb2 hb3 hc1 r1 r2 hrun
      subst ha0
      clear hsz s0 s4
      go_simp
      go_wp2_with fail
      go_meet
      case rel => exact ⟨_, _, rfl, HF.out⟩
    · have hb1 : Below w2.heap.size w2 (w2.drew.alloc (rgO (.slice none 0 0) 0 0 0 0 0)) := hS0.alloc (Nat.le_refl _) _
      refine o_value (w' := w2.drew.alloc (rgO (.slice none 0 0) 0 0 0 0 0)) (.pointer (some ⟨w2.heap.size, 0, none⟩)) rfl rfl (by simp [execOp, go_sem, Act.put, hsz, s0, s4]) ⟨hb1, ?_⟩
      obtain ⟨v0, hv0⟩ : ∃ v0, w2.drew.alloc (rgO (.slice none 0 0) 0 0 0 0 0) = v0 := ⟨_, rfl⟩
      have hY0 : v0.heap[w2.heap.size]? = some (rgO (.slice none 0 0) 0 0 0 0 0) := by rw [← hv0]; exact (MapKept.heap_alloc w2.drew _).1
      rw [hv0] at hb1 ⊢
      obtain ⟨v1, hrun, r1, r2⟩ := run_make_full (P := Try.prog) (w := v0) v0.heap.size 31 91 i0 (.agg #[.int .u64 0, .int .i64 0, .bool false]) 3 Try.underlying31 hi hz0 hzs1 .i64 .i64 n (by rw [hzs2]; omega) (by unfold maxLen; omega) (Nat.le_refl _)
      have hb01 : Below v0.heap.size v0 v1 := (Below.refl _ _).grown r2 (Nat.le_refl _) (fun k hk => by cases hk)
      have hb2 : Below w2.heap.size w2 v1 := bsq hb1 hb01
      have hc1 := made_ces r1
      have hY1 := keep hY0 hb01
      refine h_value (i := 1) (w' := v1) (.slice (some ⟨v0.heap.size, 0, none⟩) n n) rfl (by kernel_rfl) rfl (run_make_op _ _ _ rfl (by simp [go_sem, Act.put, hsz, s0]) (by simp [go_sem, Act.put, hsz, s0]) hrun) hb2 ?_
      refine h_take (i := 4) (rgV (.slice (some ⟨v0.heap.size, 0, none⟩) n n) 0 1 0 1 0) rfl (by kernel_rfl) (by kernel_rfl) (by kernel_rfl) (fun _ _ _ h => h) rfl hb2 (fun W hW => by simp [execOp, go_sem, Act.put, hsz, s0, s4]) ?_
      obtain ⟨v3, hv3, hY3, hB3, _, _⟩ := put6 v1 w2.heap.size (.slice (some ⟨v0.heap.size, 0, none⟩) n n) (.int .i64 0) (.int .i64 1) (.int .i64 0) (.int .i64 1) (.int .i64 0) hY1
      obtain ⟨⟨zz, q0, q1, q2, q3, q4, q5⟩, g0, g1, g2, g3, g4, g5⟩ := box6 hY1
      have hb3 : Below w2.heap.size w2 v3 := hB3 _ _ (Nat.le_refl _) hb2
      refine h_skip (i := 6) (w' := v3) rfl (by kernel_rfl) rfl (by rw [← hv3]; simp [execOp, go_sem, Act.put, hsz, s0, s4, zz, q0, q1, q2, q3, q4, q5, g0, g1, g2, g3, g4, g5]) hb3 ?_
      refine wpAnyH_done (by kernel_rfl) ?_ _
      have HF : Hid (v3.heap[w2.heap.size]? = some (rgO (.slice (some ⟨v0.heap.size, 0, none⟩) n n) 0 1 0 1 0) ∧ Ces v3 v0.heap.size (.slice (some ⟨v0.heap.size, 0, none⟩) n n) (List.replicate n cz) ∧ Below w2.heap.size w2 v3 ∧ w2.heap.size ≤ v0.heap.size ∧ w2.heap.size ≤ w2.heap.size) := ⟨hY3, by rw [← hv3]; exact own6 hc1 hY1 _ _ _ _ _ _, hb3, hb1.size, Nat.le_refl _⟩
      clear hv3 q0 q1 q2 q3 q4 q5 g0 g1 g2 g3 g4 g5 hY1 hY3 hB3 hb2 hb3 hc1 r1 r2 hrun hv0 hY0 hb01 hb1
      subst ha0
      clear hsz s0 s4
      go_simp
      go_wp2_with fail
      go_meet
      case rel => exact ⟨_, _, rfl, HF.out⟩
  case rest =>
  rename World => wx
  obtain ⟨Y, g, rfl, HY⟩ := hcut
  obtain ⟨⟨zz, q0, q1, q2, q3, q4, q5⟩, _⟩ := box6 HY.out.1
  go_wp2_with fail
  refine (HLK.out g _).mono ?_
  rintro e u ⟨rfl, hb⟩
  have hCu := HY.out.2.1.below hb
  have hYu := keep HY.out.1 hb
  have hbu : Below w2.heap.size w2 u := bsq HY.out.2.2.1 hb
  have hlen : (List.replicate n cz).length = n := by simp
  have hlast : (List.replicate n cz)[n - 1]? = some cz := by rw [List.getElem?_replicate, if_pos (by omega)]
  obtain ⟨c0, c1, c2⟩ := hCu.cells hlen hlast
  have k2 := hCu.free hlen ((n - 1) * 3 + 2)
  have hgl := hCu.lt
  obtain ⟨u1, hu1⟩ : ∃ u1, u.setCell ⟨g, (n - 1) * 3 + 2, none⟩ (.bool true) = u1 := ⟨_, rfl⟩
  have hC1 : Ces u1 g (.slice (some ⟨g, 0, none⟩) n n) ((List.replicate n cz).set (n - 1) (0, 0, true)) := by rw [← hu1]; exact hCu.setLink hlen hlast true
  have hYg : Y ≠ g := fun q => box_ne hCu hYu (by decide) (by rw [q]; rfl)
  have hY1 : u1.heap[Y]? = some (rgO (.slice (some ⟨g, 0, none⟩) n n) 0 1 0 1 0) := by rw [← hu1, heap_setCell_other _ _ _ _ hYg]; exact hYu
  have hRu := (HM.out u hbu).2
  have hRg : w.heap.size ≠ g := by have := HSZ.out; have := HY.out.2.2.2.1; omega
  have hR1 : u1.heap[w.heap.size]? = some (rgO (.slice none 0 0) 0 0 0 0 0) := by rw [← hu1, heap_setCell_other _ _ _ _ hRg]; exact hRu
  have hb1 : Below w.heap.size w u1 := by rw [← hu1]; exact (bsq HB2.out hbu).setCell (by have := HSZ.out; have := HY.out.2.2.2.1; simp; omega) _
  obtain ⟨uf, huf, hXf, hBf, _, _⟩ := put6 u1 w.heap.size (.slice (some ⟨g, 0, none⟩) n n) (.int .i64 0) (.int .i64 1) (.int .i64 0) (.int .i64 1) (.int .i64 0) hR1
  have HE : Hid (Z (.returned (.tuple #[rgV (.slice (some ⟨g, 0, none⟩) n n) 0 1 0 1 0, .int .i64 0])) uf) := by
    refine HZ.out g uf ?_ (hBf _ _ (Nat.le_refl _) hb1)
    rw [← huf]
    exact Ces.mono (own6 hC1 hR1 _ _ _ _ _ _) (by have := HSZ.out; have := HY.out.2.2.2.1; omega)
  obtain ⟨⟨hzr, r0, r1, r2, r3, r4, r5⟩, g0, g1, g2, g3, g4, g5⟩ := box6 hR1
  obtain ⟨⟨hzx, a0, a1, a2, a3, a4, a5⟩, _⟩ := box6 hY1
  obtain ⟨⟨hzf, y0, y1, y2, y3, y4, y5⟩, _⟩ := box6 hXf
  clear hCu hYu hbu hlast hC1 hY1 hRu hRg hR1 hb1 hXf hBf hb q0 q1 q2 q3 q4 q5
  simp only [cz] at c0 c1 c2
  go_upto_region 6 with (fail)
  try rw [hu1]
  clear hu1 c0 c1 c2 k2
  go_wp2
  try rw [huf]
  exact bodyPost_ret (v := .tuple #[rgV (.slice (some ⟨g, 0, none⟩) n n) 0 1 0 1 0, .int .i64 0]) (by simp [results, Try.results49, go_sem, hzf, y0, y1, y2, y3, y4, y5]) rfl HE.out
end Go.Proofs.Ythjmcopknkemnaa.ring
