/- bulk: what WriteWrap answers. (Written by tools/genbuld.py.) -/
import Derived.Test.YtecknicmonhcaabDoorBulC
namespace Go.Proofs.YtecknicmonhcaabDoor.bulk
open Go Go.RowKit Go.PlainAid Go.Proofs.YtecknicmonhcaabDoor.lane Go.Proofs.YtecknicmonhcaabDoor.pipe Go.Proofs.YtecknicmonhcaabDoor.strike
set_option linter.unusedVariables false
set_option linter.unusedSimpArgs false
set_option maxRecDepth 100000

theorem wr_no {x : Wp} (h : ¬ wk x = true) : wrT x = ⟨#[]⟩ ∧ wrC x = 1 := ⟨if_neg h, if_neg h⟩
theorem wr_yes {x : Wp} (h : wk x = true) : wrT x = strOfNums (wrL x) ∧ wrC x = 0 := ⟨if_pos h, if_pos h⟩
theorem rpt_zero (k : Nat) : rpt 0 k = strOfNums (List.replicate k 0) := by
  apply nums_inj
  rw [rpt_nums, nums_str]
  · rfl
  · intro x hx; have := List.eq_of_mem_replicate hx; omega
theorem bs_three (a b c : Int) (w : World) : (Instr.buildSlice 26 3 #[(0, .int .u8 a), (1, .int .u8 b), (2, .int .u8 c)]).run Tryd.prog w = .ok (.slice (some ⟨w.heap.size, 0, none⟩) 3 3) (w.alloc (bx 5 ([a, b, c].map (Value.int .u8)))) := by kernel_rfl
theorem u8_cells {w : World} {B : Nat} {T : TypeId} {l : List Int} (h : w.heap[B]? = some (bx T (l.map (Value.int .u8)))) : ∀ j y, l[j]? = some y → w.cell? ⟨B, j, none⟩ = some (.int .u8 y) := fun j y hj => bx_cell h (by simp [hj])
/-- a row of bytes that is carried -/
def ByP (U : Nat) (v : Value) (acc : List Int) (W : World) : Prop := Bys W U v acc ∧ U ≤ W.heap.size
theorem byp {w : World} {U : Nat} {v : Value} {acc : List Int} (h : Bys w U v acc) (hs : U ≤ w.heap.size) : Cr w (ByP U v acc) := ⟨⟨h, hs⟩, fun u v' h hb => ⟨own_below h.1 hb, Nat.le_trans h.2 hb.size⟩⟩
set_option maxHeartbeats 8000000 in
theorem writeWrap_any (x : Wp) (hcm : x.cmd.size ≤ maxLen) (w : World) : Calls Tryd.prog 5 #[ag (wpl x)] w fun e w' => e = .returned (.tuple #[.string (wrT x), .int .i64 (wrC x)]) ∧ Below w.heap.size w w' := by
  have HL : Hid (∀ n u, Calls Tryd.prog 13 #[.int .i64 n] u fun e w' => e = .returned (.bool (lgB n)) ∧ u = w') := fun n u => isLong_any n u
  have hM := Mm.nil w
  obtain ⟨z, hz⟩ : ∃ z : Int, (x.cmd.size : Int) = z := ⟨_, rfl⟩
  have HZ : Hid ((x.cmd.size : Int) = z) := hz
  unfold maxLen at hcm
  cases ha : lgB x.tag
  case false =>
    have hk : ¬ wk x = true := by unfold wk; rw [ha]; simp
    rw [(wr_no hk).1, (wr_no hk).2]
    clear hk
    go_enter Tryd.func5, Tryd.ntmps5
    repeat' (first | (go_big_may; first | (refine v_box rfl rfl rfl ?_; intro u zx hN; replace hM := hM.new hN; clear hN) | (refine v_get rfl rfl (by first | exact lod_int | exact lod_str | exact lod_fcs | exact lod_err | exact lod_bool | exact lod_txs) rfl hM.at0 rfl ?_)) | go_values | go_skip | go_guarded | go_step | go_upon | (simp only [Int.not_lt, Int.not_le] at *; go_simp))
    refine (HL.out _ _).mono ?_
    rintro e u1 ⟨rfl, rfl⟩
    rw [ha]
    repeat' (first | (go_big_may; first | (refine v_get rfl rfl (by first | exact lod_int | exact lod_str | exact lod_fcs | exact lod_err | exact lod_bool | exact lod_txs) rfl hM.at0 rfl ?_)) | go_values | go_skip | go_guarded | go_step | go_upon | (simp only [Int.not_lt, Int.not_le] at *; go_simp))
    go_ret2
    exact ⟨rfl, hM.below⟩
  cases hb : lgB x.len
  case false =>
    have hk : ¬ wk x = true := by unfold wk; rw [ha, hb]; simp
    rw [(wr_no hk).1, (wr_no hk).2]
    clear hk
    go_enter Tryd.func5, Tryd.ntmps5
    repeat' (first | (go_big_may; first | (refine v_box rfl rfl rfl ?_; intro u zx hN; replace hM := hM.new hN; clear hN) | (refine v_get rfl rfl (by first | exact lod_int | exact lod_str | exact lod_fcs | exact lod_err | exact lod_bool | exact lod_txs) rfl hM.at0 rfl ?_)) | go_values | go_skip | go_guarded | go_step | go_upon | (simp only [Int.not_lt, Int.not_le] at *; go_simp))
    refine (HL.out _ _).mono ?_
    rintro e u1 ⟨rfl, rfl⟩
    rw [ha]
    repeat' (first | (go_big_may; first | (refine v_get rfl rfl (by first | exact lod_int | exact lod_str | exact lod_fcs | exact lod_err | exact lod_bool | exact lod_txs) rfl hM.at0 rfl ?_)) | go_values | go_skip | go_guarded | go_step | go_upon | (simp only [Int.not_lt, Int.not_le] at *; go_simp))
    refine (HL.out _ _).mono ?_
    rintro e u1 ⟨rfl, rfl⟩
    rw [hb]
    repeat' (first | (go_big_may; first | (refine v_get rfl rfl (by first | exact lod_int | exact lod_str | exact lod_fcs | exact lod_err | exact lod_bool | exact lod_txs) rfl hM.at0 rfl ?_)) | go_values | go_skip | go_guarded | go_step | go_upon | (simp only [Int.not_lt, Int.not_le] at *; go_simp))
    go_ret2
    exact ⟨rfl, hM.below⟩
  by_cases hq : x.unit < 0
  · have hk : ¬ wk x = true := by rw [wk_iff]; omega
    have e0 := decide_eq_true hq
    rw [(wr_no hk).1, (wr_no hk).2]
    clear hk
    go_enter Tryd.func5, Tryd.ntmps5
    repeat' (first | (go_big_may; first | (refine v_box rfl rfl rfl ?_; intro u zx hN; replace hM := hM.new hN; clear hN) | (refine v_get rfl rfl (by first | exact lod_int | exact lod_str | exact lod_fcs | exact lod_err | exact lod_bool | exact lod_txs) rfl hM.at0 rfl ?_)) | go_values | go_skip | go_guarded | go_step | go_upon | (simp only [Int.not_lt, Int.not_le] at *; go_simp))
    refine (HL.out _ _).mono ?_
    rintro e u1 ⟨rfl, rfl⟩
    rw [ha]
    repeat' (first | (go_big_may; first | (refine v_get rfl rfl (by first | exact lod_int | exact lod_str | exact lod_fcs | exact lod_err | exact lod_bool | exact lod_txs) rfl hM.at0 rfl ?_)) | go_values | go_skip | go_guarded | go_step | go_upon | (simp only [Int.not_lt, Int.not_le] at *; go_simp))
    refine (HL.out _ _).mono ?_
    rintro e u1 ⟨rfl, rfl⟩
    rw [hb]
    repeat' (first | (go_big_may; first | (refine v_get rfl rfl (by first | exact lod_int | exact lod_str | exact lod_fcs | exact lod_err | exact lod_bool | exact lod_txs) rfl hM.at0 rfl ?_)) | go_values | go_skip | go_guarded | go_step | go_upon | (simp only [Int.not_lt, Int.not_le] at *; go_simp))
    go_ret2
    exact ⟨rfl, hM.below⟩
  have e0 := decide_eq_false hq
  have he0 : ¬ x.unit < 0 := hq
  clear hq
  by_cases hq : 15 < x.unit
  · have hk : ¬ wk x = true := by rw [wk_iff]; omega
    have e1 := decide_eq_true hq
    rw [(wr_no hk).1, (wr_no hk).2]
    clear hk
    go_enter Tryd.func5, Tryd.ntmps5
    repeat' (first | (go_big_may; first | (refine v_box rfl rfl rfl ?_; intro u zx hN; replace hM := hM.new hN; clear hN) | (refine v_get rfl rfl (by first | exact lod_int | exact lod_str | exact lod_fcs | exact lod_err | exact lod_bool | exact lod_txs) rfl hM.at0 rfl ?_)) | go_values | go_skip | go_guarded | go_step | go_upon | (simp only [Int.not_lt, Int.not_le] at *; go_simp))
    refine (HL.out _ _).mono ?_
    rintro e u1 ⟨rfl, rfl⟩
    rw [ha]
    repeat' (first | (go_big_may; first | (refine v_get rfl rfl (by first | exact lod_int | exact lod_str | exact lod_fcs | exact lod_err | exact lod_bool | exact lod_txs) rfl hM.at0 rfl ?_)) | go_values | go_skip | go_guarded | go_step | go_upon | (simp only [Int.not_lt, Int.not_le] at *; go_simp))
    refine (HL.out _ _).mono ?_
    rintro e u1 ⟨rfl, rfl⟩
    rw [hb]
    repeat' (first | (go_big_may; first | (refine v_get rfl rfl (by first | exact lod_int | exact lod_str | exact lod_fcs | exact lod_err | exact lod_bool | exact lod_txs) rfl hM.at0 rfl ?_)) | go_values | go_skip | go_guarded | go_step | go_upon | (simp only [Int.not_lt, Int.not_le] at *; go_simp))
    go_ret2
    exact ⟨rfl, hM.below⟩
  have e1 := decide_eq_false hq
  have he1 : ¬ 15 < x.unit := hq
  clear hq
  by_cases hq : z < 1
  · have hk : ¬ wk x = true := by rw [wk_iff]; omega
    have e2 := decide_eq_true hq
    rw [(wr_no hk).1, (wr_no hk).2]
    clear hk
    go_enter Tryd.func5, Tryd.ntmps5
    repeat' (first | (go_big_may; first | (refine v_box rfl rfl rfl ?_; intro u zx hN; replace hM := hM.new hN; clear hN) | (refine v_get rfl rfl (by first | exact lod_int | exact lod_str | exact lod_fcs | exact lod_err | exact lod_bool | exact lod_txs) rfl hM.at0 rfl ?_)) | go_values | go_skip | go_guarded | go_step | go_upon | (simp only [Int.not_lt, Int.not_le] at *; go_simp))
    refine (HL.out _ _).mono ?_
    rintro e u1 ⟨rfl, rfl⟩
    rw [ha]
    repeat' (first | (go_big_may; first | (refine v_get rfl rfl (by first | exact lod_int | exact lod_str | exact lod_fcs | exact lod_err | exact lod_bool | exact lod_txs) rfl hM.at0 rfl ?_)) | go_values | go_skip | go_guarded | go_step | go_upon | (simp only [Int.not_lt, Int.not_le] at *; go_simp))
    refine (HL.out _ _).mono ?_
    rintro e u1 ⟨rfl, rfl⟩
    rw [hb]
    repeat' (first | (go_big_may; first | (refine v_get rfl rfl (by first | exact lod_int | exact lod_str | exact lod_fcs | exact lod_err | exact lod_bool | exact lod_txs) rfl hM.at0 rfl ?_)) | go_values | go_skip | go_guarded | go_step | go_upon | (simp only [Int.not_lt, Int.not_le] at *; go_simp))
    go_ret2
    exact ⟨rfl, hM.below⟩
  have e2 := decide_eq_false hq
  have he2 : ¬ z < 1 := hq
  clear hq
  by_cases hq : 16 < z
  · have hk : ¬ wk x = true := by rw [wk_iff]; omega
    have e3 := decide_eq_true hq
    rw [(wr_no hk).1, (wr_no hk).2]
    clear hk
    go_enter Tryd.func5, Tryd.ntmps5
    repeat' (first | (go_big_may; first | (refine v_box rfl rfl rfl ?_; intro u zx hN; replace hM := hM.new hN; clear hN) | (refine v_get rfl rfl (by first | exact lod_int | exact lod_str | exact lod_fcs | exact lod_err | exact lod_bool | exact lod_txs) rfl hM.at0 rfl ?_)) | go_values | go_skip | go_guarded | go_step | go_upon | (simp only [Int.not_lt, Int.not_le] at *; go_simp))
    refine (HL.out _ _).mono ?_
    rintro e u1 ⟨rfl, rfl⟩
    rw [ha]
    repeat' (first | (go_big_may; first | (refine v_get rfl rfl (by first | exact lod_int | exact lod_str | exact lod_fcs | exact lod_err | exact lod_bool | exact lod_txs) rfl hM.at0 rfl ?_)) | go_values | go_skip | go_guarded | go_step | go_upon | (simp only [Int.not_lt, Int.not_le] at *; go_simp))
    refine (HL.out _ _).mono ?_
    rintro e u1 ⟨rfl, rfl⟩
    rw [hb]
    repeat' (first | (go_big_may; first | (refine v_get rfl rfl (by first | exact lod_int | exact lod_str | exact lod_fcs | exact lod_err | exact lod_bool | exact lod_txs) rfl hM.at0 rfl ?_)) | go_values | go_skip | go_guarded | go_step | go_upon | (simp only [Int.not_lt, Int.not_le] at *; go_simp))
    go_ret2
    exact ⟨rfl, hM.below⟩
  have e3 := decide_eq_false hq
  have he3 : ¬ 16 < z := hq
  clear hq
  have hk : wk x = true := by rw [wk_iff, ← lg_iff, ← lg_iff]; exact ⟨ha, hb, by omega, by omega⟩
  have hka := (wk_iff x).1 hk
  obtain ⟨k, hkk⟩ : ∃ k : Nat, 16 - x.cmd.size = k := ⟨_, rfl⟩
  obtain ⟨T, hT⟩ : ∃ T, strOfNums (([85, 83, 66, 67] ++ le4 x.tag ++ le4 x.len ++ [inB x.inn, x.unit, z]) ++ nums x.cmd) = T := ⟨_, rfl⟩
  have HT : Hid (strOfNums (([85, 83, 66, 67] ++ le4 x.tag ++ le4 x.len ++ [inB x.inn, x.unit, z]) ++ nums x.cmd) = T) := hT
  have HX : Hid (T ++ rpt 0 k = wrT x ∧ wrC x = 0) := by
    refine ⟨?_, (wr_yes hk).2⟩
    rw [← hT]
    rw [(wr_yes hk).1, rpt_zero, ← str_append, ← hz, ← hkk]
    rfl
  have hlt : ¬ 9223372036854775807 < T.size + (rpt 0 k).size := by
    rw [← hT, rpt_size, str_size]
    simp [le4, nums_length]
    omega
  have HLS : Hid (¬ 9223372036854775807 < T.size + (rpt 0 k).size) := hlt
  rw [HX.out.2]
  clear hT hlt
  have HK : Hid ((0 ≤ x.tag ∧ x.tag ≤ 4294967295) ∧ (0 ≤ x.len ∧ x.len ≤ 4294967295)) := ⟨hka.1, hka.2.1⟩
  have HN : Hid (x.cmd.size ≤ 16 ∧ k ≤ 15) := ⟨hka.2.2.2.2, by omega⟩
  have eU : IntKind.u8.wrap x.unit = x.unit := by rw [IntKind.wrap_u8]; omega
  have eZ : IntKind.u8.wrap z = z := by rw [IntKind.wrap_u8]; omega
  have eK : IntKind.i64.wrap (16 - z) = (k : Int) := by rw [IntKind.wrap_i64]; omega
  have HZR : Hid (∀ u, Calls Tryd.prog 16 #[.int .i64 (k : Int)] u fun e w' => e = .returned (.string (rpt 0 k)) ∧ Below u.heap.size u w') := fun u => zeros_any k (by omega) u
  have HI : Hid (∀ u, Calls Tryd.prog 15 #[.bool x.inn] u fun e w' => e = .returned (.int .u8 (inB x.inn)) ∧ Below u.heap.size u w') := fun u => (inByte_any x.inn u).mono fun e w' h => ⟨h.1, by rw [← h.2]; exact Below.refl _ _⟩
  clear hk hka he0 he1 he2 he3 hkk hcm
  go_enter Tryd.func5, Tryd.ntmps5
  repeat' (first | (go_big_may; first | (refine v_box rfl rfl rfl ?_; intro u zx hN; replace hM := hM.new hN; clear hN) | (refine v_get rfl rfl (by first | exact lod_int | exact lod_str | exact lod_fcs | exact lod_err | exact lod_bool | exact lod_txs) rfl hM.at0 rfl ?_)) | go_values | go_skip | go_guarded | go_step | go_upon | (simp only [Int.not_lt, Int.not_le] at *; go_simp))
  refine (HL.out _ _).mono ?_
  rintro e u1 ⟨rfl, rfl⟩
  rw [ha]
  repeat' (first | (go_big_may; first | (refine v_get rfl rfl (by first | exact lod_int | exact lod_str | exact lod_fcs | exact lod_err | exact lod_bool | exact lod_txs) rfl hM.at0 rfl ?_)) | go_values | go_skip | go_guarded | go_step | go_upon | (simp only [Int.not_lt, Int.not_le] at *; go_simp))
  refine (HL.out _ _).mono ?_
  rintro e u1 ⟨rfl, rfl⟩
  rw [hb]
  obtain ⟨w1, w2, hw1, hcv, hbf, hbb, hsz⟩ := bf_const u [85, 83, 66, 67] _ rfl (by decide) 4 rfl
  have HF : Hid (Bf w2 u.heap.size (.slice (some ⟨u.heap.size, 0, none⟩) 4 4) [85, 83, 66, 67] ∧ u.heap.size ≤ w2.heap.size ∧ w.heap.size ≤ u.heap.size) := ⟨hbf, hsz, hM.below.size⟩
  have HLT : Hid (∀ b ∈ [zx], b < u.heap.size) := hM.lts
  simp only [List.map_cons, List.map_nil] at hw1
  have hM2 := hM.call hbb
  clear hbf hbb hsz ha hb HL
  repeat' (first | (go_big_may; first | (refine v_get rfl rfl (by first | exact lod_int | exact lod_str | exact lod_fcs | exact lod_err | exact lod_bool | exact lod_txs) rfl hM.at0 rfl ?_) | (refine v_get rfl rfl lod_int rfl hM2.at0 rfl ?_)) | go_values | go_skip | go_guarded | go_step | go_upon | (simp only [Int.not_lt, Int.not_le] at *; go_simp))
  refine (appendLong_any _ _ _ _ HK.out.1.1 HK.out.1.2 _ HF.out.1 HF.out.2.1 (by decide)).mono ?_
  rintro e u3 ⟨v3, rfl, h3, hb3⟩
  clear hM
  have hM := hM2.callB HLT.out HF.out.2.2 hb3
  clear hM2
  have H3 : Hid (Bys u3 u.heap.size v3 ([85, 83, 66, 67] ++ le4 x.tag) ∧ u.heap.size ≤ u3.heap.size) := ⟨h3, Nat.le_trans HF.out.2.1 hb3.size⟩
  clear h3 hb3 hw1 hcv
  repeat' (first | (go_big_may; first | (refine v_get rfl rfl (by first | exact lod_int | exact lod_str | exact lod_fcs | exact lod_err | exact lod_bool | exact lod_txs) rfl hM.at0 rfl ?_)) | go_values | go_skip | go_guarded | go_step | go_upon | (simp only [Int.not_lt, Int.not_le] at *; go_simp))
  refine (appendLong_any _ _ _ _ HK.out.2.1 HK.out.2.2 _ (.inl H3.out.1) H3.out.2 (by simp [le4])).mono ?_
  rintro e u4 ⟨v4, rfl, h4, hb4⟩
  replace hM := hM.callB HLT.out HF.out.2.2 hb4
  have hC := byp h4 (Nat.le_trans H3.out.2 hb4.size)
  clear h4 hb4 H3 e0 e1 e2 e3
  obtain ⟨U, hU⟩ : ∃ U, u.heap.size = U := ⟨_, rfl⟩
  have HU : Hid (∀ b ∈ [zx], b < U) := by rw [← hU]; exact HLT.out
  have HU2 : Hid (w.heap.size ≤ U) := by rw [← hU]; exact HF.out.2.2
  go_upto_region 6 with (fail)
  simp only [hU] at hC
  refine reg.wp_abs (fun a0 => a0.tmps.size = 67 ∧ (∀ h, a0.tmps[1]'h = .pointer (some ⟨zx, 0, none⟩)) ∧ (∀ h, a0.tmps[4]'h = .int .i64 z) ∧ (∀ h, a0.tmps[5]'h = v4)) ⟨rfl, fun _ => rfl, fun _ => rfl, fun _ => rfl⟩ ?_
  rintro a0 ⟨hsz, s1, s4, s5⟩ ha0
  refine reg.wp_region_E (S := fun W => Ls W [(zx, 31, (wpl x))]) (E := fun _ => false) (by kernel_rfl) ?_
  replace hM := hM.drew
  replace hC := hC.call (Below.refl _ _).drew
  refine reg.e_take (i := 0) (v4) rfl (by kernel_rfl) (by kernel_rfl) (by kernel_rfl) (by kernel_rfl) (fun _ _ _ h => h) (reg.wanted_none rfl) (hM.ls (by simp)) (fun W hW => by simp [execOp, go_sem, Act.put, hsz, s1, s4, s5]) ?_
  refine reg.e_take (i := 1) (.pointer (some ⟨zx, 2, none⟩)) rfl (by kernel_rfl) (by kernel_rfl) (by kernel_rfl) (by kernel_rfl) (fun _ _ _ h => h) (reg.wanted_none rfl) (hM.ls (by simp)) (fun W hW => by simp [execOp, go_sem, Act.put, hsz, s1, s4, s5]) ?_
  refine reg.e_take (i := 2) (.bool x.inn) rfl (by kernel_rfl) (by kernel_rfl) (by kernel_rfl) (by kernel_rfl) (fun _ _ _ h => h) (reg.wanted_none rfl) (hM.ls (by simp)) (fun W hW => ex_get rfl (by simp [go_sem, Act.put, hsz, s1, s4, s5]) hW.at0 (show (wpl x)[2]? = some _ from rfl)) ?_
  refine reg.e_take (i := 4) (.pointer (some ⟨zx, 3, none⟩)) rfl (by kernel_rfl) (by kernel_rfl) (by kernel_rfl) (by kernel_rfl) (fun _ _ _ h => h) (reg.wanted_none rfl) (hM.ls (by simp)) (fun W hW => by simp [execOp, go_sem, Act.put, hsz, s1, s4, s5]) ?_
  refine reg.e_take (i := 5) (.int .i64 x.unit) rfl (by kernel_rfl) (by kernel_rfl) (by kernel_rfl) (by kernel_rfl) (fun _ _ _ h => h) (reg.wanted_none rfl) (hM.ls (by simp)) (fun W hW => ex_get rfl (by simp [go_sem, Act.put, hsz, s1, s4, s5]) hW.at0 (show (wpl x)[3]? = some _ from rfl)) ?_
  refine reg.e_take (i := 6) (.int .u8 x.unit) rfl (by kernel_rfl) (by kernel_rfl) (by kernel_rfl) (by kernel_rfl) (fun _ _ _ h => h) (reg.wanted_none rfl) (hM.ls (by simp)) (fun W hW => by simp [execOp, go_sem, Act.put, hsz, s1, s4, s5, eU]) ?_
  refine reg.e_take (i := 7) (.int .i64 z) rfl (by kernel_rfl) (by kernel_rfl) (by kernel_rfl) (by kernel_rfl) (fun _ _ _ h => h) (reg.wanted_none rfl) (hM.ls (by simp)) (fun W hW => by simp [execOp, go_sem, Act.put, hsz, s1, s4, s5]) ?_
  refine reg.e_take (i := 8) (.int .u8 z) rfl (by kernel_rfl) (by kernel_rfl) (by kernel_rfl) (by kernel_rfl) (fun _ _ _ h => h) (reg.wanted_none rfl) (hM.ls (by simp)) (fun W hW => by simp [execOp, go_sem, Act.put, hsz, s1, s4, s5, eZ]) ?_
  refine reg.e_one 3 (by kernel_rfl) rfl ?_
  refine reg.r_call (i := 3) 15 #[.bool x.inn] rfl (reg.wanted_none rfl) (by simp [execOp, go_sem, Act.put, hsz, s1, s4, s5]) ((HI.out _).mono ?_)
  rintro re ru1 ⟨rfl, rhv⟩
  replace hM := hM.call rhv
  replace hC := hC.call rhv
  clear rhv
  refine ⟨_, rfl, hM.ls (by simp), ?_⟩
  refine reg.e_one 9 (by kernel_rfl) rfl ?_
  refine r_bs (i := 9) rfl (reg.wanted_none rfl) rfl (bs_three (inB x.inn) x.unit z) (by simp [Act.eval, Act.put, hsz, s1, s4, s5]) ?_
  intro ru2 zt rhn
  replace hC := hC.call rhn.below
  replace hM := hM.new rhn
  clear rhn
  refine ⟨hM.ls (by simp), ?_⟩
  refine reg.e_one 10 (by kernel_rfl) rfl ?_
  refine r_bys (i := 10) rfl (reg.wanted_none rfl) rfl (by simp [go_sem, Act.put, hsz, s1, s4, s5]) (by simp [go_sem, Act.put, hsz, s1, s4, s5]) (m := 3) (c := 3) (g := zt) hC.out.1 rfl (u8_cells hM.at0) (by simp [le4]) (by omega) hC.out.2 ?_
  intro rvx ru3 rho rhv
  replace hM := hM.tail.callB HU.out HU2.out rhv
  have hC6 := byp rho (Nat.le_trans hC.out.2 rhv.size)
  clear rho rhv hC
  refine ⟨hM.ls (by simp), ?_⟩
  refine reg.e_take (i := 11) (rvx) rfl (by kernel_rfl) (by kernel_rfl) (by kernel_rfl) (by kernel_rfl) (fun _ _ _ h => h) (reg.wanted_none rfl) (hM.ls (by simp)) (fun W hW => by simp [execOp, go_sem, Act.put, hsz, s1, s4, s5]) ?_
  refine reg.e_done (by kernel_rfl) ?_ _
  subst ha0
  clear hsz s1 s4 s5
  go_simp
  repeat' (first | (go_big_may; first | (refine v_get rfl rfl (by first | exact lod_int | exact lod_str | exact lod_fcs | exact lod_err | exact lod_bool | exact lod_txs) rfl hM.at0 rfl ?_) | (at_builtin; refine Stop.out ?_)) | go_values | go_skip | go_guarded | go_step | go_upon | (simp only [Int.not_lt, Int.not_le] at *; go_simp))
  refine ⟨?_⟩
  refine wpList_bstr rfl rfl rfl rfl hC6.out.1 (by simp [le4]) (by have := HN.out.1; omega) hC6.out.2 ?_
  intro v7 w7 h7 hb7
  replace hM := hM.callB HU.out HU2.out hb7
  have hC := byp h7 (Nat.le_trans hC6.out.2 hb7.size)
  clear h7 hb7 hC6
  repeat' (first | go_values | go_skip | go_guarded | go_step | go_upon | (simp only [Int.not_lt, Int.not_le] at *; go_simp))
  refine reg.wp_abs (fun a0 => a0.tmps.size = 67 ∧ (∀ h, a0.tmps[4]'h = .int .i64 z) ∧ (∀ h, a0.tmps[5]'h = v7)) ⟨rfl, fun _ => rfl, fun _ => rfl⟩ ?_
  rintro a0 ⟨hsz, s4, s5⟩ ha0
  refine reg.wp_region_E (S := fun W => Ls W []) (E := fun _ => false) (by kernel_rfl) ?_
  replace hM := hM.drew
  replace hC := hC.call (Below.refl _ _).drew
  refine reg.e_take (i := 0) (v7) rfl (by kernel_rfl) (by kernel_rfl) (by kernel_rfl) (by kernel_rfl) (fun _ _ _ h => h) (reg.wanted_none rfl) (hM.ls (by simp)) (fun W hW => by simp [execOp, go_sem, Act.put, hsz, s4, s5]) ?_
  refine reg.e_take (i := 2) (.int .i64 z) rfl (by kernel_rfl) (by kernel_rfl) (by kernel_rfl) (by kernel_rfl) (fun _ _ _ h => h) (reg.wanted_none rfl) (hM.ls (by simp)) (fun W hW => by simp [execOp, go_sem, Act.put, hsz, s4, s5]) ?_
  refine reg.e_take (i := 3) (.int .i64 (k : Int)) rfl (by kernel_rfl) (by kernel_rfl) (by kernel_rfl) (by kernel_rfl) (fun _ _ _ h => h) (reg.wanted_none rfl) (hM.ls (by simp)) (fun W hW => by simp [execOp, go_sem, Act.put, hsz, s4, s5, eK]) ?_
  refine reg.e_two 1 4 (by kernel_rfl) rfl rfl ?_ ?_
  · refine reg.r_same (i := 1) (.string T) rfl (reg.wanted_none rfl) (by have hcv := hC.out.1.conv; rw [HT.out] at hcv; simp [execOp, go_sem, Act.put, hsz, s4, s5, hcv]) ?_
    refine ⟨hM.ls (by simp), ?_⟩
    refine reg.e_one 4 (by kernel_rfl) rfl ?_
    refine reg.r_call (i := 4) 16 #[.int .i64 (k : Int)] rfl (reg.wanted_none rfl) (by simp [execOp, go_sem, Act.put, hsz, s4, s5]) ((HZR.out _).mono ?_)
    rintro re ru2 ⟨rfl, rhv⟩
    replace hM := hM.call rhv
    replace hC := hC.call rhv
    clear rhv
    refine ⟨_, rfl, hM.ls (by simp), ?_⟩
    refine reg.e_take (i := 5) (.string (wrT x)) rfl (by kernel_rfl) (by kernel_rfl) (by kernel_rfl) (by kernel_rfl) (fun _ _ _ h => h) (reg.wanted_none rfl) (hM.ls (by simp)) (fun W hW => by simp [execOp, go_sem, Act.put, hsz, s4, s5, HX.out.1, HLS.out]) ?_
    refine reg.e_take (i := 6) (.string (wrT x)) rfl (by kernel_rfl) (by kernel_rfl) (by kernel_rfl) (by kernel_rfl) (fun _ _ _ h => h) (reg.wanted_none rfl) (hM.ls (by simp)) (fun W hW => by simp [execOp, go_sem, Act.put, hsz, s4, s5]) ?_
    refine reg.e_take (i := 7) (.int .i64 0) rfl (by kernel_rfl) (by kernel_rfl) (by kernel_rfl) (by kernel_rfl) (fun _ _ _ h => h) (reg.wanted_none rfl) (hM.ls (by simp)) (fun W hW => by simp [execOp, go_sem, Act.put, hsz, s4, s5]) ?_
    refine reg.e_done (by kernel_rfl) ?_ _
    subst ha0
    clear hsz s4 s5
    go_simp
    repeat' (first | go_values | go_skip | go_guarded | go_step | go_upon | (simp only [Int.not_lt, Int.not_le] at *; go_simp))
    go_ret2
    exact ⟨rfl, hM.below⟩
  · refine reg.r_call (i := 4) 16 #[.int .i64 (k : Int)] rfl (reg.wanted_none rfl) (by simp [execOp, go_sem, Act.put, hsz, s4, s5]) ((HZR.out _).mono ?_)
    rintro re ru3 ⟨rfl, rhv⟩
    replace hM := hM.call rhv
    replace hC := hC.call rhv
    clear rhv
    refine ⟨_, rfl, hM.ls (by simp), ?_⟩
    refine reg.e_one 1 (by kernel_rfl) rfl ?_
    refine reg.r_same (i := 1) (.string T) rfl (reg.wanted_none rfl) (by have hcv := hC.out.1.conv; rw [HT.out] at hcv; simp [execOp, go_sem, Act.put, hsz, s4, s5, hcv]) ?_
    refine ⟨hM.ls (by simp), ?_⟩
    refine reg.e_take (i := 5) (.string (wrT x)) rfl (by kernel_rfl) (by kernel_rfl) (by kernel_rfl) (by kernel_rfl) (fun _ _ _ h => h) (reg.wanted_none rfl) (hM.ls (by simp)) (fun W hW => by simp [execOp, go_sem, Act.put, hsz, s4, s5, HX.out.1, HLS.out]) ?_
    refine reg.e_take (i := 6) (.string (wrT x)) rfl (by kernel_rfl) (by kernel_rfl) (by kernel_rfl) (by kernel_rfl) (fun _ _ _ h => h) (reg.wanted_none rfl) (hM.ls (by simp)) (fun W hW => by simp [execOp, go_sem, Act.put, hsz, s4, s5]) ?_
    refine reg.e_take (i := 7) (.int .i64 0) rfl (by kernel_rfl) (by kernel_rfl) (by kernel_rfl) (by kernel_rfl) (fun _ _ _ h => h) (reg.wanted_none rfl) (hM.ls (by simp)) (fun W hW => by simp [execOp, go_sem, Act.put, hsz, s4, s5]) ?_
    refine reg.e_done (by kernel_rfl) ?_ _
    subst ha0
    clear hsz s4 s5
    go_simp
    repeat' (first | go_values | go_skip | go_guarded | go_step | go_upon | (simp only [Int.not_lt, Int.not_le] at *; go_simp))
    go_ret2
    exact ⟨rfl, hM.below⟩
end Go.Proofs.YtecknicmonhcaabDoor.bulk
