/- bulk: what WriteStatus answers. -/
import Derived.Test.YtecknicmonhcaabDoorBulB
namespace Go.Proofs.YtecknicmonhcaabDoor.bulk
open Go Go.RowKit Go.PlainAid Go.Proofs.YtecknicmonhcaabDoor.lane Go.Proofs.YtecknicmonhcaabDoor.pipe Go.Proofs.YtecknicmonhcaabDoor.strike
set_option linter.unusedVariables false
set_option linter.unusedSimpArgs false
set_option maxRecDepth 100000

theorem st_no {x : Sp} (h : ¬ sk x = true) : stT x = ⟨#[]⟩ ∧ stC x = 1 := ⟨if_neg h, if_neg h⟩
theorem st_yes {x : Sp} (h : sk x = true) : stT x = strOfNums (stL x) ∧ stC x = 0 := ⟨if_pos h, if_pos h⟩
set_option maxHeartbeats 4000000 in
theorem writeStatus_any (x : Sp) (w : World) : Calls Tryd.prog 11 #[ag (spl x)] w fun e w' => e = .returned (.tuple #[.string (stT x), .int .i64 (stC x)]) ∧ Below w.heap.size w w' := by
  have HL : Hid (∀ n u, Calls Tryd.prog 13 #[.int .i64 n] u fun e w' => e = .returned (.bool (lgB n)) ∧ u = w') := fun n u => isLong_any n u
  have hM := Mm.nil w
  cases ha : lgB x.tag
  case false =>
    have hk : ¬ sk x = true := by unfold sk; rw [ha]; simp
    rw [(st_no hk).1, (st_no hk).2]
    clear hk
    go_enter Tryd.func11, Tryd.ntmps11
    repeat' (first | (go_big_may; first | (refine v_box rfl rfl rfl ?_; intro u zx hN; replace hM := hM.new hN; clear hN) | (refine v_get rfl rfl (by first | exact lod_int | exact lod_str | exact lod_fcs | exact lod_err | exact lod_bool | exact lod_txs) rfl hM.at0 rfl ?_)) | go_values | go_skip | go_guarded | go_step | go_upon | (simp only [Int.not_lt, Int.not_le] at *; go_simp))
    refine (HL.out _ _).mono ?_
    rintro e u1 ⟨rfl, rfl⟩
    rw [ha]
    repeat' (first | (go_big_may; first | (refine v_get rfl rfl (by first | exact lod_int | exact lod_str | exact lod_fcs | exact lod_err | exact lod_bool | exact lod_txs) rfl hM.at0 rfl ?_)) | go_values | go_skip | go_guarded | go_step | go_upon | (simp only [Int.not_lt, Int.not_le] at *; go_simp))
    go_ret2
    exact ⟨rfl, hM.below⟩
  cases hb : lgB x.res
  case false =>
    have hk : ¬ sk x = true := by unfold sk; rw [ha, hb]; simp
    rw [(st_no hk).1, (st_no hk).2]
    clear hk
    go_enter Tryd.func11, Tryd.ntmps11
    repeat' (first | (go_big_may; first | (refine v_box rfl rfl rfl ?_; intro u zx hN; replace hM := hM.new hN; clear hN) | (refine v_get rfl rfl (by first | exact lod_int | exact lod_str | exact lod_fcs | exact lod_err | exact lod_bool | exact lod_txs) rfl hM.at0 rfl ?_)) | go_values | go_skip | go_guarded | go_step | go_upon | (simp only [Int.not_lt, Int.not_le] at *; go_simp))
    refine (HL.out _ _).mono ?_
    rintro e u1 ⟨rfl, rfl⟩
    rw [ha]
    repeat' (first | (go_big_may; first | (refine v_get rfl rfl (by first | exact lod_int | exact lod_str | exact lod_fcs | exact lod_err | exact lod_bool | exact lod_txs) rfl hM.at0 rfl ?_)) | go_values | go_skip | go_guarded | go_step | go_upon | (simp only [Int.not_lt, Int.not_le] at *; go_simp))
    refine (HL.out _ _).mono ?_
    rintro e u1 ⟨rfl, rfl⟩
    rw [hb]
    repeat' (first | (go_big_may; first | (refine v_get rfl rfl (by first | exact lod_int | exact lod_str | exact lod_fcs | exact lod_err | exact lod_bool | exact lod_txs) rfl hM.at0 rfl ?_)) | go_values | go_skip | go_guarded | go_step | go_upon | (simp only [Int.not_lt, Int.not_le] at *; go_simp))
    go_ret2
    exact ⟨rfl, hM.below⟩
  by_cases h0 : x.code < 0
  · have hk : ¬ sk x = true := by rw [sk_iff]; omega
    rw [(st_no hk).1, (st_no hk).2]
    have e0 := decide_eq_true h0
    clear hk
    go_enter Tryd.func11, Tryd.ntmps11
    repeat' (first | (go_big_may; first | (refine v_box rfl rfl rfl ?_; intro u zx hN; replace hM := hM.new hN; clear hN) | (refine v_get rfl rfl (by first | exact lod_int | exact lod_str | exact lod_fcs | exact lod_err | exact lod_bool | exact lod_txs) rfl hM.at0 rfl ?_)) | go_values | go_skip | go_guarded | go_step | go_upon | (simp only [Int.not_lt, Int.not_le] at *; go_simp))
    refine (HL.out _ _).mono ?_
    rintro e u1 ⟨rfl, rfl⟩
    rw [ha]
    repeat' (first | (go_big_may; first | (refine v_get rfl rfl (by first | exact lod_int | exact lod_str | exact lod_fcs | exact lod_err | exact lod_bool | exact lod_txs) rfl hM.at0 rfl ?_)) | go_values | go_skip | go_guarded | go_step | go_upon | (simp only [Int.not_lt, Int.not_le] at *; go_simp))
    refine (HL.out _ _).mono ?_
    rintro e u1 ⟨rfl, rfl⟩
    rw [hb]
    repeat' (first | (go_big_may; first | (refine v_get rfl rfl (by first | exact lod_int | exact lod_str | exact lod_fcs | exact lod_err | exact lod_bool | exact lod_txs) rfl hM.at0 rfl ?_)) | go_values | go_skip | go_guarded | go_step | go_upon | (simp only [Int.not_lt, Int.not_le] at *; go_simp))
    go_ret2
    exact ⟨rfl, hM.below⟩
  have h0 : 0 ≤ x.code := by omega
  have e0 := decide_eq_false (p := x.code < 0) (by omega)
  by_cases h2 : 2 < x.code
  · have hk : ¬ sk x = true := by rw [sk_iff]; omega
    rw [(st_no hk).1, (st_no hk).2]
    have e2 := decide_eq_true h2
    clear hk
    go_enter Tryd.func11, Tryd.ntmps11
    repeat' (first | (go_big_may; first | (refine v_box rfl rfl rfl ?_; intro u zx hN; replace hM := hM.new hN; clear hN) | (refine v_get rfl rfl (by first | exact lod_int | exact lod_str | exact lod_fcs | exact lod_err | exact lod_bool | exact lod_txs) rfl hM.at0 rfl ?_)) | go_values | go_skip | go_guarded | go_step | go_upon | (simp only [Int.not_lt, Int.not_le] at *; go_simp))
    refine (HL.out _ _).mono ?_
    rintro e u1 ⟨rfl, rfl⟩
    rw [ha]
    repeat' (first | (go_big_may; first | (refine v_get rfl rfl (by first | exact lod_int | exact lod_str | exact lod_fcs | exact lod_err | exact lod_bool | exact lod_txs) rfl hM.at0 rfl ?_)) | go_values | go_skip | go_guarded | go_step | go_upon | (simp only [Int.not_lt, Int.not_le] at *; go_simp))
    refine (HL.out _ _).mono ?_
    rintro e u1 ⟨rfl, rfl⟩
    rw [hb]
    repeat' (first | (go_big_may; first | (refine v_get rfl rfl (by first | exact lod_int | exact lod_str | exact lod_fcs | exact lod_err | exact lod_bool | exact lod_txs) rfl hM.at0 rfl ?_)) | go_values | go_skip | go_guarded | go_step | go_upon | (simp only [Int.not_lt, Int.not_le] at *; go_simp))
    go_ret2
    exact ⟨rfl, hM.below⟩
  have h2 : x.code ≤ 2 := by omega
  have e2 := decide_eq_false (p := 2 < x.code) (by omega)
  have hk : sk x = true := by rw [sk_iff, ← lg_iff, ← lg_iff]; exact ⟨ha, hb, h0, h2⟩
  have hka := (sk_iff x).1 hk
  have HX : Hid (strOfNums ([85, 83, 66, 83] ++ le4 x.tag ++ le4 x.res ++ [x.code]) = stT x ∧ stC x = 0) := ⟨(st_yes hk).1.symm, (st_yes hk).2⟩
  rw [HX.out.2]
  have HK : Hid ((0 ≤ x.tag ∧ x.tag ≤ 4294967295) ∧ (0 ≤ x.res ∧ x.res ≤ 4294967295)) := ⟨hka.1, hka.2.1⟩
  clear hk hka
  go_enter Tryd.func11, Tryd.ntmps11
  repeat' (first | (go_big_may; first | (refine v_box rfl rfl rfl ?_; intro u zx hN; replace hM := hM.new hN; clear hN) | (refine v_get rfl rfl (by first | exact lod_int | exact lod_str | exact lod_fcs | exact lod_err | exact lod_bool | exact lod_txs) rfl hM.at0 rfl ?_)) | go_values | go_skip | go_guarded | go_step | go_upon | (simp only [Int.not_lt, Int.not_le] at *; go_simp))
  refine (HL.out _ _).mono ?_
  rintro e u1 ⟨rfl, rfl⟩
  rw [ha]
  repeat' (first | (go_big_may; first | (refine v_get rfl rfl (by first | exact lod_int | exact lod_str | exact lod_fcs | exact lod_err | exact lod_bool | exact lod_txs) rfl hM.at0 rfl ?_)) | go_values | go_skip | go_guarded | go_step | go_upon | (simp only [Int.not_lt, Int.not_le] at *; go_simp))
  refine (HL.out _ _).mono ?_
  rintro e u1 ⟨rfl, rfl⟩
  rw [hb]
  obtain ⟨w1, w2, hw1, hcv, hbf, hbb, hsz⟩ := bf_const u [85, 83, 66, 83] _ rfl (by decide) 4 rfl
  have HF : Hid (Bf w2 u.heap.size (.slice (some ⟨u.heap.size, 0, none⟩) 4 4) [85, 83, 66, 83] ∧ u.heap.size ≤ w2.heap.size ∧ w.heap.size ≤ u.heap.size) := ⟨hbf, hsz, hM.below.size⟩
  have HLT : Hid (∀ b ∈ [zx], b < u.heap.size) := hM.lts
  simp only [List.map_cons, List.map_nil] at hw1
  have hM2 := hM.call hbb
  clear hbf hbb hsz ha hb HL
  repeat' (first | (go_big_may; first | (refine v_get rfl rfl (by first | exact lod_int | exact lod_str | exact lod_fcs | exact lod_err | exact lod_bool | exact lod_txs) rfl hM.at0 rfl ?_) | (refine v_get rfl rfl lod_int rfl hM2.at0 rfl ?_)) | go_values | go_skip | go_guarded | go_step | go_upon | (simp only [Int.not_lt, Int.not_le] at *; go_simp))
  refine (appendLong_any _ _ _ _ HK.out.1.1 HK.out.1.2 _ HF.out.1 HF.out.2.1 (by decide)).mono ?_
  rintro e u3 ⟨v3, rfl, h3, hb3⟩
  clear hM
  have hM := hM2.callB HLT.out HF.out.2.2 hb3
  clear hM2
  have H3 : Hid (Bys u3 u.heap.size v3 ([85, 83, 66, 83] ++ le4 x.tag) ∧ u.heap.size ≤ u3.heap.size) := ⟨h3, Nat.le_trans HF.out.2.1 hb3.size⟩
  clear h3 hb3 hw1 hcv
  repeat' (first | (go_big_may; first | (refine v_get rfl rfl (by first | exact lod_int | exact lod_str | exact lod_fcs | exact lod_err | exact lod_bool | exact lod_txs) rfl hM.at0 rfl ?_)) | go_values | go_skip | go_guarded | go_step | go_upon | (simp only [Int.not_lt, Int.not_le] at *; go_simp))
  refine (appendLong_any _ _ _ _ HK.out.2.1 HK.out.2.2 _ (.inl H3.out.1) H3.out.2 (by simp [le4])).mono ?_
  rintro e u4 ⟨v4, rfl, h4, hb4⟩
  replace hM := hM.callB HLT.out HF.out.2.2 hb4
  have H4 : Hid (Bys u4 u.heap.size v4 ([85, 83, 66, 83] ++ le4 x.tag ++ le4 x.res) ∧ u.heap.size ≤ u4.heap.size) := ⟨h4, Nat.le_trans H3.out.2 hb4.size⟩
  clear h4 hb4 H3
  have HB4 : Hid (Below w.heap.size w u4 ∧ w.heap.size ≤ u.heap.size) := ⟨hM.below, HF.out.2.2⟩
  repeat' (first | (go_big_may; first | (refine v_get rfl rfl (by first | exact lod_int | exact lod_str | exact lod_fcs | exact lod_err | exact lod_bool | exact lod_txs) rfl hM.at0 rfl ?_) | (at_builtin; refine Stop.out ?_)) | go_values | go_skip | go_guarded | go_step | go_upon | (simp only [Int.not_lt, Int.not_le] at *; go_simp))
  refine ⟨?_⟩
  refine wpList_bys _ rfl _ _ rfl u.heap.size _ _ rfl (own_below H4.out.1 (balloc u4 _)) u4.heap.size 1 1 [x.code] rfl rfl (bys_new u4 [x.code] _) (by simp [le4]) (by omega) (Nat.le_trans H4.out.2 (balloc u4 _).size) ?_
  intro v5 w5 h5 hb5
  have hcv5 := h5.conv
  have HB5 : Hid (Below w.heap.size w w5) := (HB4.out.1.trans ((balloc u4 _).mono HB4.out.1.size)).trans (hb5.mono HB4.out.2)
  rw [HX.out.1] at hcv5
  clear h5 hb5
  repeat' (first | go_values | go_skip | go_guarded | go_step | go_upon | (simp only [Int.not_lt, Int.not_le] at *; go_simp))
  go_ret2
  exact ⟨rfl, HB5.out⟩
end Go.Proofs.YtecknicmonhcaabDoor.bulk
