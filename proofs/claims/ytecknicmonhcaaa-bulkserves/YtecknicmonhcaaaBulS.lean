/- plugref: StatusText, WrapText. (Written by tools/genbuls.py.) -/
import Derived.Test.YtecknicmonhcaaaBulR
import Derived.Test.YtecknicmonhcaaaBulD
namespace Go.Proofs.Ytecknicmonhcaaa.bulk
open Go Go.RowKit Go.PlainAid Go.Proofs.Ytecknicmonhcaaa.lane Go.Proofs.Ytecknicmonhcaaa.pipe Go.Proofs.Ytecknicmonhcaaa.strike
open Go.Proofs.Ytecknicmonhcaaa.scsi (between_any)
set_option linter.unusedVariables false
set_option linter.unusedSimpArgs false
set_option maxRecDepth 100000

theorem ex_cat {o : Oper} {a : Act} {W : World} {x y : Operand} {s t z : ByteArray} {r : TypeId} (ho : o.op = .binOp .add 9 x y r) (hx : a.eval x = .string s) (hy : a.eval y = .string t) (hz : s ++ t = z) (hs : s.size + t.size ≤ 1000000) :
    (execOp a.eval o).run Try.prog W = .ok (.value (.string z)) W := by
  subst hz
  have h : ¬ 9223372036854775807 < s.size + t.size := by omega
  unfold execOp
  simp only [ho, hx, hy]
  simp [go_sem, h]
theorem rn_const (w : World) (us : List Int) (cs : Array Value) (hcs : (us.map (Value.int .i64)).toArray = cs) (n : Nat) (hn : us.length = n) :
    ∃ w1, w.alloc (.cells cs 3) = w1 ∧ Rn w1 (.slice (some ⟨w.heap.size, 0, none⟩) n n) us ∧ Below w.heap.size w w1 := by
  subst hcs hn
  refine ⟨_, rfl, ⟨w.heap.size, rfl, by simp, fun j x hj => ?_⟩, balloc _ _⟩
  rw [World.cell?_alloc_new]
  simp [hj]
set_option maxHeartbeats 4000000 in
theorem statusText_any (x : Sp) (w : World) : Calls Try.prog 14 #[ag (spl x)] w fun e w' => e = .returned (.tuple #[.string (stT x), .int .i64 (stC x)]) ∧ Below w.heap.size w w' := by
  have HL : Hid (∀ n u, Calls Try.prog 27 #[.int .i64 n] u fun e w' => e = .returned (.bool (lgB n)) ∧ u = w') := fun n u => rlong_any n u
  have HB : Hid (∀ u, Calls Try.prog 28 #[.int .i64 x.code, .int .i64 0, .int .i64 2] u fun e w' => e = .returned (.bool (decide (0 ≤ x.code) && decide (x.code ≤ 2))) ∧ u = w') := fun u => between_any _ _ _ u
  have hM := Mm.nil w
  cases ha : lgB x.tag
  case false =>
    have hk : ¬ sk x = true := by unfold sk; rw [ha]; simp
    rw [(st_no hk).1, (st_no hk).2]
    clear hk
    go_enter Try.func14, Try.ntmps14
    repeat' (first | (go_big_may; first | (refine v_box rfl rfl rfl ?_; intro u zx hN; replace hM := hM.new hN; clear hN) | (refine v_get rfl rfl (by first | exact lod_int | exact lod_str | exact lod_fcs | exact lod_err | exact lod_bool | exact lod_txs) rfl hM.at0 rfl ?_)) | go_values | go_skip | go_guarded | go_step | go_upon | (simp only [Int.not_lt, Int.not_le] at *; go_simp))
    refine (HL.out _ _).mono ?_
    rintro e u1 ⟨rfl, rfl⟩
    rw [ha]
    repeat' (first | (go_big_may; first | (refine v_get rfl rfl (by first | exact lod_int | exact lod_str | exact lod_fcs | exact lod_err | exact lod_bool | exact lod_txs) rfl hM.at0 rfl ?_)) | go_values | go_skip | go_guarded | go_step | go_upon | (simp only [Int.not_lt, Int.not_le] at *; go_simp))
    go_ret2
    exact ⟨rfl, hM.below⟩
  cases hb : lgB x.res
  case false =>
    have hk : ¬ sk x = true := by unfold sk; rw [ha, hb]; simp
    rw [(st_no hk).1, (st_no hk).2]
    clear hk
    go_enter Try.func14, Try.ntmps14
    repeat' (first | (go_big_may; first | (refine v_box rfl rfl rfl ?_; intro u zx hN; replace hM := hM.new hN; clear hN) | (refine v_get rfl rfl (by first | exact lod_int | exact lod_str | exact lod_fcs | exact lod_err | exact lod_bool | exact lod_txs) rfl hM.at0 rfl ?_)) | go_values | go_skip | go_guarded | go_step | go_upon | (simp only [Int.not_lt, Int.not_le] at *; go_simp))
    refine (HL.out _ _).mono ?_
    rintro e u1 ⟨rfl, rfl⟩
    rw [ha]
    repeat' (first | (go_big_may; first | (refine v_get rfl rfl (by first | exact lod_int | exact lod_str | exact lod_fcs | exact lod_err | exact lod_bool | exact lod_txs) rfl hM.at0 rfl ?_)) | go_values | go_skip | go_guarded | go_step | go_upon | (simp only [Int.not_lt, Int.not_le] at *; go_simp))
    refine (HL.out _ _).mono ?_
    rintro e u1 ⟨rfl, rfl⟩
    rw [hb]
    repeat' (first | (go_big_may; first | (refine v_get rfl rfl (by first | exact lod_int | exact lod_str | exact lod_fcs | exact lod_err | exact lod_bool | exact lod_txs) rfl hM.at0 rfl ?_)) | go_values | go_skip | go_guarded | go_step | go_upon | (simp only [Int.not_lt, Int.not_le] at *; go_simp))
    go_ret2
    exact ⟨rfl, hM.below⟩
  cases hc : (decide (0 ≤ x.code) && decide (x.code ≤ 2))
  case false =>
    have hk : ¬ sk x = true := by unfold sk; rw [ha, hb, hc]; simp
    rw [(st_no hk).1, (st_no hk).2]
    clear hk
    go_enter Try.func14, Try.ntmps14
    repeat' (first | (go_big_may; first | (refine v_box rfl rfl rfl ?_; intro u zx hN; replace hM := hM.new hN; clear hN) | (refine v_get rfl rfl (by first | exact lod_int | exact lod_str | exact lod_fcs | exact lod_err | exact lod_bool | exact lod_txs) rfl hM.at0 rfl ?_)) | go_values | go_skip | go_guarded | go_step | go_upon | (simp only [Int.not_lt, Int.not_le] at *; go_simp))
    refine (HL.out _ _).mono ?_
    rintro e u1 ⟨rfl, rfl⟩
    rw [ha]
    repeat' (first | (go_big_may; first | (refine v_get rfl rfl (by first | exact lod_int | exact lod_str | exact lod_fcs | exact lod_err | exact lod_bool | exact lod_txs) rfl hM.at0 rfl ?_)) | go_values | go_skip | go_guarded | go_step | go_upon | (simp only [Int.not_lt, Int.not_le] at *; go_simp))
    refine (HL.out _ _).mono ?_
    rintro e u1 ⟨rfl, rfl⟩
    rw [hb]
    repeat' (first | (go_big_may; first | (refine v_get rfl rfl (by first | exact lod_int | exact lod_str | exact lod_fcs | exact lod_err | exact lod_bool | exact lod_txs) rfl hM.at0 rfl ?_)) | go_values | go_skip | go_guarded | go_step | go_upon | (simp only [Int.not_lt, Int.not_le] at *; go_simp))
    refine (HB.out _).mono ?_
    rintro e u1 ⟨rfl, rfl⟩
    rw [hc]
    repeat' (first | (go_big_may; first | (refine v_get rfl rfl (by first | exact lod_int | exact lod_str | exact lod_fcs | exact lod_err | exact lod_bool | exact lod_txs) rfl hM.at0 rfl ?_)) | go_values | go_skip | go_guarded | go_step | go_upon | (simp only [Int.not_lt, Int.not_le] at *; go_simp))
    go_ret2
    exact ⟨rfl, hM.below⟩
  have hk : sk x = true := by unfold sk; rw [ha, hb, hc]; rfl
  have hka := (sk_iff x).1 hk
  obtain ⟨A, hA⟩ : ∃ A, (⟨#[85, 83, 66, 83]⟩ : ByteArray) ++ strOfNums (le4 x.tag) = A := ⟨_, rfl⟩
  obtain ⟨B, hB⟩ : ∃ B, A ++ strOfNums (le4 x.res) = B := ⟨_, rfl⟩
  have e0 : (⟨#[85, 83, 66, 83]⟩ : ByteArray) = strOfNums [85, 83, 66, 83] := rfl
  have zA : A.size = 8 := by rw [← hA, e0, ← str_append, str_size]; rfl
  have zB : B.size = 12 := by rw [← hB, ← hA, e0, ← str_append, ← str_append, str_size]; rfl
  have HX : Hid (B ++ strOfNums [x.code] = stT x ∧ stC x = 0) := by
    refine ⟨?_, (st_yes hk).2⟩
    rw [(st_yes hk).1, ← hB, ← hA, e0, ← str_append, ← str_append, ← str_append]
    rfl
  have HA : Hid ((⟨#[85, 83, 66, 83]⟩ : ByteArray) ++ strOfNums (le4 x.tag) = A ∧ (⟨#[85, 83, 66, 83]⟩ : ByteArray).size + (strOfNums (le4 x.tag)).size ≤ 1000000) := ⟨hA, by rw [str_size]; show 4 + 4 ≤ _; omega⟩
  have HB2 : Hid (A ++ strOfNums (le4 x.res) = B ∧ A.size + (strOfNums (le4 x.res)).size ≤ 1000000) := ⟨hB, by rw [str_size, zA]; show 8 + 4 ≤ _; omega⟩
  have HB3 : Hid (B.size + (strOfNums [x.code]).size ≤ 1000000) := by show _ ≤ _; rw [str_size, zB]; show 12 + 1 ≤ _; omega
  have HLo : Hid (∀ u, Calls Try.prog 30 #[.int .i64 x.tag] u fun e w' => e = .returned (.string (strOfNums (le4 x.tag))) ∧ Below u.heap.size u w') := fun u => low_any _ hka.1.1 hka.1.2 u
  have HLp : Hid (∀ u, Calls Try.prog 30 #[.int .i64 x.res] u fun e w' => e = .returned (.string (strOfNums (le4 x.res))) ∧ Below u.heap.size u w') := fun u => low_any _ hka.2.1.1 hka.2.1.2 u
  have HBO : Hid (∀ v u, Rn u v [x.code] → Calls Try.prog 29 #[v] u fun e w' => e = .returned (.tuple #[.string (strOfNums [x.code]), .bool true]) ∧ Below u.heap.size u w') := fun v u hv => bytesOf_any v _ u hv (fun y hy => by simp at hy; omega) (by simp)
  rw [HX.out.2]
  clear hk hka hA hB zA zB e0
  go_enter Try.func14, Try.ntmps14
  repeat' (first | (go_big_may; first | (refine v_box rfl rfl rfl ?_; intro u zx hN; replace hM := hM.new hN; clear hN) | (refine v_get rfl rfl (by first | exact lod_int | exact lod_str | exact lod_fcs | exact lod_err | exact lod_bool | exact lod_txs) rfl hM.at0 rfl ?_)) | go_values | go_skip | go_guarded | go_step | go_upon | (simp only [Int.not_lt, Int.not_le] at *; go_simp))
  refine (HL.out _ _).mono ?_
  rintro e u1 ⟨rfl, rfl⟩
  rw [ha]
  repeat' (first | (go_big_may; first | (refine v_get rfl rfl (by first | exact lod_int | exact lod_str | exact lod_fcs | exact lod_err | exact lod_bool | exact lod_txs) rfl hM.at0 rfl ?_)) | go_values | go_skip | go_guarded | go_step | go_upon | (simp only [Int.not_lt, Int.not_le] at *; go_simp))
  refine (HL.out _ _).mono ?_
  rintro e u1 ⟨rfl, rfl⟩
  rw [hb]
  repeat' (first | (go_big_may; first | (refine v_get rfl rfl (by first | exact lod_int | exact lod_str | exact lod_fcs | exact lod_err | exact lod_bool | exact lod_txs) rfl hM.at0 rfl ?_)) | go_values | go_skip | go_guarded | go_step | go_upon | (simp only [Int.not_lt, Int.not_le] at *; go_simp))
  refine (HB.out _).mono ?_
  rintro e u1 ⟨rfl, rfl⟩
  rw [hc]
  obtain ⟨w1, hw1, hrn, hbb⟩ := rn_const u [x.code] _ rfl 1 rfl
  have hM2 := hM.call hbb
  have HRN : Hid (Rn w1 (.slice (some ⟨u.heap.size, 0, none⟩) 1 1) [x.code]) := hrn
  simp only [List.map_cons, List.map_nil] at hw1
  clear hbb hrn ha hb hc HL HB
  repeat' (first | (go_big_may; first | (refine v_get rfl rfl (by first | exact lod_int | exact lod_str | exact lod_fcs | exact lod_err | exact lod_bool | exact lod_txs) rfl hM.at0 rfl ?_)) | go_values | go_skip | go_guarded | go_step | go_upon | (simp only [Int.not_lt, Int.not_le] at *; go_simp))
  refine (HBO.out _ _ HRN.out).mono ?_
  rintro e u3 ⟨rfl, hb3⟩
  clear hM
  have hM := hM2.call hb3
  clear hM2 hb3 HRN hw1 HBO
  repeat' (first | go_values | go_skip | go_guarded | go_step | go_upon | (simp only [Int.not_lt, Int.not_le] at *; go_simp))
  refine reg.wp_abs (fun a0 => a0.tmps.size = 39 ∧ (∀ h, a0.tmps[1]'h = .pointer (some ⟨zx, 0, none⟩)) ∧ (∀ h, a0.tmps[4]'h = .string (strOfNums [x.code]))) ⟨rfl, fun _ => rfl, fun _ => rfl⟩ ?_
  rintro a0 ⟨hsz, s1, s4⟩ ha0
  refine reg.wp_region_E (S := fun W => Ls W [(zx, 31, (spl x))]) (E := fun _ => false) (by kernel_rfl) ?_
  replace hM := hM.drew
  refine reg.e_take (i := 0) (.pointer (some ⟨zx, 0, none⟩)) rfl (by kernel_rfl) (by kernel_rfl) (by kernel_rfl) (by kernel_rfl) (fun _ _ _ h => h) (reg.wanted_none rfl) (hM.ls (by simp)) (fun W hW => by simp [execOp, go_sem, Act.put, hsz, s1, s4]) ?_
  refine reg.e_take (i := 1) (.int .i64 x.tag) rfl (by kernel_rfl) (by kernel_rfl) (by kernel_rfl) (by kernel_rfl) (fun _ _ _ h => h) (reg.wanted_none rfl) (hM.ls (by simp)) (fun W hW => ex_get rfl (by simp [go_sem, Act.put, hsz, s1, s4]) hW.at0 (show (spl x)[0]? = some _ from rfl)) ?_
  refine reg.e_take (i := 4) (.pointer (some ⟨zx, 1, none⟩)) rfl (by kernel_rfl) (by kernel_rfl) (by kernel_rfl) (by kernel_rfl) (fun _ _ _ h => h) (reg.wanted_none rfl) (hM.ls (by simp)) (fun W hW => by simp [execOp, go_sem, Act.put, hsz, s1, s4]) ?_
  refine reg.e_take (i := 5) (.int .i64 x.res) rfl (by kernel_rfl) (by kernel_rfl) (by kernel_rfl) (by kernel_rfl) (fun _ _ _ h => h) (reg.wanted_none rfl) (hM.ls (by simp)) (fun W hW => ex_get rfl (by simp [go_sem, Act.put, hsz, s1, s4]) hW.at0 (show (spl x)[1]? = some _ from rfl)) ?_
  refine reg.e_take (i := 8) (.string (strOfNums [x.code])) rfl (by kernel_rfl) (by kernel_rfl) (by kernel_rfl) (by kernel_rfl) (fun _ _ _ h => h) (reg.wanted_none rfl) (hM.ls (by simp)) (fun W hW => by simp [execOp, go_sem, Act.put, hsz, s1, s4]) ?_
  refine reg.e_one 2 (by kernel_rfl) rfl ?_
  refine reg.r_call (i := 2) 30 #[.int .i64 x.tag] rfl (reg.wanted_none rfl) (by simp [execOp, go_sem, Act.put, hsz, s1, s4]) ((HLo.out _).mono ?_)
  rintro re ru1 ⟨rfl, rhv⟩
  replace hM := hM.call rhv
  clear rhv
  refine ⟨_, rfl, hM.ls (by simp), ?_⟩
  refine reg.e_take (i := 3) (.string A) rfl (by kernel_rfl) (by kernel_rfl) (by kernel_rfl) (by kernel_rfl) (fun _ _ _ h => h) (reg.wanted_none rfl) (hM.ls (by simp)) (fun W hW => ex_cat rfl (by simp [go_sem, Act.put, hsz, s1, s4]) (by simp [go_sem, Act.put, hsz, s1, s4]) HA.out.1 HA.out.2) ?_
  refine reg.e_one 6 (by kernel_rfl) rfl ?_
  refine reg.r_call (i := 6) 30 #[.int .i64 x.res] rfl (reg.wanted_none rfl) (by simp [execOp, go_sem, Act.put, hsz, s1, s4]) ((HLp.out _).mono ?_)
  rintro re ru2 ⟨rfl, rhv⟩
  replace hM := hM.call rhv
  clear rhv
  refine ⟨_, rfl, hM.ls (by simp), ?_⟩
  refine reg.e_take (i := 7) (.string B) rfl (by kernel_rfl) (by kernel_rfl) (by kernel_rfl) (by kernel_rfl) (fun _ _ _ h => h) (reg.wanted_none rfl) (hM.ls (by simp)) (fun W hW => ex_cat rfl (by simp [go_sem, Act.put, hsz, s1, s4]) (by simp [go_sem, Act.put, hsz, s1, s4]) HB2.out.1 HB2.out.2) ?_
  refine reg.e_take (i := 9) (.string (stT x)) rfl (by kernel_rfl) (by kernel_rfl) (by kernel_rfl) (by kernel_rfl) (fun _ _ _ h => h) (reg.wanted_none rfl) (hM.ls (by simp)) (fun W hW => ex_cat rfl (by simp [go_sem, Act.put, hsz, s1, s4]) (by simp [go_sem, Act.put, hsz, s1, s4]) HX.out.1 HB3.out) ?_
  refine reg.e_take (i := 10) (.string (stT x)) rfl (by kernel_rfl) (by kernel_rfl) (by kernel_rfl) (by kernel_rfl) (fun _ _ _ h => h) (reg.wanted_none rfl) (hM.ls (by simp)) (fun W hW => by simp [execOp, go_sem, Act.put, hsz, s1, s4]) ?_
  refine reg.e_take (i := 11) (.int .i64 0) rfl (by kernel_rfl) (by kernel_rfl) (by kernel_rfl) (by kernel_rfl) (fun _ _ _ h => h) (reg.wanted_none rfl) (hM.ls (by simp)) (fun W hW => by simp [execOp, go_sem, Act.put, hsz, s1, s4]) ?_
  refine reg.e_done (by kernel_rfl) ?_ _
  subst ha0
  clear hsz s1 s4
  go_simp
  repeat' (first | go_values | go_skip | go_guarded | go_step | go_upon | (simp only [Int.not_lt, Int.not_le] at *; go_simp))
  go_ret2
  exact ⟨rfl, hM.below⟩
set_option maxHeartbeats 8000000 in
theorem wrapText_any (x : Wp) (hcm : x.cmd.size ≤ maxLen) (w : World) : Calls Try.prog 10 #[ag (wpl x)] w fun e w' => e = .returned (.tuple #[.string (wrT x), .int .i64 (wrC x)]) ∧ Below w.heap.size w w' := by
  have HL : Hid (∀ n u, Calls Try.prog 27 #[.int .i64 n] u fun e w' => e = .returned (.bool (lgB n)) ∧ u = w') := fun n u => rlong_any n u
  obtain ⟨z, hz⟩ : ∃ z : Int, (x.cmd.size : Int) = z := ⟨_, rfl⟩
  have HB : Hid (∀ u, Calls Try.prog 28 #[.int .i64 x.unit, .int .i64 0, .int .i64 15] u fun e w' => e = .returned (.bool (decide (0 ≤ x.unit) && decide (x.unit ≤ 15))) ∧ u = w') := fun u => between_any _ _ _ u
  have HD : Hid (∀ u, Calls Try.prog 28 #[.int .i64 z, .int .i64 1, .int .i64 16] u fun e w' => e = .returned (.bool (decide (1 ≤ z) && decide (z ≤ 16))) ∧ u = w') := fun u => between_any _ _ _ u
  have hzc : (decide (1 ≤ z) && decide (z ≤ 16)) = (decide (1 ≤ x.cmd.size) && decide (x.cmd.size ≤ 16)) := by
    rw [decide_eq_decide.2 (show 1 ≤ z ↔ 1 ≤ x.cmd.size by omega), decide_eq_decide.2 (show z ≤ 16 ↔ x.cmd.size ≤ 16 by omega)]
  have hM := Mm.nil w
  unfold maxLen at hcm
  cases ha : lgB x.tag
  case false =>
    have hk : ¬ wk x = true := by unfold wk; rw [ha]; simp
    rw [(wr_no hk).1, (wr_no hk).2]
    clear hk
    go_enter Try.func10, Try.ntmps10
    repeat' (first | (go_big_may; first | (refine v_box rfl rfl rfl ?_; intro u zx hN; replace hM := hM.new hN; clear hN) | (refine v_get rfl rfl (by first | exact lod_int | exact lod_str | exact lod_fcs | exact lod_err | exact lod_bool | exact lod_txs) rfl hM.at0 rfl ?_)) | go_values | go_skip | go_guarded | go_step | go_upon | (simp only [Int.not_lt, Int.not_le] at *; go_simp))
    refine (HL.out _ _).mono ?_
    rintro e u1 ⟨rfl, rfl⟩
    rw [ha]
    repeat' (first | (go_big_may; first | (refine v_get rfl rfl (by first | exact lod_int | exact lod_str | exact lod_fcs | exact lod_err | exact lod_bool | exact lod_txs) rfl hM.at0 rfl ?_)) | go_values | go_skip | go_guarded | go_step | go_upon | (simp only [Int.not_lt, Int.not_le] at *; go_simp))
    go_ret2
    exact ⟨rfl, hM.below⟩
  cases hb : lgB x.len
  case false =>
    have hk : ¬ wk x = true := by unfold wk; rw [ha, hb]; simp
    rw [(wr_no hk).1, (wr_no hk).2]
    clear hk
    go_enter Try.func10, Try.ntmps10
    repeat' (first | (go_big_may; first | (refine v_box rfl rfl rfl ?_; intro u zx hN; replace hM := hM.new hN; clear hN) | (refine v_get rfl rfl (by first | exact lod_int | exact lod_str | exact lod_fcs | exact lod_err | exact lod_bool | exact lod_txs) rfl hM.at0 rfl ?_)) | go_values | go_skip | go_guarded | go_step | go_upon | (simp only [Int.not_lt, Int.not_le] at *; go_simp))
    refine (HL.out _ _).mono ?_
    rintro e u1 ⟨rfl, rfl⟩
    rw [ha]
    repeat' (first | (go_big_may; first | (refine v_get rfl rfl (by first | exact lod_int | exact lod_str | exact lod_fcs | exact lod_err | exact lod_bool | exact lod_txs) rfl hM.at0 rfl ?_)) | go_values | go_skip | go_guarded | go_step | go_upon | (simp only [Int.not_lt, Int.not_le] at *; go_simp))
    refine (HL.out _ _).mono ?_
    rintro e u1 ⟨rfl, rfl⟩
    rw [hb]
    repeat' (first | (go_big_may; first | (refine v_get rfl rfl (by first | exact lod_int | exact lod_str | exact lod_fcs | exact lod_err | exact lod_bool | exact lod_txs) rfl hM.at0 rfl ?_)) | go_values | go_skip | go_guarded | go_step | go_upon | (simp only [Int.not_lt, Int.not_le] at *; go_simp))
    go_ret2
    exact ⟨rfl, hM.below⟩
  cases hc : (decide (0 ≤ x.unit) && decide (x.unit ≤ 15))
  case false =>
    have hk : ¬ wk x = true := by unfold wk; rw [ha, hb, hc]; simp
    rw [(wr_no hk).1, (wr_no hk).2]
    clear hk
    go_enter Try.func10, Try.ntmps10
    repeat' (first | (go_big_may; first | (refine v_box rfl rfl rfl ?_; intro u zx hN; replace hM := hM.new hN; clear hN) | (refine v_get rfl rfl (by first | exact lod_int | exact lod_str | exact lod_fcs | exact lod_err | exact lod_bool | exact lod_txs) rfl hM.at0 rfl ?_)) | go_values | go_skip | go_guarded | go_step | go_upon | (simp only [Int.not_lt, Int.not_le] at *; go_simp))
    refine (HL.out _ _).mono ?_
    rintro e u1 ⟨rfl, rfl⟩
    rw [ha]
    repeat' (first | (go_big_may; first | (refine v_get rfl rfl (by first | exact lod_int | exact lod_str | exact lod_fcs | exact lod_err | exact lod_bool | exact lod_txs) rfl hM.at0 rfl ?_)) | go_values | go_skip | go_guarded | go_step | go_upon | (simp only [Int.not_lt, Int.not_le] at *; go_simp))
    refine (HL.out _ _).mono ?_
    rintro e u1 ⟨rfl, rfl⟩
    rw [hb]
    repeat' (first | (go_big_may; first | (refine v_get rfl rfl (by first | exact lod_int | exact lod_str | exact lod_fcs | exact lod_err | exact lod_bool | exact lod_txs) rfl hM.at0 rfl ?_)) | go_values | go_skip | go_guarded | go_step | go_upon | (simp only [Int.not_lt, Int.not_le] at *; go_simp))
    refine (HB.out _).mono ?_
    rintro e u1 ⟨rfl, rfl⟩
    rw [hc]
    repeat' (first | (go_big_may; first | (refine v_get rfl rfl (by first | exact lod_int | exact lod_str | exact lod_fcs | exact lod_err | exact lod_bool | exact lod_txs) rfl hM.at0 rfl ?_)) | go_values | go_skip | go_guarded | go_step | go_upon | (simp only [Int.not_lt, Int.not_le] at *; go_simp))
    go_ret2
    exact ⟨rfl, hM.below⟩
  cases hd : (decide (1 ≤ z) && decide (z ≤ 16))
  case false =>
    have hk : ¬ wk x = true := by unfold wk; rw [ha, hb, hc, ← hzc, hd]; simp
    rw [(wr_no hk).1, (wr_no hk).2]
    clear hk
    go_enter Try.func10, Try.ntmps10
    repeat' (first | (go_big_may; first | (refine v_box rfl rfl rfl ?_; intro u zx hN; replace hM := hM.new hN; clear hN) | (refine v_get rfl rfl (by first | exact lod_int | exact lod_str | exact lod_fcs | exact lod_err | exact lod_bool | exact lod_txs) rfl hM.at0 rfl ?_)) | go_values | go_skip | go_guarded | go_step | go_upon | (simp only [Int.not_lt, Int.not_le] at *; go_simp))
    refine (HL.out _ _).mono ?_
    rintro e u1 ⟨rfl, rfl⟩
    rw [ha]
    repeat' (first | (go_big_may; first | (refine v_get rfl rfl (by first | exact lod_int | exact lod_str | exact lod_fcs | exact lod_err | exact lod_bool | exact lod_txs) rfl hM.at0 rfl ?_)) | go_values | go_skip | go_guarded | go_step | go_upon | (simp only [Int.not_lt, Int.not_le] at *; go_simp))
    refine (HL.out _ _).mono ?_
    rintro e u1 ⟨rfl, rfl⟩
    rw [hb]
    repeat' (first | (go_big_may; first | (refine v_get rfl rfl (by first | exact lod_int | exact lod_str | exact lod_fcs | exact lod_err | exact lod_bool | exact lod_txs) rfl hM.at0 rfl ?_)) | go_values | go_skip | go_guarded | go_step | go_upon | (simp only [Int.not_lt, Int.not_le] at *; go_simp))
    refine (HB.out _).mono ?_
    rintro e u1 ⟨rfl, rfl⟩
    rw [hc]
    repeat' (first | (go_big_may; first | (refine v_get rfl rfl (by first | exact lod_int | exact lod_str | exact lod_fcs | exact lod_err | exact lod_bool | exact lod_txs) rfl hM.at0 rfl ?_)) | go_values | go_skip | go_guarded | go_step | go_upon | (simp only [Int.not_lt, Int.not_le] at *; go_simp))
    refine (HD.out _).mono ?_
    rintro e u1 ⟨rfl, rfl⟩
    rw [hd]
    repeat' (first | (go_big_may; first | (refine v_get rfl rfl (by first | exact lod_int | exact lod_str | exact lod_fcs | exact lod_err | exact lod_bool | exact lod_txs) rfl hM.at0 rfl ?_)) | go_values | go_skip | go_guarded | go_step | go_upon | (simp only [Int.not_lt, Int.not_le] at *; go_simp))
    go_ret2
    exact ⟨rfl, hM.below⟩
  have hk : wk x = true := by unfold wk; rw [ha, hb, hc, ← hzc, hd]; rfl
  have hka := (wk_iff x).1 hk
  obtain ⟨A, hA⟩ : ∃ A, (⟨#[85, 83, 66, 67]⟩ : ByteArray) ++ strOfNums (le4 x.tag) = A := ⟨_, rfl⟩
  obtain ⟨B, hB⟩ : ∃ B, A ++ strOfNums (le4 x.len) = B := ⟨_, rfl⟩
  obtain ⟨C, hC⟩ : ∃ C, B ++ strOfNums [inB x.inn, x.unit, z] = C := ⟨_, rfl⟩
  obtain ⟨D, hD⟩ : ∃ D, C ++ x.cmd = D := ⟨_, rfl⟩
  obtain ⟨E, hE⟩ : ∃ E, D ++ rpt 0 16 = E := ⟨_, rfl⟩
  have e0 : (⟨#[85, 83, 66, 67]⟩ : ByteArray) = strOfNums [85, 83, 66, 67] := rfl
  have hcc : x.cmd = strOfNums (nums x.cmd) := (str_nums _).symm
  have qA : A = strOfNums ([85, 83, 66, 67] ++ le4 x.tag) := by rw [← hA, e0, ← str_append]
  have qB : B = strOfNums ([85, 83, 66, 67] ++ le4 x.tag ++ le4 x.len) := by rw [← hB, qA, ← str_append]
  have qC : C = strOfNums ([85, 83, 66, 67] ++ le4 x.tag ++ le4 x.len ++ [inB x.inn, x.unit, z]) := by rw [← hC, qB, ← str_append]
  have qD : D = strOfNums ([85, 83, 66, 67] ++ le4 x.tag ++ le4 x.len ++ [inB x.inn, x.unit, z] ++ nums x.cmd) := by rw [← hD, qC, hcc, ← str_append, ← hcc]
  have qE : E = strOfNums ([85, 83, 66, 67] ++ le4 x.tag ++ le4 x.len ++ [inB x.inn, x.unit, z] ++ nums x.cmd ++ List.replicate 16 0) := by rw [← hE, qD, rpt_zero, ← str_append]
  have zA : A.size = 8 := by rw [qA, str_size]; rfl
  have zB : B.size = 12 := by rw [qB, str_size]; rfl
  have zC : C.size = 15 := by rw [qC, str_size]; rfl
  have zD : D.size = 15 + x.cmd.size := by rw [← hD, ByteArray.size_append, zC]
  have zE : E.size = 31 + x.cmd.size := by rw [← hE, ByteArray.size_append, zD, rpt_size]; omega
  have HX : Hid (E.extract 0 31 = wrT x ∧ wrC x = 0) := by
    refine ⟨?_, (wr_yes hk).2⟩
    apply nums_inj
    rw [wr_nums hk, nums_cut, qE, nums_str]
    · unfold wrL wrH
      rw [← hz, List.drop_zero]
      have hlen : ([85, 83, 66, 67] ++ le4 x.tag ++ le4 x.len ++ [inB x.inn, x.unit, (x.cmd.size : Int)] ++ nums x.cmd).length = 15 + x.cmd.size := by simp [le4, nums_length]; omega
      rw [List.take_append, List.take_of_length_le (by omega), hlen, List.take_replicate]
      congr 2
      omega
    · intro y hy
      rw [List.mem_append] at hy
      rcases hy with hy | hy
      · refine wr_byt hk y ?_
        unfold wrL wrH
        rw [hz, List.mem_append]; exact .inl hy
      · have := List.eq_of_mem_replicate hy; omega
  have HA : Hid ((⟨#[85, 83, 66, 67]⟩ : ByteArray) ++ strOfNums (le4 x.tag) = A ∧ (⟨#[85, 83, 66, 67]⟩ : ByteArray).size + (strOfNums (le4 x.tag)).size ≤ 1000000) := ⟨hA, by rw [str_size]; show 4 + 4 ≤ _; omega⟩
  have HBB : Hid (A ++ strOfNums (le4 x.len) = B ∧ A.size + (strOfNums (le4 x.len)).size ≤ 1000000) := ⟨hB, by rw [str_size, zA]; show 8 + 4 ≤ _; omega⟩
  have HCC : Hid (B ++ strOfNums [inB x.inn, x.unit, z] = C ∧ B.size + (strOfNums [inB x.inn, x.unit, z]).size ≤ 1000000) := ⟨hC, by rw [str_size, zB]; show 12 + 3 ≤ _; omega⟩
  have HDD : Hid (C ++ x.cmd = D ∧ C.size + x.cmd.size ≤ 1000000) := ⟨hD, by omega⟩
  have HEE : Hid (D ++ rpt 0 16 = E ∧ D.size + (rpt 0 16).size ≤ 1000000) := ⟨hE, by rw [rpt_size]; omega⟩
  have HSL : Hid (∀ W, (Instr.slice 9 (.string E) none (some (.int .i64 31)) none).run Try.prog W = .ok (.string (wrT x)) W) := fun W => by
    rw [← HX.out.1]
    exact run_slice_string_h (P := Try.prog) (w := W) (t := 9) (s := E) (ht := Try.underlying9) .i64 31 (by omega) (by omega)
  have hi : inB x.inn = 0 ∨ inB x.inn = 128 := by unfold inB; cases x.inn <;> simp
  have HLo : Hid (∀ u, Calls Try.prog 30 #[.int .i64 x.tag] u fun e w' => e = .returned (.string (strOfNums (le4 x.tag))) ∧ Below u.heap.size u w') := fun u => low_any _ hka.1.1 hka.1.2 u
  have HLp : Hid (∀ u, Calls Try.prog 30 #[.int .i64 x.len] u fun e w' => e = .returned (.string (strOfNums (le4 x.len))) ∧ Below u.heap.size u w') := fun u => low_any _ hka.2.1.1 hka.2.1.2 u
  have HRP : Hid (∀ u, Calls Try.prog 31 #[.string ⟨#[0]⟩, .int .i64 16] u fun e w' => e = .returned (.string (rpt 0 16)) ∧ Below u.heap.size u w') := fun u => repeat_any 0 16 (by omega) u
  have HBO : Hid (∀ v u, Rn u v [inB x.inn, x.unit, z] → Calls Try.prog 29 #[v] u fun e w' => e = .returned (.tuple #[.string (strOfNums [inB x.inn, x.unit, z]), .bool true]) ∧ Below u.heap.size u w') := fun v u hv => bytesOf_any v _ u hv (fun y hy => by simp at hy; omega) (by simp)
  rw [HX.out.2]
  clear hk hka hA hB hC hD hE qA qB qC qD qE zA zB zC zD zE e0 hcc hi hzc
  cases hin : x.inn
  case false =>
    have HIN : Hid (x.inn = false) := hin
    rw [hin] at HBO HCC
    replace HBO : Hid (∀ v u, Rn u v [0, x.unit, z] → Calls Try.prog 29 #[v] u fun e w' => e = .returned (.tuple #[.string (strOfNums [0, x.unit, z]), .bool true]) ∧ Below u.heap.size u w') := HBO.out
    replace HCC : Hid (B ++ strOfNums [0, x.unit, z] = C ∧ B.size + (strOfNums [0, x.unit, z]).size ≤ 1000000) := HCC.out
    clear hin
    go_enter Try.func10, Try.ntmps10
    repeat' (first | (go_big_may; first | (refine v_box rfl rfl rfl ?_; intro u zx hN; replace hM := hM.new hN; clear hN) | (refine v_get rfl rfl (by first | exact lod_int | exact lod_str | exact lod_fcs | exact lod_err | exact lod_bool | exact lod_txs) rfl hM.at0 rfl ?_)) | go_values | go_skip | go_guarded | go_step | go_upon | (simp only [Int.not_lt, Int.not_le] at *; go_simp))
    refine (HL.out _ _).mono ?_
    rintro e u1 ⟨rfl, rfl⟩
    rw [ha]
    repeat' (first | (go_big_may; first | (refine v_get rfl rfl (by first | exact lod_int | exact lod_str | exact lod_fcs | exact lod_err | exact lod_bool | exact lod_txs) rfl hM.at0 rfl ?_)) | go_values | go_skip | go_guarded | go_step | go_upon | (simp only [Int.not_lt, Int.not_le] at *; go_simp))
    refine (HL.out _ _).mono ?_
    rintro e u1 ⟨rfl, rfl⟩
    rw [hb]
    repeat' (first | (go_big_may; first | (refine v_get rfl rfl (by first | exact lod_int | exact lod_str | exact lod_fcs | exact lod_err | exact lod_bool | exact lod_txs) rfl hM.at0 rfl ?_)) | go_values | go_skip | go_guarded | go_step | go_upon | (simp only [Int.not_lt, Int.not_le] at *; go_simp))
    refine (HB.out _).mono ?_
    rintro e u1 ⟨rfl, rfl⟩
    rw [hc]
    repeat' (first | (go_big_may; first | (refine v_get rfl rfl (by first | exact lod_int | exact lod_str | exact lod_fcs | exact lod_err | exact lod_bool | exact lod_txs) rfl hM.at0 rfl ?_)) | go_values | go_skip | go_guarded | go_step | go_upon | (simp only [Int.not_lt, Int.not_le] at *; go_simp))
    refine (HD.out _).mono ?_
    rintro e u1 ⟨rfl, rfl⟩
    rw [hd]
    obtain ⟨w1, hw1, hrn, hbb⟩ := rn_const u [0, x.unit, z] _ rfl 3 rfl
    have hM2 := hM.call hbb
    have HRN : Hid (Rn w1 (.slice (some ⟨u.heap.size, 0, none⟩) 3 3) [0, x.unit, z]) := hrn
    simp only [List.map_cons, List.map_nil] at hw1
    clear hbb hrn ha hb hc hd HL HB HD
    repeat' (first | (go_big_may; first | (refine v_get rfl rfl lod_bool rfl hM.at0 (v := .bool false) (by rw [← HIN.out]; rfl) ?_) | (refine v_get rfl rfl (by first | exact lod_int | exact lod_str | exact lod_fcs | exact lod_err | exact lod_bool | exact lod_txs) rfl hM.at0 rfl ?_)) | go_values | go_skip | go_guarded | go_step | go_upon | (simp only [Int.not_lt, Int.not_le] at *; go_simp))
    refine (HBO.out _ _ HRN.out).mono ?_
    rintro e u3 ⟨rfl, hb3⟩
    clear hM
    have hM := hM2.call hb3
    clear hM2 hb3 HRN hw1 HBO
    repeat' (first | go_values | go_skip | go_guarded | go_step | go_upon | (simp only [Int.not_lt, Int.not_le] at *; go_simp))
    refine reg.wp_abs (fun a0 => a0.tmps.size = 59 ∧ (∀ h, a0.tmps[1]'h = .pointer (some ⟨zx, 0, none⟩)) ∧ (∀ h, a0.tmps[6]'h = .string (strOfNums [0, x.unit, z]))) ⟨rfl, fun _ => rfl, fun _ => rfl⟩ ?_
    rintro a0 ⟨hsz, s1, s6⟩ ha0
    refine reg.wp_region_E (S := fun W => Ls W [(zx, 23, (wpl x))]) (E := fun _ => false) (by kernel_rfl) ?_
    replace hM := hM.drew
    refine reg.e_take (i := 0) (.pointer (some ⟨zx, 0, none⟩)) rfl (by kernel_rfl) (by kernel_rfl) (by kernel_rfl) (by kernel_rfl) (fun _ _ _ h => h) (reg.wanted_none rfl) (hM.ls (by simp)) (fun W hW => by simp [execOp, go_sem, Act.put, hsz, s1, s6]) ?_
    refine reg.e_take (i := 1) (.int .i64 x.tag) rfl (by kernel_rfl) (by kernel_rfl) (by kernel_rfl) (by kernel_rfl) (fun _ _ _ h => h) (reg.wanted_none rfl) (hM.ls (by simp)) (fun W hW => ex_get rfl (by simp [go_sem, Act.put, hsz, s1, s6]) hW.at0 (show (wpl x)[0]? = some _ from rfl)) ?_
    refine reg.e_take (i := 4) (.pointer (some ⟨zx, 1, none⟩)) rfl (by kernel_rfl) (by kernel_rfl) (by kernel_rfl) (by kernel_rfl) (fun _ _ _ h => h) (reg.wanted_none rfl) (hM.ls (by simp)) (fun W hW => by simp [execOp, go_sem, Act.put, hsz, s1, s6]) ?_
    refine reg.e_take (i := 5) (.int .i64 x.len) rfl (by kernel_rfl) (by kernel_rfl) (by kernel_rfl) (by kernel_rfl) (fun _ _ _ h => h) (reg.wanted_none rfl) (hM.ls (by simp)) (fun W hW => ex_get rfl (by simp [go_sem, Act.put, hsz, s1, s6]) hW.at0 (show (wpl x)[1]? = some _ from rfl)) ?_
    refine reg.e_take (i := 8) (.string (strOfNums [0, x.unit, z])) rfl (by kernel_rfl) (by kernel_rfl) (by kernel_rfl) (by kernel_rfl) (fun _ _ _ h => h) (reg.wanted_none rfl) (hM.ls (by simp)) (fun W hW => by simp [execOp, go_sem, Act.put, hsz, s1, s6]) ?_
    refine reg.e_take (i := 10) (.pointer (some ⟨zx, 4, none⟩)) rfl (by kernel_rfl) (by kernel_rfl) (by kernel_rfl) (by kernel_rfl) (fun _ _ _ h => h) (reg.wanted_none rfl) (hM.ls (by simp)) (fun W hW => by simp [execOp, go_sem, Act.put, hsz, s1, s6]) ?_
    refine reg.e_take (i := 11) (.string x.cmd) rfl (by kernel_rfl) (by kernel_rfl) (by kernel_rfl) (by kernel_rfl) (fun _ _ _ h => h) (reg.wanted_none rfl) (hM.ls (by simp)) (fun W hW => ex_get rfl (by simp [go_sem, Act.put, hsz, s1, s6]) hW.at0 (show (wpl x)[4]? = some _ from rfl)) ?_
    refine reg.e_one 2 (by kernel_rfl) rfl ?_
    refine reg.r_call (i := 2) 30 #[.int .i64 x.tag] rfl (reg.wanted_none rfl) (by simp [execOp, go_sem, Act.put, hsz, s1, s6]) ((HLo.out _).mono ?_)
    rintro re ru1 ⟨rfl, rhv⟩
    replace hM := hM.call rhv
    clear rhv
    refine ⟨_, rfl, hM.ls (by simp), ?_⟩
    refine reg.e_take (i := 3) (.string A) rfl (by kernel_rfl) (by kernel_rfl) (by kernel_rfl) (by kernel_rfl) (fun _ _ _ h => h) (reg.wanted_none rfl) (hM.ls (by simp)) (fun W hW => ex_cat rfl (by simp [go_sem, Act.put, hsz, s1, s6]) (by simp [go_sem, Act.put, hsz, s1, s6]) HA.out.1 HA.out.2) ?_
    refine reg.e_one 6 (by kernel_rfl) rfl ?_
    refine reg.r_call (i := 6) 30 #[.int .i64 x.len] rfl (reg.wanted_none rfl) (by simp [execOp, go_sem, Act.put, hsz, s1, s6]) ((HLp.out _).mono ?_)
    rintro re ru2 ⟨rfl, rhv⟩
    replace hM := hM.call rhv
    clear rhv
    refine ⟨_, rfl, hM.ls (by simp), ?_⟩
    refine reg.e_take (i := 7) (.string B) rfl (by kernel_rfl) (by kernel_rfl) (by kernel_rfl) (by kernel_rfl) (fun _ _ _ h => h) (reg.wanted_none rfl) (hM.ls (by simp)) (fun W hW => ex_cat rfl (by simp [go_sem, Act.put, hsz, s1, s6]) (by simp [go_sem, Act.put, hsz, s1, s6]) HBB.out.1 HBB.out.2) ?_
    refine reg.e_take (i := 9) (.string C) rfl (by kernel_rfl) (by kernel_rfl) (by kernel_rfl) (by kernel_rfl) (fun _ _ _ h => h) (reg.wanted_none rfl) (hM.ls (by simp)) (fun W hW => ex_cat rfl (by simp [go_sem, Act.put, hsz, s1, s6]) (by simp [go_sem, Act.put, hsz, s1, s6]) HCC.out.1 HCC.out.2) ?_
    refine reg.e_take (i := 12) (.string D) rfl (by kernel_rfl) (by kernel_rfl) (by kernel_rfl) (by kernel_rfl) (fun _ _ _ h => h) (reg.wanted_none rfl) (hM.ls (by simp)) (fun W hW => ex_cat rfl (by simp [go_sem, Act.put, hsz, s1, s6]) (by simp [go_sem, Act.put, hsz, s1, s6]) HDD.out.1 HDD.out.2) ?_
    refine reg.e_one 13 (by kernel_rfl) rfl ?_
    refine reg.r_call (i := 13) 31 #[.string { data := #[0] }, .int .i64 16] rfl (reg.wanted_none rfl) (by simp [execOp, go_sem, Act.put, hsz, s1, s6]) ((HRP.out _).mono ?_)
    rintro re ru3 ⟨rfl, rhv⟩
    replace hM := hM.call rhv
    clear rhv
    refine ⟨_, rfl, hM.ls (by simp), ?_⟩
    refine reg.e_take (i := 14) (.string E) rfl (by kernel_rfl) (by kernel_rfl) (by kernel_rfl) (by kernel_rfl) (fun _ _ _ h => h) (reg.wanted_none rfl) (hM.ls (by simp)) (fun W hW => ex_cat rfl (by simp [go_sem, Act.put, hsz, s1, s6]) (by simp [go_sem, Act.put, hsz, s1, s6]) HEE.out.1 HEE.out.2) ?_
    refine reg.e_take (i := 15) (.string (wrT x)) rfl (by kernel_rfl) (by kernel_rfl) (by kernel_rfl) (by kernel_rfl) (fun _ _ _ h => h) (reg.wanted_none rfl) (hM.ls (by simp)) (fun W hW => by simp [execOp, go_sem, Act.put, hsz, s1, s6, HSL.out]) ?_
    refine reg.e_take (i := 16) (.string (wrT x)) rfl (by kernel_rfl) (by kernel_rfl) (by kernel_rfl) (by kernel_rfl) (fun _ _ _ h => h) (reg.wanted_none rfl) (hM.ls (by simp)) (fun W hW => by simp [execOp, go_sem, Act.put, hsz, s1, s6]) ?_
    refine reg.e_take (i := 17) (.int .i64 0) rfl (by kernel_rfl) (by kernel_rfl) (by kernel_rfl) (by kernel_rfl) (fun _ _ _ h => h) (reg.wanted_none rfl) (hM.ls (by simp)) (fun W hW => by simp [execOp, go_sem, Act.put, hsz, s1, s6]) ?_
    refine reg.e_done (by kernel_rfl) ?_ _
    subst ha0
    clear hsz s1 s6
    go_simp
    repeat' (first | go_values | go_skip | go_guarded | go_step | go_upon | (simp only [Int.not_lt, Int.not_le] at *; go_simp))
    go_ret2
    exact ⟨rfl, hM.below⟩
  case true =>
    have HIN : Hid (x.inn = true) := hin
    rw [hin] at HBO HCC
    replace HBO : Hid (∀ v u, Rn u v [128, x.unit, z] → Calls Try.prog 29 #[v] u fun e w' => e = .returned (.tuple #[.string (strOfNums [128, x.unit, z]), .bool true]) ∧ Below u.heap.size u w') := HBO.out
    replace HCC : Hid (B ++ strOfNums [128, x.unit, z] = C ∧ B.size + (strOfNums [128, x.unit, z]).size ≤ 1000000) := HCC.out
    clear hin
    go_enter Try.func10, Try.ntmps10
    repeat' (first | (go_big_may; first | (refine v_box rfl rfl rfl ?_; intro u zx hN; replace hM := hM.new hN; clear hN) | (refine v_get rfl rfl (by first | exact lod_int | exact lod_str | exact lod_fcs | exact lod_err | exact lod_bool | exact lod_txs) rfl hM.at0 rfl ?_)) | go_values | go_skip | go_guarded | go_step | go_upon | (simp only [Int.not_lt, Int.not_le] at *; go_simp))
    refine (HL.out _ _).mono ?_
    rintro e u1 ⟨rfl, rfl⟩
    rw [ha]
    repeat' (first | (go_big_may; first | (refine v_get rfl rfl (by first | exact lod_int | exact lod_str | exact lod_fcs | exact lod_err | exact lod_bool | exact lod_txs) rfl hM.at0 rfl ?_)) | go_values | go_skip | go_guarded | go_step | go_upon | (simp only [Int.not_lt, Int.not_le] at *; go_simp))
    refine (HL.out _ _).mono ?_
    rintro e u1 ⟨rfl, rfl⟩
    rw [hb]
    repeat' (first | (go_big_may; first | (refine v_get rfl rfl (by first | exact lod_int | exact lod_str | exact lod_fcs | exact lod_err | exact lod_bool | exact lod_txs) rfl hM.at0 rfl ?_)) | go_values | go_skip | go_guarded | go_step | go_upon | (simp only [Int.not_lt, Int.not_le] at *; go_simp))
    refine (HB.out _).mono ?_
    rintro e u1 ⟨rfl, rfl⟩
    rw [hc]
    repeat' (first | (go_big_may; first | (refine v_get rfl rfl (by first | exact lod_int | exact lod_str | exact lod_fcs | exact lod_err | exact lod_bool | exact lod_txs) rfl hM.at0 rfl ?_)) | go_values | go_skip | go_guarded | go_step | go_upon | (simp only [Int.not_lt, Int.not_le] at *; go_simp))
    refine (HD.out _).mono ?_
    rintro e u1 ⟨rfl, rfl⟩
    rw [hd]
    obtain ⟨w1, hw1, hrn, hbb⟩ := rn_const u [128, x.unit, z] _ rfl 3 rfl
    have hM2 := hM.call hbb
    have HRN : Hid (Rn w1 (.slice (some ⟨u.heap.size, 0, none⟩) 3 3) [128, x.unit, z]) := hrn
    simp only [List.map_cons, List.map_nil] at hw1
    clear hbb hrn ha hb hc hd HL HB HD
    repeat' (first | (go_big_may; first | (refine v_get rfl rfl lod_bool rfl hM.at0 (v := .bool true) (by rw [← HIN.out]; rfl) ?_) | (refine v_get rfl rfl (by first | exact lod_int | exact lod_str | exact lod_fcs | exact lod_err | exact lod_bool | exact lod_txs) rfl hM.at0 rfl ?_)) | go_values | go_skip | go_guarded | go_step | go_upon | (simp only [Int.not_lt, Int.not_le] at *; go_simp))
    refine (HBO.out _ _ HRN.out).mono ?_
    rintro e u3 ⟨rfl, hb3⟩
    clear hM
    have hM := hM2.call hb3
    clear hM2 hb3 HRN hw1 HBO
    repeat' (first | go_values | go_skip | go_guarded | go_step | go_upon | (simp only [Int.not_lt, Int.not_le] at *; go_simp))
    refine reg.wp_abs (fun a0 => a0.tmps.size = 59 ∧ (∀ h, a0.tmps[1]'h = .pointer (some ⟨zx, 0, none⟩)) ∧ (∀ h, a0.tmps[6]'h = .string (strOfNums [128, x.unit, z]))) ⟨rfl, fun _ => rfl, fun _ => rfl⟩ ?_
    rintro a0 ⟨hsz, s1, s6⟩ ha0
    refine reg.wp_region_E (S := fun W => Ls W [(zx, 23, (wpl x))]) (E := fun _ => false) (by kernel_rfl) ?_
    replace hM := hM.drew
    refine reg.e_take (i := 0) (.pointer (some ⟨zx, 0, none⟩)) rfl (by kernel_rfl) (by kernel_rfl) (by kernel_rfl) (by kernel_rfl) (fun _ _ _ h => h) (reg.wanted_none rfl) (hM.ls (by simp)) (fun W hW => by simp [execOp, go_sem, Act.put, hsz, s1, s6]) ?_
    refine reg.e_take (i := 1) (.int .i64 x.tag) rfl (by kernel_rfl) (by kernel_rfl) (by kernel_rfl) (by kernel_rfl) (fun _ _ _ h => h) (reg.wanted_none rfl) (hM.ls (by simp)) (fun W hW => ex_get rfl (by simp [go_sem, Act.put, hsz, s1, s6]) hW.at0 (show (wpl x)[0]? = some _ from rfl)) ?_
    refine reg.e_take (i := 4) (.pointer (some ⟨zx, 1, none⟩)) rfl (by kernel_rfl) (by kernel_rfl) (by kernel_rfl) (by kernel_rfl) (fun _ _ _ h => h) (reg.wanted_none rfl) (hM.ls (by simp)) (fun W hW => by simp [execOp, go_sem, Act.put, hsz, s1, s6]) ?_
    refine reg.e_take (i := 5) (.int .i64 x.len) rfl (by kernel_rfl) (by kernel_rfl) (by kernel_rfl) (by kernel_rfl) (fun _ _ _ h => h) (reg.wanted_none rfl) (hM.ls (by simp)) (fun W hW => ex_get rfl (by simp [go_sem, Act.put, hsz, s1, s6]) hW.at0 (show (wpl x)[1]? = some _ from rfl)) ?_
    refine reg.e_take (i := 8) (.string (strOfNums [128, x.unit, z])) rfl (by kernel_rfl) (by kernel_rfl) (by kernel_rfl) (by kernel_rfl) (fun _ _ _ h => h) (reg.wanted_none rfl) (hM.ls (by simp)) (fun W hW => by simp [execOp, go_sem, Act.put, hsz, s1, s6]) ?_
    refine reg.e_take (i := 10) (.pointer (some ⟨zx, 4, none⟩)) rfl (by kernel_rfl) (by kernel_rfl) (by kernel_rfl) (by kernel_rfl) (fun _ _ _ h => h) (reg.wanted_none rfl) (hM.ls (by simp)) (fun W hW => by simp [execOp, go_sem, Act.put, hsz, s1, s6]) ?_
    refine reg.e_take (i := 11) (.string x.cmd) rfl (by kernel_rfl) (by kernel_rfl) (by kernel_rfl) (by kernel_rfl) (fun _ _ _ h => h) (reg.wanted_none rfl) (hM.ls (by simp)) (fun W hW => ex_get rfl (by simp [go_sem, Act.put, hsz, s1, s6]) hW.at0 (show (wpl x)[4]? = some _ from rfl)) ?_
    refine reg.e_one 2 (by kernel_rfl) rfl ?_
    refine reg.r_call (i := 2) 30 #[.int .i64 x.tag] rfl (reg.wanted_none rfl) (by simp [execOp, go_sem, Act.put, hsz, s1, s6]) ((HLo.out _).mono ?_)
    rintro re ru1 ⟨rfl, rhv⟩
    replace hM := hM.call rhv
    clear rhv
    refine ⟨_, rfl, hM.ls (by simp), ?_⟩
    refine reg.e_take (i := 3) (.string A) rfl (by kernel_rfl) (by kernel_rfl) (by kernel_rfl) (by kernel_rfl) (fun _ _ _ h => h) (reg.wanted_none rfl) (hM.ls (by simp)) (fun W hW => ex_cat rfl (by simp [go_sem, Act.put, hsz, s1, s6]) (by simp [go_sem, Act.put, hsz, s1, s6]) HA.out.1 HA.out.2) ?_
    refine reg.e_one 6 (by kernel_rfl) rfl ?_
    refine reg.r_call (i := 6) 30 #[.int .i64 x.len] rfl (reg.wanted_none rfl) (by simp [execOp, go_sem, Act.put, hsz, s1, s6]) ((HLp.out _).mono ?_)
    rintro re ru2 ⟨rfl, rhv⟩
    replace hM := hM.call rhv
    clear rhv
    refine ⟨_, rfl, hM.ls (by simp), ?_⟩
    refine reg.e_take (i := 7) (.string B) rfl (by kernel_rfl) (by kernel_rfl) (by kernel_rfl) (by kernel_rfl) (fun _ _ _ h => h) (reg.wanted_none rfl) (hM.ls (by simp)) (fun W hW => ex_cat rfl (by simp [go_sem, Act.put, hsz, s1, s6]) (by simp [go_sem, Act.put, hsz, s1, s6]) HBB.out.1 HBB.out.2) ?_
    refine reg.e_take (i := 9) (.string C) rfl (by kernel_rfl) (by kernel_rfl) (by kernel_rfl) (by kernel_rfl) (fun _ _ _ h => h) (reg.wanted_none rfl) (hM.ls (by simp)) (fun W hW => ex_cat rfl (by simp [go_sem, Act.put, hsz, s1, s6]) (by simp [go_sem, Act.put, hsz, s1, s6]) HCC.out.1 HCC.out.2) ?_
    refine reg.e_take (i := 12) (.string D) rfl (by kernel_rfl) (by kernel_rfl) (by kernel_rfl) (by kernel_rfl) (fun _ _ _ h => h) (reg.wanted_none rfl) (hM.ls (by simp)) (fun W hW => ex_cat rfl (by simp [go_sem, Act.put, hsz, s1, s6]) (by simp [go_sem, Act.put, hsz, s1, s6]) HDD.out.1 HDD.out.2) ?_
    refine reg.e_one 13 (by kernel_rfl) rfl ?_
    refine reg.r_call (i := 13) 31 #[.string { data := #[0] }, .int .i64 16] rfl (reg.wanted_none rfl) (by simp [execOp, go_sem, Act.put, hsz, s1, s6]) ((HRP.out _).mono ?_)
    rintro re ru3 ⟨rfl, rhv⟩
    replace hM := hM.call rhv
    clear rhv
    refine ⟨_, rfl, hM.ls (by simp), ?_⟩
    refine reg.e_take (i := 14) (.string E) rfl (by kernel_rfl) (by kernel_rfl) (by kernel_rfl) (by kernel_rfl) (fun _ _ _ h => h) (reg.wanted_none rfl) (hM.ls (by simp)) (fun W hW => ex_cat rfl (by simp [go_sem, Act.put, hsz, s1, s6]) (by simp [go_sem, Act.put, hsz, s1, s6]) HEE.out.1 HEE.out.2) ?_
    refine reg.e_take (i := 15) (.string (wrT x)) rfl (by kernel_rfl) (by kernel_rfl) (by kernel_rfl) (by kernel_rfl) (fun _ _ _ h => h) (reg.wanted_none rfl) (hM.ls (by simp)) (fun W hW => by simp [execOp, go_sem, Act.put, hsz, s1, s6, HSL.out]) ?_
    refine reg.e_take (i := 16) (.string (wrT x)) rfl (by kernel_rfl) (by kernel_rfl) (by kernel_rfl) (by kernel_rfl) (fun _ _ _ h => h) (reg.wanted_none rfl) (hM.ls (by simp)) (fun W hW => by simp [execOp, go_sem, Act.put, hsz, s1, s6]) ?_
    refine reg.e_take (i := 17) (.int .i64 0) rfl (by kernel_rfl) (by kernel_rfl) (by kernel_rfl) (by kernel_rfl) (fun _ _ _ h => h) (reg.wanted_none rfl) (hM.ls (by simp)) (fun W hW => by simp [execOp, go_sem, Act.put, hsz, s1, s6]) ?_
    refine reg.e_done (by kernel_rfl) ?_ _
    subst ha0
    clear hsz s1 s6
    go_simp
    repeat' (first | go_values | go_skip | go_guarded | go_step | go_upon | (simp only [Int.not_lt, Int.not_le] at *; go_simp))
    go_ret2
    exact ⟨rfl, hM.below⟩
end Go.Proofs.Ytecknicmonhcaaa.bulk
