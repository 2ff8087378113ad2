/- greet: a device that is read. -/
import Derived.Test.YtonheibhbilhhaaGreC
import Derived.Test.YtonheibhbilhhaaZBc
import Derived.Test.YtonheibhbilhhaaGreQ
namespace Go.Proofs.Ytonheibhbilhhaa.greet
open Go Go.RowKit Go.PlainAid Go.Proofs.Ytonheibhbilhhaa.lane Go.Proofs.Ytonheibhbilhhaa.desc
set_option linter.unusedVariables false
set_option linter.unusedSimpArgs false
set_option maxRecDepth 100000

set_option maxHeartbeats 4000000 in
theorem readDevice_greet (s : ByteArray) (m : Int) (w : World) (hm : s.size ≤ maxLen) :
    Calls Try.prog 53 #[.string s, .int .i64 m] w fun e w' => e = .returned (.tuple #[ag (dvl (rdD s)), .bool (okD s m)]) ∧ Below w.heap.size w w' := by
  have HR : Hid (∀ w, Calls Try.prog 72 #[.string s] w fun e w' => e = .returned (.tuple #[ag (dvl (rdD s)), .int .i64 (rdE s)]) ∧ Below w.heap.size w w') := fun w => readDevice_any s w hm
  have hM := Mm.nil w
  unfold okD
  generalize rdD s = d at *
  generalize rdE s = z at *
  go_enter Try.func53, Try.ntmps53
  repeat' (first | (go_big_may; first | (refine v_alloc rfl zer_device rfl ?_; intro u za hN; replace hM := hM.new hN; clear hN)) | go_values | go_skip | go_guarded | go_step | go_upon | (simp only [Int.not_lt, Int.not_le] at *; go_simp))
  refine (HR.out _).mono ?_
  rintro e u1 ⟨rfl, hb⟩
  replace hM := hM.call hb
  clear hb
  go_upto_region 2 with (first | (refine v_alloc rfl zer_device rfl ?_; intro u zb hN; replace hM := hM.new hN; clear hN) | (refine v_fill rfl rfl row_device rfl rfl hM.at0 (dvl_vs _) rfl ?_; intro u hv hc; replace hM := hM.put0 hc hv; clear hv hc))
  go_simp
  rename World => u2
  have HM0 : Hid ((dvl d)[4]? = some (.int .i64 d.m0)) := rfl
  have HM1 : Hid ((dvl d)[11]? = some (.int .i64 d.cf)) := rfl
  have HV : Hid (Vs (dvl d) 12) := dvl_vs d
  have HL : Hid (0 + 12 ≤ (dvl d).length) := Nat.le_refl _
  have HC : Hid (cut (dvl d) 0 12 = dvl d) := cut_all rfl

  cases ha : (z == 0)
  case false =>
    refine reg.wp_abs (fun a0 => a0.tmps.size = 27 ∧ (∀ h, a0.tmps[1]'h = .int .i64 m) ∧ (∀ h, a0.tmps[4]'h = .pointer (some ⟨za, 0, none⟩)) ∧ (∀ h, a0.tmps[6]'h = .pointer (some ⟨zb, 0, none⟩)) ∧ (∀ h, a0.tmps[7]'h = .int .i64 z)) ⟨rfl, fun _ => rfl, fun _ => rfl, fun _ => rfl, fun _ => rfl⟩ ?_
    rintro a0 ⟨hsz, s1, s4, s6, s7⟩ ha0
    refine reg.wp_region_E (S := fun W => Ls W [(zb, 23, (dvl d))]) (E := fun _ => false) (by kernel_rfl) ?_
    replace hM := hM.drew
    refine reg.e_take (i := 0) (ag ((dvl d))) rfl (by kernel_rfl) (by kernel_rfl) (by kernel_rfl) (by kernel_rfl) (fun _ _ _ h => h) (reg.wanted_none rfl) (hM.ls (by simp)) (fun W hW => ex_load rfl row_device (by simp [go_sem, Act.put, hsz, s1, s4, s6, s7]) hW.at0 HL.out HC.out) ?_
    refine reg.e_take (i := 1) (.int .i64 z) rfl (by kernel_rfl) (by kernel_rfl) (by kernel_rfl) (by kernel_rfl) (fun _ _ _ h => h) (reg.wanted_none rfl) (hM.ls (by simp)) (fun W hW => by simp [execOp, go_sem, Act.put, hsz, s1, s4, s6, s7]) ?_
    refine reg.e_take (i := 2) (.bool false) rfl (by kernel_rfl) (by kernel_rfl) (by kernel_rfl) (by kernel_rfl) (fun _ _ _ h => h) (reg.wanted_none rfl) (hM.ls (by simp)) (fun W hW => by simp [execOp, go_sem, Act.put, hsz, s1, s4, s6, s7, ha]) ?_
    refine reg.e_take (i := 3) (.bool false) rfl (by kernel_rfl) (by kernel_rfl) (by kernel_rfl) (by kernel_rfl) (fun _ _ _ h => h) (reg.wanted_none rfl) (hM.ls (by simp)) (fun W hW => by simp [execOp, go_sem, Act.put, hsz, s1, s4, s6, s7]) ?_
    refine reg.e_pass (i := 4) rfl (by kernel_rfl) (by kernel_rfl) (by kernel_rfl) (by kernel_rfl) (fun _ _ _ h => h) (reg.unwanted_of 3 true 16 rfl (by kernel_rfl) (by simp [Act.put, hsz])) (hM.ls (by simp)) ?_
    refine reg.e_pass (i := 5) rfl (by kernel_rfl) (by kernel_rfl) (by kernel_rfl) (by kernel_rfl) (fun _ _ _ h => h) (reg.unwanted_of 3 true 16 rfl (by kernel_rfl) (by simp [Act.put, hsz])) (hM.ls (by simp)) ?_
    refine reg.e_pass (i := 6) rfl (by kernel_rfl) (by kernel_rfl) (by kernel_rfl) (by kernel_rfl) (fun _ _ _ h => h) (reg.unwanted_of 3 true 16 rfl (by kernel_rfl) (by simp [Act.put, hsz])) (hM.ls (by simp)) ?_
    refine reg.e_pass (i := 7) rfl (by kernel_rfl) (by kernel_rfl) (by kernel_rfl) (by kernel_rfl) (fun _ _ _ h => h) (reg.unwanted_of 3 true 16 rfl (by kernel_rfl) (by simp [Act.put, hsz])) (hM.ls (by simp)) ?_
    refine reg.e_take (i := 8) (.bool false) rfl (by kernel_rfl) (by kernel_rfl) (by kernel_rfl) (by kernel_rfl) (fun _ _ _ h => h) (reg.wanted_none rfl) (hM.ls (by simp)) (fun W hW => by simp [execOp, go_sem, Act.put, hsz, s1, s4, s6, s7]) ?_
    refine reg.e_take (i := 9) (.bool false) rfl (by kernel_rfl) (by kernel_rfl) (by kernel_rfl) (by kernel_rfl) (fun _ _ _ h => h) (reg.wanted_none rfl) (hM.ls (by simp)) (fun W hW => by simp [execOp, go_sem, Act.put, hsz, s1, s4, s6, s7]) ?_
    refine reg.e_pass (i := 10) rfl (by kernel_rfl) (by kernel_rfl) (by kernel_rfl) (by kernel_rfl) (fun _ _ _ h => h) (reg.unwanted_of 9 true 22 rfl (by kernel_rfl) (by simp [Act.put, hsz])) (hM.ls (by simp)) ?_
    refine reg.e_pass (i := 11) rfl (by kernel_rfl) (by kernel_rfl) (by kernel_rfl) (by kernel_rfl) (fun _ _ _ h => h) (reg.unwanted_of 9 true 22 rfl (by kernel_rfl) (by simp [Act.put, hsz])) (hM.ls (by simp)) ?_
    refine reg.e_pass (i := 12) rfl (by kernel_rfl) (by kernel_rfl) (by kernel_rfl) (by kernel_rfl) (fun _ _ _ h => h) (reg.unwanted_of 9 true 22 rfl (by kernel_rfl) (by simp [Act.put, hsz])) (hM.ls (by simp)) ?_
    refine reg.e_take (i := 13) (.bool false) rfl (by kernel_rfl) (by kernel_rfl) (by kernel_rfl) (by kernel_rfl) (fun _ _ _ h => h) (reg.wanted_none rfl) (hM.ls (by simp)) (fun W hW => by simp [execOp, go_sem, Act.put, hsz, s1, s4, s6, s7]) ?_
    refine reg.e_one 14 (by kernel_rfl) rfl ?_
    refine r_fill (i := 14) rfl (reg.wanted_none rfl) rfl row_device (by simp [go_sem, Act.put, hsz, s1, s4, s6, s7]) (by simp [go_sem, Act.put, hsz, s1, s4, s6, s7]) hM.at1 HV.out rfl ?_
    intro ru1 rhv rhc
    replace hM := hM.put1 rhc rhv
    clear rhc rhv
    refine ⟨hM.ls (by simp), ?_⟩
    refine reg.e_take (i := 15) (.bool false) rfl (by kernel_rfl) (by kernel_rfl) (by kernel_rfl) (by kernel_rfl) (fun _ _ _ h => h) (reg.wanted_none rfl) (hM.ls (by simp)) (fun W hW => by simp [execOp, go_sem, Act.put, hsz, s1, s4, s6, s7]) ?_
    refine reg.e_done (by kernel_rfl) ?_ _
    subst ha0
    clear hsz s1 s4 s6 s7
    go_simp
    repeat' (first | go_values | go_skip | go_guarded | go_step | go_upon | (simp only [Int.not_lt, Int.not_le] at *; go_simp))
    exact bodyPost_ret (ret_2 rfl rfl (ld_var row_device hM.at1 HV.out.len) rfl) rfl ⟨by simp only [ha, Bool.false_and, Bool.true_and]; rfl, hM.below⟩
  cases hb : (d.m0 == m)
  case false =>
    refine reg.wp_abs (fun a0 => a0.tmps.size = 27 ∧ (∀ h, a0.tmps[1]'h = .int .i64 m) ∧ (∀ h, a0.tmps[4]'h = .pointer (some ⟨za, 0, none⟩)) ∧ (∀ h, a0.tmps[6]'h = .pointer (some ⟨zb, 0, none⟩)) ∧ (∀ h, a0.tmps[7]'h = .int .i64 z)) ⟨rfl, fun _ => rfl, fun _ => rfl, fun _ => rfl, fun _ => rfl⟩ ?_
    rintro a0 ⟨hsz, s1, s4, s6, s7⟩ ha0
    refine reg.wp_region_E (S := fun W => Ls W [(zb, 23, (dvl d))]) (E := fun _ => false) (by kernel_rfl) ?_
    replace hM := hM.drew
    refine reg.e_take (i := 0) (ag ((dvl d))) rfl (by kernel_rfl) (by kernel_rfl) (by kernel_rfl) (by kernel_rfl) (fun _ _ _ h => h) (reg.wanted_none rfl) (hM.ls (by simp)) (fun W hW => ex_load rfl row_device (by simp [go_sem, Act.put, hsz, s1, s4, s6, s7]) hW.at0 HL.out HC.out) ?_
    refine reg.e_take (i := 1) (.int .i64 z) rfl (by kernel_rfl) (by kernel_rfl) (by kernel_rfl) (by kernel_rfl) (fun _ _ _ h => h) (reg.wanted_none rfl) (hM.ls (by simp)) (fun W hW => by simp [execOp, go_sem, Act.put, hsz, s1, s4, s6, s7]) ?_
    refine reg.e_take (i := 2) (.bool true) rfl (by kernel_rfl) (by kernel_rfl) (by kernel_rfl) (by kernel_rfl) (fun _ _ _ h => h) (reg.wanted_none rfl) (hM.ls (by simp)) (fun W hW => by simp [execOp, go_sem, Act.put, hsz, s1, s4, s6, s7, ha]) ?_
    refine reg.e_take (i := 3) (.bool true) rfl (by kernel_rfl) (by kernel_rfl) (by kernel_rfl) (by kernel_rfl) (fun _ _ _ h => h) (reg.wanted_none rfl) (hM.ls (by simp)) (fun W hW => by simp [execOp, go_sem, Act.put, hsz, s1, s4, s6, s7]) ?_
    refine reg.e_take (i := 4) (.pointer (some ⟨zb, 4, none⟩)) rfl (by kernel_rfl) (by kernel_rfl) (by kernel_rfl) (by kernel_rfl) (fun _ _ _ h => h) (reg.wanted_of 3 true 16 rfl (by kernel_rfl) (by simp [Act.put, hsz])) (hM.ls (by simp)) (fun W hW => by simp [execOp, go_sem, Act.put, hsz, s1, s4, s6, s7]) ?_
    refine reg.e_take (i := 5) (.int .i64 d.m0) rfl (by kernel_rfl) (by kernel_rfl) (by kernel_rfl) (by kernel_rfl) (fun _ _ _ h => h) (reg.wanted_of 3 true 16 rfl (by kernel_rfl) (by simp [Act.put, hsz])) (hM.ls (by simp)) (fun W hW => ex_get rfl (by simp [go_sem, Act.put, hsz, s1, s4, s6, s7]) hW.at0 HM0.out) ?_
    refine reg.e_take (i := 6) (.int .i64 m) rfl (by kernel_rfl) (by kernel_rfl) (by kernel_rfl) (by kernel_rfl) (fun _ _ _ h => h) (reg.wanted_of 3 true 16 rfl (by kernel_rfl) (by simp [Act.put, hsz])) (hM.ls (by simp)) (fun W hW => by simp [execOp, go_sem, Act.put, hsz, s1, s4, s6, s7]) ?_
    refine reg.e_take (i := 7) (.bool false) rfl (by kernel_rfl) (by kernel_rfl) (by kernel_rfl) (by kernel_rfl) (fun _ _ _ h => h) (reg.wanted_of 3 true 16 rfl (by kernel_rfl) (by simp [Act.put, hsz])) (hM.ls (by simp)) (fun W hW => by simp [execOp, go_sem, Act.put, hsz, s1, s4, s6, s7, hb]) ?_
    refine reg.e_take (i := 8) (.bool false) rfl (by kernel_rfl) (by kernel_rfl) (by kernel_rfl) (by kernel_rfl) (fun _ _ _ h => h) (reg.wanted_none rfl) (hM.ls (by simp)) (fun W hW => by simp [execOp, go_sem, Act.put, hsz, s1, s4, s6, s7]) ?_
    refine reg.e_take (i := 9) (.bool false) rfl (by kernel_rfl) (by kernel_rfl) (by kernel_rfl) (by kernel_rfl) (fun _ _ _ h => h) (reg.wanted_none rfl) (hM.ls (by simp)) (fun W hW => by simp [execOp, go_sem, Act.put, hsz, s1, s4, s6, s7]) ?_
    refine reg.e_pass (i := 10) rfl (by kernel_rfl) (by kernel_rfl) (by kernel_rfl) (by kernel_rfl) (fun _ _ _ h => h) (reg.unwanted_of 9 true 22 rfl (by kernel_rfl) (by simp [Act.put, hsz])) (hM.ls (by simp)) ?_
    refine reg.e_pass (i := 11) rfl (by kernel_rfl) (by kernel_rfl) (by kernel_rfl) (by kernel_rfl) (fun _ _ _ h => h) (reg.unwanted_of 9 true 22 rfl (by kernel_rfl) (by simp [Act.put, hsz])) (hM.ls (by simp)) ?_
    refine reg.e_pass (i := 12) rfl (by kernel_rfl) (by kernel_rfl) (by kernel_rfl) (by kernel_rfl) (fun _ _ _ h => h) (reg.unwanted_of 9 true 22 rfl (by kernel_rfl) (by simp [Act.put, hsz])) (hM.ls (by simp)) ?_
    refine reg.e_take (i := 13) (.bool false) rfl (by kernel_rfl) (by kernel_rfl) (by kernel_rfl) (by kernel_rfl) (fun _ _ _ h => h) (reg.wanted_none rfl) (hM.ls (by simp)) (fun W hW => by simp [execOp, go_sem, Act.put, hsz, s1, s4, s6, s7]) ?_
    refine reg.e_one 14 (by kernel_rfl) rfl ?_
    refine r_fill (i := 14) rfl (reg.wanted_none rfl) rfl row_device (by simp [go_sem, Act.put, hsz, s1, s4, s6, s7]) (by simp [go_sem, Act.put, hsz, s1, s4, s6, s7]) hM.at1 HV.out rfl ?_
    intro ru1 rhv rhc
    replace hM := hM.put1 rhc rhv
    clear rhc rhv
    refine ⟨hM.ls (by simp), ?_⟩
    refine reg.e_take (i := 15) (.bool false) rfl (by kernel_rfl) (by kernel_rfl) (by kernel_rfl) (by kernel_rfl) (fun _ _ _ h => h) (reg.wanted_none rfl) (hM.ls (by simp)) (fun W hW => by simp [execOp, go_sem, Act.put, hsz, s1, s4, s6, s7]) ?_
    refine reg.e_done (by kernel_rfl) ?_ _
    subst ha0
    clear hsz s1 s4 s6 s7
    go_simp
    repeat' (first | go_values | go_skip | go_guarded | go_step | go_upon | (simp only [Int.not_lt, Int.not_le] at *; go_simp))
    exact bodyPost_ret (ret_2 rfl rfl (ld_var row_device hM.at1 HV.out.len) rfl) rfl ⟨by simp only [ha, hb, Bool.false_and, Bool.true_and]; rfl, hM.below⟩
  cases hc : (d.cf == 1)
  case false =>
    refine reg.wp_abs (fun a0 => a0.tmps.size = 27 ∧ (∀ h, a0.tmps[1]'h = .int .i64 m) ∧ (∀ h, a0.tmps[4]'h = .pointer (some ⟨za, 0, none⟩)) ∧ (∀ h, a0.tmps[6]'h = .pointer (some ⟨zb, 0, none⟩)) ∧ (∀ h, a0.tmps[7]'h = .int .i64 z)) ⟨rfl, fun _ => rfl, fun _ => rfl, fun _ => rfl, fun _ => rfl⟩ ?_
    rintro a0 ⟨hsz, s1, s4, s6, s7⟩ ha0
    refine reg.wp_region_E (S := fun W => Ls W [(zb, 23, (dvl d))]) (E := fun _ => false) (by kernel_rfl) ?_
    replace hM := hM.drew
    refine reg.e_take (i := 0) (ag ((dvl d))) rfl (by kernel_rfl) (by kernel_rfl) (by kernel_rfl) (by kernel_rfl) (fun _ _ _ h => h) (reg.wanted_none rfl) (hM.ls (by simp)) (fun W hW => ex_load rfl row_device (by simp [go_sem, Act.put, hsz, s1, s4, s6, s7]) hW.at0 HL.out HC.out) ?_
    refine reg.e_take (i := 1) (.int .i64 z) rfl (by kernel_rfl) (by kernel_rfl) (by kernel_rfl) (by kernel_rfl) (fun _ _ _ h => h) (reg.wanted_none rfl) (hM.ls (by simp)) (fun W hW => by simp [execOp, go_sem, Act.put, hsz, s1, s4, s6, s7]) ?_
    refine reg.e_take (i := 2) (.bool true) rfl (by kernel_rfl) (by kernel_rfl) (by kernel_rfl) (by kernel_rfl) (fun _ _ _ h => h) (reg.wanted_none rfl) (hM.ls (by simp)) (fun W hW => by simp [execOp, go_sem, Act.put, hsz, s1, s4, s6, s7, ha]) ?_
    refine reg.e_take (i := 3) (.bool true) rfl (by kernel_rfl) (by kernel_rfl) (by kernel_rfl) (by kernel_rfl) (fun _ _ _ h => h) (reg.wanted_none rfl) (hM.ls (by simp)) (fun W hW => by simp [execOp, go_sem, Act.put, hsz, s1, s4, s6, s7]) ?_
    refine reg.e_take (i := 4) (.pointer (some ⟨zb, 4, none⟩)) rfl (by kernel_rfl) (by kernel_rfl) (by kernel_rfl) (by kernel_rfl) (fun _ _ _ h => h) (reg.wanted_of 3 true 16 rfl (by kernel_rfl) (by simp [Act.put, hsz])) (hM.ls (by simp)) (fun W hW => by simp [execOp, go_sem, Act.put, hsz, s1, s4, s6, s7]) ?_
    refine reg.e_take (i := 5) (.int .i64 d.m0) rfl (by kernel_rfl) (by kernel_rfl) (by kernel_rfl) (by kernel_rfl) (fun _ _ _ h => h) (reg.wanted_of 3 true 16 rfl (by kernel_rfl) (by simp [Act.put, hsz])) (hM.ls (by simp)) (fun W hW => ex_get rfl (by simp [go_sem, Act.put, hsz, s1, s4, s6, s7]) hW.at0 HM0.out) ?_
    refine reg.e_take (i := 6) (.int .i64 m) rfl (by kernel_rfl) (by kernel_rfl) (by kernel_rfl) (by kernel_rfl) (fun _ _ _ h => h) (reg.wanted_of 3 true 16 rfl (by kernel_rfl) (by simp [Act.put, hsz])) (hM.ls (by simp)) (fun W hW => by simp [execOp, go_sem, Act.put, hsz, s1, s4, s6, s7]) ?_
    refine reg.e_take (i := 7) (.bool true) rfl (by kernel_rfl) (by kernel_rfl) (by kernel_rfl) (by kernel_rfl) (fun _ _ _ h => h) (reg.wanted_of 3 true 16 rfl (by kernel_rfl) (by simp [Act.put, hsz])) (hM.ls (by simp)) (fun W hW => by simp [execOp, go_sem, Act.put, hsz, s1, s4, s6, s7, hb]) ?_
    refine reg.e_take (i := 8) (.bool true) rfl (by kernel_rfl) (by kernel_rfl) (by kernel_rfl) (by kernel_rfl) (fun _ _ _ h => h) (reg.wanted_none rfl) (hM.ls (by simp)) (fun W hW => by simp [execOp, go_sem, Act.put, hsz, s1, s4, s6, s7]) ?_
    refine reg.e_take (i := 9) (.bool true) rfl (by kernel_rfl) (by kernel_rfl) (by kernel_rfl) (by kernel_rfl) (fun _ _ _ h => h) (reg.wanted_none rfl) (hM.ls (by simp)) (fun W hW => by simp [execOp, go_sem, Act.put, hsz, s1, s4, s6, s7]) ?_
    refine reg.e_take (i := 10) (.pointer (some ⟨zb, 11, none⟩)) rfl (by kernel_rfl) (by kernel_rfl) (by kernel_rfl) (by kernel_rfl) (fun _ _ _ h => h) (reg.wanted_of 9 true 22 rfl (by kernel_rfl) (by simp [Act.put, hsz])) (hM.ls (by simp)) (fun W hW => by simp [execOp, go_sem, Act.put, hsz, s1, s4, s6, s7]) ?_
    refine reg.e_take (i := 11) (.int .i64 d.cf) rfl (by kernel_rfl) (by kernel_rfl) (by kernel_rfl) (by kernel_rfl) (fun _ _ _ h => h) (reg.wanted_of 9 true 22 rfl (by kernel_rfl) (by simp [Act.put, hsz])) (hM.ls (by simp)) (fun W hW => ex_get rfl (by simp [go_sem, Act.put, hsz, s1, s4, s6, s7]) hW.at0 HM1.out) ?_
    refine reg.e_take (i := 12) (.bool false) rfl (by kernel_rfl) (by kernel_rfl) (by kernel_rfl) (by kernel_rfl) (fun _ _ _ h => h) (reg.wanted_of 9 true 22 rfl (by kernel_rfl) (by simp [Act.put, hsz])) (hM.ls (by simp)) (fun W hW => by simp [execOp, go_sem, Act.put, hsz, s1, s4, s6, s7, hc]) ?_
    refine reg.e_take (i := 13) (.bool false) rfl (by kernel_rfl) (by kernel_rfl) (by kernel_rfl) (by kernel_rfl) (fun _ _ _ h => h) (reg.wanted_none rfl) (hM.ls (by simp)) (fun W hW => by simp [execOp, go_sem, Act.put, hsz, s1, s4, s6, s7]) ?_
    refine reg.e_one 14 (by kernel_rfl) rfl ?_
    refine r_fill (i := 14) rfl (reg.wanted_none rfl) rfl row_device (by simp [go_sem, Act.put, hsz, s1, s4, s6, s7]) (by simp [go_sem, Act.put, hsz, s1, s4, s6, s7]) hM.at1 HV.out rfl ?_
    intro ru1 rhv rhc
    replace hM := hM.put1 rhc rhv
    clear rhc rhv
    refine ⟨hM.ls (by simp), ?_⟩
    refine reg.e_take (i := 15) (.bool false) rfl (by kernel_rfl) (by kernel_rfl) (by kernel_rfl) (by kernel_rfl) (fun _ _ _ h => h) (reg.wanted_none rfl) (hM.ls (by simp)) (fun W hW => by simp [execOp, go_sem, Act.put, hsz, s1, s4, s6, s7]) ?_
    refine reg.e_done (by kernel_rfl) ?_ _
    subst ha0
    clear hsz s1 s4 s6 s7
    go_simp
    repeat' (first | go_values | go_skip | go_guarded | go_step | go_upon | (simp only [Int.not_lt, Int.not_le] at *; go_simp))
    exact bodyPost_ret (ret_2 rfl rfl (ld_var row_device hM.at1 HV.out.len) rfl) rfl ⟨by simp only [ha, hb, hc, Bool.false_and, Bool.true_and]; rfl, hM.below⟩
  refine reg.wp_abs (fun a0 => a0.tmps.size = 27 ∧ (∀ h, a0.tmps[1]'h = .int .i64 m) ∧ (∀ h, a0.tmps[4]'h = .pointer (some ⟨za, 0, none⟩)) ∧ (∀ h, a0.tmps[6]'h = .pointer (some ⟨zb, 0, none⟩)) ∧ (∀ h, a0.tmps[7]'h = .int .i64 z)) ⟨rfl, fun _ => rfl, fun _ => rfl, fun _ => rfl, fun _ => rfl⟩ ?_
  rintro a0 ⟨hsz, s1, s4, s6, s7⟩ ha0
  refine reg.wp_region_E (S := fun W => Ls W [(zb, 23, (dvl d))]) (E := fun _ => false) (by kernel_rfl) ?_
  replace hM := hM.drew
  refine reg.e_take (i := 0) (ag ((dvl d))) rfl (by kernel_rfl) (by kernel_rfl) (by kernel_rfl) (by kernel_rfl) (fun _ _ _ h => h) (reg.wanted_none rfl) (hM.ls (by simp)) (fun W hW => ex_load rfl row_device (by simp [go_sem, Act.put, hsz, s1, s4, s6, s7]) hW.at0 HL.out HC.out) ?_
  refine reg.e_take (i := 1) (.int .i64 z) rfl (by kernel_rfl) (by kernel_rfl) (by kernel_rfl) (by kernel_rfl) (fun _ _ _ h => h) (reg.wanted_none rfl) (hM.ls (by simp)) (fun W hW => by simp [execOp, go_sem, Act.put, hsz, s1, s4, s6, s7]) ?_
  refine reg.e_take (i := 2) (.bool true) rfl (by kernel_rfl) (by kernel_rfl) (by kernel_rfl) (by kernel_rfl) (fun _ _ _ h => h) (reg.wanted_none rfl) (hM.ls (by simp)) (fun W hW => by simp [execOp, go_sem, Act.put, hsz, s1, s4, s6, s7, ha]) ?_
  refine reg.e_take (i := 3) (.bool true) rfl (by kernel_rfl) (by kernel_rfl) (by kernel_rfl) (by kernel_rfl) (fun _ _ _ h => h) (reg.wanted_none rfl) (hM.ls (by simp)) (fun W hW => by simp [execOp, go_sem, Act.put, hsz, s1, s4, s6, s7]) ?_
  refine reg.e_take (i := 4) (.pointer (some ⟨zb, 4, none⟩)) rfl (by kernel_rfl) (by kernel_rfl) (by kernel_rfl) (by kernel_rfl) (fun _ _ _ h => h) (reg.wanted_of 3 true 16 rfl (by kernel_rfl) (by simp [Act.put, hsz])) (hM.ls (by simp)) (fun W hW => by simp [execOp, go_sem, Act.put, hsz, s1, s4, s6, s7]) ?_
  refine reg.e_take (i := 5) (.int .i64 d.m0) rfl (by kernel_rfl) (by kernel_rfl) (by kernel_rfl) (by kernel_rfl) (fun _ _ _ h => h) (reg.wanted_of 3 true 16 rfl (by kernel_rfl) (by simp [Act.put, hsz])) (hM.ls (by simp)) (fun W hW => ex_get rfl (by simp [go_sem, Act.put, hsz, s1, s4, s6, s7]) hW.at0 HM0.out) ?_
  refine reg.e_take (i := 6) (.int .i64 m) rfl (by kernel_rfl) (by kernel_rfl) (by kernel_rfl) (by kernel_rfl) (fun _ _ _ h => h) (reg.wanted_of 3 true 16 rfl (by kernel_rfl) (by simp [Act.put, hsz])) (hM.ls (by simp)) (fun W hW => by simp [execOp, go_sem, Act.put, hsz, s1, s4, s6, s7]) ?_
  refine reg.e_take (i := 7) (.bool true) rfl (by kernel_rfl) (by kernel_rfl) (by kernel_rfl) (by kernel_rfl) (fun _ _ _ h => h) (reg.wanted_of 3 true 16 rfl (by kernel_rfl) (by simp [Act.put, hsz])) (hM.ls (by simp)) (fun W hW => by simp [execOp, go_sem, Act.put, hsz, s1, s4, s6, s7, hb]) ?_
  refine reg.e_take (i := 8) (.bool true) rfl (by kernel_rfl) (by kernel_rfl) (by kernel_rfl) (by kernel_rfl) (fun _ _ _ h => h) (reg.wanted_none rfl) (hM.ls (by simp)) (fun W hW => by simp [execOp, go_sem, Act.put, hsz, s1, s4, s6, s7]) ?_
  refine reg.e_take (i := 9) (.bool true) rfl (by kernel_rfl) (by kernel_rfl) (by kernel_rfl) (by kernel_rfl) (fun _ _ _ h => h) (reg.wanted_none rfl) (hM.ls (by simp)) (fun W hW => by simp [execOp, go_sem, Act.put, hsz, s1, s4, s6, s7]) ?_
  refine reg.e_take (i := 10) (.pointer (some ⟨zb, 11, none⟩)) rfl (by kernel_rfl) (by kernel_rfl) (by kernel_rfl) (by kernel_rfl) (fun _ _ _ h => h) (reg.wanted_of 9 true 22 rfl (by kernel_rfl) (by simp [Act.put, hsz])) (hM.ls (by simp)) (fun W hW => by simp [execOp, go_sem, Act.put, hsz, s1, s4, s6, s7]) ?_
  refine reg.e_take (i := 11) (.int .i64 d.cf) rfl (by kernel_rfl) (by kernel_rfl) (by kernel_rfl) (by kernel_rfl) (fun _ _ _ h => h) (reg.wanted_of 9 true 22 rfl (by kernel_rfl) (by simp [Act.put, hsz])) (hM.ls (by simp)) (fun W hW => ex_get rfl (by simp [go_sem, Act.put, hsz, s1, s4, s6, s7]) hW.at0 HM1.out) ?_
  refine reg.e_take (i := 12) (.bool true) rfl (by kernel_rfl) (by kernel_rfl) (by kernel_rfl) (by kernel_rfl) (fun _ _ _ h => h) (reg.wanted_of 9 true 22 rfl (by kernel_rfl) (by simp [Act.put, hsz])) (hM.ls (by simp)) (fun W hW => by simp [execOp, go_sem, Act.put, hsz, s1, s4, s6, s7, hc]) ?_
  refine reg.e_take (i := 13) (.bool true) rfl (by kernel_rfl) (by kernel_rfl) (by kernel_rfl) (by kernel_rfl) (fun _ _ _ h => h) (reg.wanted_none rfl) (hM.ls (by simp)) (fun W hW => by simp [execOp, go_sem, Act.put, hsz, s1, s4, s6, s7]) ?_
  refine reg.e_one 14 (by kernel_rfl) rfl ?_
  refine r_fill (i := 14) rfl (reg.wanted_none rfl) rfl row_device (by simp [go_sem, Act.put, hsz, s1, s4, s6, s7]) (by simp [go_sem, Act.put, hsz, s1, s4, s6, s7]) hM.at1 HV.out rfl ?_
  intro ru1 rhv rhc
  replace hM := hM.put1 rhc rhv
  clear rhc rhv
  refine ⟨hM.ls (by simp), ?_⟩
  refine reg.e_take (i := 15) (.bool true) rfl (by kernel_rfl) (by kernel_rfl) (by kernel_rfl) (by kernel_rfl) (fun _ _ _ h => h) (reg.wanted_none rfl) (hM.ls (by simp)) (fun W hW => by simp [execOp, go_sem, Act.put, hsz, s1, s4, s6, s7]) ?_
  refine reg.e_done (by kernel_rfl) ?_ _
  subst ha0
  clear hsz s1 s4 s6 s7
  go_simp
  repeat' (first | go_values | go_skip | go_guarded | go_step | go_upon | (simp only [Int.not_lt, Int.not_le] at *; go_simp))
  exact bodyPost_ret (ret_2 rfl rfl (ld_var row_device hM.at1 HV.out.len) rfl) rfl ⟨by simp only [ha, hb, hc, Bool.false_and, Bool.true_and]; rfl, hM.below⟩
end Go.Proofs.Ytonheibhbilhhaa.greet
