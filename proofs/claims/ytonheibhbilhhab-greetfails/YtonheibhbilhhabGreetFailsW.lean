/- GreetFails: the walk. -/
import Derived.Test.YtonheibhbilhhabGreL
import Derived.Test.YtonheibhbilhhabGreO
import Derived.Test.YtonheibhbilhhabDescCo
namespace Go.Proofs.Ytonheibhbilhhab.greetFails
open Go Go.RowKit Go.PlainAid Go.Proofs.Ytonheibhbilhhab.desc Go.Proofs.Ytonheibhbilhhab.greet
set_option linter.unusedVariables false
set_option linter.unusedSimpArgs false
set_option maxRecDepth 100000

theorem row_three : Row 33 3 := ⟨⟨_, Try.underlying33, rfl, by kernel_rfl⟩⟩
theorem zer_three : Zer 33 (ivs [0, 0, 0]) := ⟨by kernel_rfl⟩
theorem bld_three (x y z : Int) (w : World) : (Instr.build 33 #[(0, .int .i64 x), (1, .int .i64 y), (2, .int .i64 z)]).run Try.prog w = .ok (ag (ivs [x, y, z])) w := by kernel_rfl
theorem ivs3_vs (x y z : Int) : Vs (ivs [x, y, z]) 3 := ⟨rfl, fun v hv => by
  simp only [ivs, List.map_cons, List.map_nil, List.mem_cons, List.not_mem_nil, or_false] at hv
  rcases hv with rfl | rfl | rfl <;> rfl⟩
theorem ix0 (x y z : Int) (w : World) : (Instr.index 33 (ag (ivs [x, y, z])) (.int .i64 0)).run Try.prog w = .ok (.int .i64 x) w := by kernel_rfl
theorem ix1 (x y z : Int) (w : World) : (Instr.index 33 (ag (ivs [x, y, z])) (.int .i64 1)).run Try.prog w = .ok (.int .i64 y) w := by kernel_rfl
theorem ix2 (x y z : Int) (w : World) : (Instr.index 33 (ag (ivs [x, y, z])) (.int .i64 2)).run Try.prog w = .ok (.int .i64 z) w := by kernel_rfl
theorem v_ix {ops : Array Oper} {rest : List Oper} {o : Oper} {a : Act} {w : World} {Q : Exit → Act → World → Prop} (hgd : Region.wanted o (yielded ops a.tmps) = true) {t : TypeId} {x y : Operand} (ho : o.op = .index t x y) {v i r : Value}
    (hx : a.eval x = v) (hy : a.eval y = i) (hr : (Instr.index t v i).run Try.prog w = .ok r w)
    (h : wpList Try.prog ops Q rest (a.put o.dst r) w) : wpList Try.prog ops Q (o :: rest) a w := by
  refine wpList_step fun K hK' => ?_
  rw [if_pos hgd]
  unfold Oper.wp execOp
  simp only [ho, hx, hy, Sem.run_bind, hr, Result.andThen_ok, Sem.run_pure]
  exact hK' _ _ h
theorem v_pass {ops : Array Oper} {rest : List Oper} {o : Oper} {a : Act} {w : World} {Q : Exit → Act → World → Prop} (hgd : Region.wanted o (yielded ops a.tmps) = false)
    (h : wpList Try.prog ops Q rest (a.put o.dst undef) w) : wpList Try.prog ops Q (o :: rest) a w := by
  refine wpList_step fun K hK' => ?_
  rw [if_neg (by rw [hgd]; decide)]
  exact hK' _ _ h
/-- the greeting behind so many failures -/
def gk (g : Gr) (e : Int) : Nat → Gr
  | 0 => { g with tr := 0 }
  | 1 => { g with tr := 1 }
  | 2 => { g with tr := 2 }
  | _ => { g with tr := 0, st := 9, er := e }
theorem gk_c (g : Gr) (e : Int) (k : Nat) : (gk g e k).c = g.c := by
  match k with
  | 0 => rfl
  | 1 => rfl
  | 2 => rfl
  | (k + 3) => rfl
theorem nx_k {g : Gr} (h : nxE { g with tr := 0 } = 0) (k : Int) (hk : 0 ≤ k ∧ k ≤ 2) : nxE { g with tr := k } = 0 := by
  rw [nx_ok] at h ⊢
  obtain ⟨h1, h2⟩ := h
  rw [okG_iff] at h1 ⊢
  exact ⟨⟨h1.1, hk, h1.2.2⟩, h2⟩
theorem tl0 {g : Gr} (h : nxE { g with tr := 0 } = 0) {x e : Int} (hx : x ≠ 0) : tlG (gk g e 0) ⟨#[]⟩ x = gk g e 1 ∧ nxE (gk g e 0) = 0 := by
  have h1 : nxE (gk g e 0) = 0 := h
  refine ⟨?_, h1⟩
  rw [tl_miss h1 hx]; rfl
theorem tl1 {g : Gr} (h : nxE { g with tr := 0 } = 0) {x e : Int} (hx : x ≠ 0) : tlG (gk g e 1) ⟨#[]⟩ x = gk g e 2 ∧ nxE (gk g e 1) = 0 := by
  have h1 : nxE (gk g e 1) = 0 := nx_k h 1 (by omega)
  refine ⟨?_, h1⟩
  rw [tl_miss h1 hx]; rfl
theorem tl2 {g : Gr} (h : nxE { g with tr := 0 } = 0) {x : Int} (hx : x ≠ 0) : tlG (gk g x 2) ⟨#[]⟩ x = gk g x 3 ∧ nxE (gk g x 2) = 0 := by
  have h1 : nxE (gk g x 2) = 0 := nx_k h 2 (by omega)
  refine ⟨?_, h1⟩
  rw [tl_miss h1 hx]; rfl
set_option maxHeartbeats 16000000 in
theorem walk (g : Gr) (cv : Value) (L : FL) (x y z : Int) (wx : (Lit.int .i64 x).wf = true) (wy : (Lit.int .i64 y).wf = true) (wz : (Lit.int .i64 z).wf = true) (w : World) (hp : Rg w g cv L) (hk : Wt g.c) :
    Calls Try.prog 3 #[grV g cv, .int .i64 x, .int .i64 y, .int .i64 z] w fun e w' => e = .returned (.bool true) ∧ Below w.heap.size w w' := by
  have HLV : Hid (∀ u, Calls Try.prog 6 #[] u fun e w' => e = .returned (.bool true) ∧ Below u.heap.size u w') := fun u => lives_any coAll u
  have HNx : Hid (∀ u, Calls Try.prog 5 #[grV { g with tr := 0 } cv] u fun e w' => e = .returned (.tuple #[.string (nxT { g with tr := 0 }), .int .i64 (nxE { g with tr := 0 })]) ∧ Below u.heap.size u w') := fun u => next_any _ cv u
  have HTl : Hid (∀ k uv D e u, Rc u uv g.c D → Calls Try.prog 7 #[grV (gk g z k) uv, .string ⟨#[]⟩, .int .i64 e] u (TlP (gk g z k) ⟨#[]⟩ e u)) := fun k uv D e u hc => tell_any coAll (gk g z k) uv D ⟨#[]⟩ e u (by rw [gk_c]; exact hc) (by rw [gk_c]; exact hk) (Nat.zero_le _)
  have HS : Hid (∀ uv D u, Rc u uv g.c D → Below w.heap.size w u → Calls Try.prog 8 #[grV (gk g z 3) uv, grV (gk g z 3) cv] u fun e w' => e = .returned (.bool true) ∧ Below u.heap.size u w') := fun uv D u hc hu => sameGr_any (gk g z 3) uv cv D L u hc (hp.rc.below hu)
  have HR : Hid (Rc w cv g.c L) := hp.rc
  have HU : Hid (cv.oneCell' = true) := rc_one hp.rc
  have hM := Mm.nil w
  clear hp hk wx wy wz
  go_enter Try.func3, Try.ntmps3
  repeat' (first | (go_big_may; first | (refine v_box rfl rfl rfl ?_; intro u zg hN; replace hM := hM.new hN; clear hN) | (refine v_putx rfl rfl (one_int 0) rfl rfl hM.at0 (of_decide_eq_true rfl) (show _ = grl { g with tr := 0 } cv from rfl) ?_; intro u hv hc; replace hM := hM.put0 hc hv; clear hv hc) | (refine v_load rfl rfl row_greeting rfl hM.at0 (Nat.le_refl _) (cut_all rfl) ?_)) | go_values | go_skip | go_guarded | go_step | go_upon | (simp only [Int.not_lt, Int.not_le] at *; go_simp))
  refine (HNx.out _).mono ?_
  rintro e u1 ⟨rfl, hb⟩
  replace hM := hM.call hb
  clear hb HNx
  repeat' (first | go_values | go_skip | go_guarded | go_step | go_upon | (simp only [Int.not_lt, Int.not_le] at *; go_simp))
  refine (HLV.out _).mono ?_
  rintro e u2 ⟨rfl, hb⟩
  replace hM := hM.call hb
  clear hb
  by_cases hn : nxE { g with tr := 0 } = 0
  case neg =>
    have e1 : (nxE { g with tr := 0 } != 0) = true := by simpa using hn
    clear hn
    repeat' (first | go_values | go_skip | go_guarded | go_step | go_upon | (simp only [Int.not_lt, Int.not_le] at *; go_simp))
    refine (HLV.out _).mono ?_
    rintro e u3 ⟨rfl, hb⟩
    replace hM := hM.call hb
    clear hb
    repeat' (first | go_values | go_skip | go_guarded | go_step | go_upon | (simp only [Int.not_lt, Int.not_le] at *; go_simp))
    go_ret
    exact ⟨rfl, hM.below⟩
  have HN : Hid (nxE { g with tr := 0 } = 0) := hn
  have e1 : (nxE { g with tr := 0 } != 0) = false := by simpa using hn
  clear hn HLV
  repeat' (first | (go_big_may; first | (refine v_build rfl rfl (bld_three x y z) ?hbv ?_; (case hbv => simp [Act.eval, Act.put])) | (refine v_alloc rfl zer_three rfl ?_; intro u za hN; replace hM := hM.new hN; clear hN) | (refine v_fill rfl rfl row_three rfl rfl hM.at0 (ivs3_vs _ _ _) rfl ?_; intro u hv hc; replace hM := hM.put0 hc hv; clear hv hc) | (refine v_load rfl rfl row_greeting rfl hM.at1 (Nat.le_refl _) (cut_all rfl) ?_) | (refine v_alloc rfl zer_greeting rfl ?_; intro u zw hN; replace hM := hM.new hN; clear hN) | (refine v_fill rfl rfl row_greeting rfl rfl hM.at0 (grl_vs _ HU.out) rfl ?_; intro u hv hc; replace hM := hM.put0 hc hv; clear hv hc) | (refine v_load rfl rfl row_three rfl hM.at1 (Nat.le_refl _) (cut_all rfl) ?_)) | go_values | go_skip | go_guarded | go_step | go_upon | (simp only [Int.not_lt, Int.not_le] at *; go_simp))
  go_loopw [13, 14, 15, 35] (fun _ _ _ i wr => ∃ (k : Nat) (vf : Value) (D : FL), k ≤ 3 ∧ i = .int .i64 (k : Int) ∧ Hid (Mm w wr [(zw, 29, grl { g with tr := 0 } cv), (za, 33, ivs [x, y, z]), (zg, 29, grl (gk g z k) vf)] ∧ ((k = 0 ∧ vf = cv ∧ D = L) ∨ (Oc w wr vf D ∧ D.map Prod.fst = g.c.fs)) ∧ vf.oneCell' = true)) (fun _ _ _ i _ => 3 - (intOf i).toNat)
  case atStart => exact ⟨0, cv, L, by omega, rfl, hM, .inl ⟨rfl, rfl, rfl⟩, HU.out⟩
  case round =>
    clear hM e1
    obtain ⟨k, vf, D, hk, rfl, HA⟩ := hrel
    have hM : Mo w wr [(zw, 29, grl { g with tr := 0 } cv), (za, 33, ivs [x, y, z]), (zg, 29, grl (gk g z k) vf)] nilS [] := ⟨HA.out.1, Oc.nil _ _, by
      intro q hq
      simp only [List.mem_cons, List.not_mem_nil, or_false] at hq
      rcases hq with rfl | rfl | rfl
      · exact (by decide : Kd 29)
      · exact (by decide : Kd 33)
      · exact (by decide : Kd 29)⟩
    have HOW : Hid ((k = 0 ∧ vf = cv ∧ D = L) ∨ (Oc w wr vf D ∧ D.map Prod.fst = g.c.fs)) := HA.out.2.1
    have HRc : Hid (Rc wr vf g.c D) := by
      rcases HOW.out with ⟨_, q1, q2⟩ | ⟨q1, q2⟩
      · rw [q1, q2]; exact HR.out.below hM.below
      · exact q1.rc q2
    have HV : Hid (vf.oneCell' = true) := HA.out.2.2
    clear HA
    have hk4 : k = 0 ∨ k = 1 ∨ k = 2 ∨ k = 3 := by omega
    clear hk
    rcases hk4 with rfl | hk4
    · have hix : True := trivial
      by_cases hz : x = 0
      · have e2 : (x == 0) = true := by simpa using hz
        clear hz
        repeat' (first | (go_big_may; first | (refine v_ix rfl rfl rfl rfl (ix0 x y z _) ?_)) | go_values | go_skip | go_guarded | go_step | go_upon | (simp only [Int.not_lt, Int.not_le] at *; go_simp))
        go_ret
        exact ⟨rfl, hM.below⟩
      have e2 : (x == 0) = false := by simpa using hz
      have HT : Hid (tlG (gk g z 0) ⟨#[]⟩ x = gk g z 1 ∧ nxE (gk g z 0) = 0) := tl0 HN.out hz
      clear hz
      repeat' (first | (go_big_may; first | (refine v_ix rfl rfl rfl rfl (ix0 x y z _) ?_) | (refine v_load rfl rfl row_greeting rfl hM.at2 (Nat.le_refl _) (cut_all rfl) ?_)) | go_values | go_skip | go_guarded | go_step | go_upon | (simp only [Int.not_lt, Int.not_le] at *; go_simp))
      refine (HTl.out 0 vf D x _ (HRc.out.below (Below.refl _ _))).mono ?_
      rintro e u4 ⟨u', L', rfl, ho, hD, hb⟩
      rw [HT.out.1, HT.out.2]
      rw [HT.out.1, gk_c] at hD
      have HO : Hid (u'.oneCell' = true) := ho.one
      have HD : Hid (L'.map Prod.fst = g.c.fs) := hD
      replace hM := hM.take hb ho
      clear hb ho hD
      repeat' (first | (go_big_may; first | (refine v_fill rfl rfl row_greeting rfl rfl hM.at2 (grl_vs _ HO.out) rfl ?_; intro u hv hc; replace hM := hM.put2 hc hv; clear hv hc) | (refine v_get rfl rfl lod_int rfl hM.at2 (v := .int .i64 1) (j := 1) rfl ?_) | (refine v_get rfl rfl lod_int rfl hM.at2 (v := .int .i64 g.st) (j := 0) rfl ?_) | (refine v_get rfl rfl lod_int rfl hM.at0 (v := .int .i64 g.st) (j := 0) rfl ?_)) | go_values | go_skip | go_guarded | go_step | go_upon | (simp only [Int.not_lt, Int.not_le] at *; go_simp))
      go_roundw
      case rel => exact ⟨1, u', L', by omega, by rfl, hM.mm, .inr ⟨hM.own, HD.out⟩, HO.out⟩
      case measure => simp [intOf]
    rcases hk4 with rfl | hk4
    · have hix : True := trivial
      by_cases hz : y = 0
      · have e2 : (y == 0) = true := by simpa using hz
        clear hz
        repeat' (first | (go_big_may; first | (refine v_ix rfl rfl rfl rfl (ix1 x y z _) ?_)) | go_values | go_skip | go_guarded | go_step | go_upon | (simp only [Int.not_lt, Int.not_le] at *; go_simp))
        go_ret
        exact ⟨rfl, hM.below⟩
      have e2 : (y == 0) = false := by simpa using hz
      have HT : Hid (tlG (gk g z 1) ⟨#[]⟩ y = gk g z 2 ∧ nxE (gk g z 1) = 0) := tl1 HN.out hz
      clear hz
      repeat' (first | (go_big_may; first | (refine v_ix rfl rfl rfl rfl (ix1 x y z _) ?_) | (refine v_load rfl rfl row_greeting rfl hM.at2 (Nat.le_refl _) (cut_all rfl) ?_)) | go_values | go_skip | go_guarded | go_step | go_upon | (simp only [Int.not_lt, Int.not_le] at *; go_simp))
      refine (HTl.out 1 vf D y _ (HRc.out.below (Below.refl _ _))).mono ?_
      rintro e u4 ⟨u', L', rfl, ho, hD, hb⟩
      rw [HT.out.1, HT.out.2]
      rw [HT.out.1, gk_c] at hD
      have HO : Hid (u'.oneCell' = true) := ho.one
      have HD : Hid (L'.map Prod.fst = g.c.fs) := hD
      replace hM := hM.take hb ho
      clear hb ho hD
      repeat' (first | (go_big_may; first | (refine v_fill rfl rfl row_greeting rfl rfl hM.at2 (grl_vs _ HO.out) rfl ?_; intro u hv hc; replace hM := hM.put2 hc hv; clear hv hc) | (refine v_get rfl rfl lod_int rfl hM.at2 (v := .int .i64 2) (j := 1) rfl ?_) | (refine v_get rfl rfl lod_int rfl hM.at2 (v := .int .i64 g.st) (j := 0) rfl ?_) | (refine v_get rfl rfl lod_int rfl hM.at0 (v := .int .i64 g.st) (j := 0) rfl ?_)) | go_values | go_skip | go_guarded | go_step | go_upon | (simp only [Int.not_lt, Int.not_le] at *; go_simp))
      go_roundw
      case rel => exact ⟨2, u', L', by omega, by rfl, hM.mm, .inr ⟨hM.own, HD.out⟩, HO.out⟩
      case measure => simp [intOf]
    rcases hk4 with rfl | hk4
    · have hix : True := trivial
      by_cases hz : z = 0
      · have e2 : (z == 0) = true := by simpa using hz
        clear hz
        repeat' (first | (go_big_may; first | (refine v_ix rfl rfl rfl rfl (ix2 x y z _) ?_)) | go_values | go_skip | go_guarded | go_step | go_upon | (simp only [Int.not_lt, Int.not_le] at *; go_simp))
        go_ret
        exact ⟨rfl, hM.below⟩
      have e2 : (z == 0) = false := by simpa using hz
      have HT : Hid (tlG (gk g z 2) ⟨#[]⟩ z = gk g z 3 ∧ nxE (gk g z 2) = 0) := tl2 HN.out hz
      clear hz
      repeat' (first | (go_big_may; first | (refine v_ix rfl rfl rfl rfl (ix2 x y z _) ?_) | (refine v_load rfl rfl row_greeting rfl hM.at2 (Nat.le_refl _) (cut_all rfl) ?_)) | go_values | go_skip | go_guarded | go_step | go_upon | (simp only [Int.not_lt, Int.not_le] at *; go_simp))
      refine (HTl.out 2 vf D z _ (HRc.out.below (Below.refl _ _))).mono ?_
      rintro e u4 ⟨u', L', rfl, ho, hD, hb⟩
      rw [HT.out.1, HT.out.2]
      rw [HT.out.1, gk_c] at hD
      have HO : Hid (u'.oneCell' = true) := ho.one
      have HD : Hid (L'.map Prod.fst = g.c.fs) := hD
      replace hM := hM.take hb ho
      clear hb ho hD
      go_upto_region 16 with (first | (refine v_fill rfl rfl row_greeting rfl rfl hM.at2 (grl_vs _ HO.out) rfl ?_; intro u hv hc; replace hM := hM.put2 hc hv; clear hv hc))
      iterate 31 (first | go_values | go_skip | go_guarded | go_step | go_upon)
      go_roundw
      case rel => exact ⟨3, u', L', by omega, by rfl, hM.mm, .inr ⟨hM.own, HD.out⟩, HO.out⟩
      case measure => simp [intOf]
    subst hk4
    have hown : Oc w wr vf D ∧ D.map Prod.fst = g.c.fs := by
      rcases HOW.out with ⟨q, _⟩ | q
      · omega
      · exact q
    have HDD : Hid (D.map Prod.fst = g.c.fs) := hown.2
    replace hM : Mo w wr [(zw, 29, grl { g with tr := 0 } cv), (za, 33, ivs [x, y, z]), (zg, 29, grl (gk g z 3) vf)] vf D := ⟨hM.mm, hown.1, hM.kd⟩
    have HG2 : Hid ((ivs [x, y, z])[2]? = some (.int .i64 z)) := rfl
    clear hown HOW HRc
    go_upto_region 19 with (fail)
    refine reg.wp_abs (fun a0 => a0.tmps.size = 73 ∧ (∀ h, a0.tmps[11]'h = .pointer (some ⟨za, 0, none⟩)) ∧ (∀ h, a0.tmps[12]'h = .pointer (some ⟨zw, 0, none⟩))) ⟨rfl, fun _ => rfl, fun _ => rfl⟩ ?_
    rintro a0 ⟨hsz, s11, s12⟩ ha0
    refine reg.wp_region_E (S := fun W => Ls W [(za, 33, (ivs [x, y, z]))]) (E := fun _ => false) (by kernel_rfl) ?_
    replace hM := hM.drew
    refine reg.e_take (i := 0) (.pointer (some ⟨za, 2, none⟩)) rfl (by kernel_rfl) (by kernel_rfl) (by kernel_rfl) (by kernel_rfl) (fun _ _ _ h => h) (reg.wanted_none rfl) (hM.ls (by simp)) (fun W hW => by simp [execOp, go_sem, Act.put, hsz, s11, s12]) ?_
    refine reg.e_take (i := 1) (.int .i64 z) rfl (by kernel_rfl) (by kernel_rfl) (by kernel_rfl) (by kernel_rfl) (fun _ _ _ h => h) (reg.wanted_none rfl) (hM.ls (by simp)) (fun W hW => ex_get rfl (by simp [go_sem, Act.put, hsz, s11, s12]) hW.at0 HG2.out) ?_
    refine reg.e_take (i := 2) (.pointer (some ⟨zw, 0, none⟩)) rfl (by kernel_rfl) (by kernel_rfl) (by kernel_rfl) (by kernel_rfl) (fun _ _ _ h => h) (reg.wanted_none rfl) (hM.ls (by simp)) (fun W hW => by simp [execOp, go_sem, Act.put, hsz, s11, s12]) ?_
    refine reg.e_one 3 (by kernel_rfl) rfl ?_
    refine r_put (i := 3) (j := 0) rfl (reg.wanted_none rfl) rfl (one_int 9) (by simp [go_sem, Act.put, hsz, s11, s12]) (by simp [go_sem, Act.put, hsz, s11, s12]) hM.at0 (of_decide_eq_true rfl) (show _ = (grl { g with tr := 0, st := 9 } cv) from rfl) ?_
    intro ru1 rhv rhc
    replace hM := hM.put0 rhc rhv
    clear rhc rhv
    refine ⟨hM.ls (by simp), ?_⟩
    refine reg.e_take (i := 4) (.pointer (some ⟨zw, 23, none⟩)) rfl (by kernel_rfl) (by kernel_rfl) (by kernel_rfl) (by kernel_rfl) (fun _ _ _ h => h) (reg.wanted_none rfl) (hM.ls (by simp)) (fun W hW => by simp [execOp, go_sem, Act.put, hsz, s11, s12]) ?_
    refine reg.e_one 5 (by kernel_rfl) rfl ?_
    refine r_put (i := 5) (j := 23) rfl (reg.wanted_none rfl) rfl (one_err z) (by simp [go_sem, Act.put, hsz, s11, s12]) (by simp [go_sem, Act.put, hsz, s11, s12]) hM.at0 (of_decide_eq_true rfl) (show _ = (grl { g with tr := 0, st := 9, er := z } cv) from rfl) ?_
    intro ru2 rhv rhc
    replace hM := hM.put0 rhc rhv
    clear rhc rhv
    refine ⟨hM.ls (by simp), ?_⟩
    refine reg.e_done (by kernel_rfl) ?_ _
    subst ha0
    clear hsz s11 s12
    go_simp
    repeat' (first | (go_big_may; first | (refine v_load rfl rfl row_greeting rfl hM.at2 (Nat.le_refl _) (cut_all rfl) ?_) | (refine v_load rfl rfl row_greeting rfl hM.at0 (Nat.le_refl _) (cut_all rfl) ?_)) | go_values | go_skip | go_guarded | go_step | go_upon | (simp only [Int.not_lt, Int.not_le] at *; go_simp))
    refine (HS.out vf D _ (hM.own.rc HDD.out) hM.below).mono ?_
    rintro e u5 ⟨rfl, hb⟩
    replace hM := hM.call hb
    clear hb
    repeat' (first | go_values | go_skip | go_guarded | go_step | go_upon | (simp only [Int.not_lt, Int.not_le] at *; go_simp))
    go_ret
    exact ⟨rfl, hM.below⟩
end Go.Proofs.Ytonheibhbilhhab.greetFails
