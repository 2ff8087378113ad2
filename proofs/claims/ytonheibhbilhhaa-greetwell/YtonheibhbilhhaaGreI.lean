/- greet: what copied answers. -/
import Derived.Test.YtonheibhbilhhaaGreH
namespace Go.Proofs.Ytonheibhbilhhaa.greet
open Go Go.RowKit Go.PlainAid Go.Proofs.Ytonheibhbilhhaa.lane Go.Proofs.Ytonheibhbilhhaa.desc
set_option linter.unusedVariables false
set_option linter.unusedSimpArgs false
set_option maxRecDepth 100000

theorem face_range {w u : World} {fg n cap k : Nat} {D R : FL} {q : Fc × Value × Value} (h : Cp w u fg n cap (D ++ q :: R) D) (hk : D.length = k) (hkn : k < n) : u.rangeAt fg (k * 6) (fcl q.1 q.2.1 q.2.2) := fun j v hv => by
  have hj : j < 6 := (List.getElem?_eq_some_iff.1 hv).1
  have hm := Nat.mul_le_mul_right 6 (show k + 1 ≤ n from hkn)
  rw [World.ownsRow.cellAt h.row _ (by omega)]
  have hq2 : (D ++ q :: R)[k]? = some q := by
    rw [List.getElem?_append_right (by omega), hk, Nat.sub_self]; rfl
  exact fcells_at _ k q hq2 j v (by simpa [fcl, fcell] using hv)
set_option maxHeartbeats 8000000 in
theorem copied_any (c : Cf) (vc : Value) (L : FL) (w : World) (hc : Rc w vc c L) (hw : Wt c) :
    Calls Try.prog 27 #[ag (cfl c vc)] w fun e w' => ∃ vf D, e = .returned (ag (cfl c vf)) ∧ Oc w w' vf D ∧ D.map Prod.fst = c.fs ∧ Below w.heap.size w w' := by
  have HR : Hid (∀ u, Below w.heap.size w u → Rfs u vc L) := fun u hu => hc.fs.below hu
  have HE : Hid (L.map Prod.fst = c.fs) := hc.eq
  have hl : L.length * 80 ≤ 140737488351232 := by have := hw.fs; rw [← hc.eq, List.length_map] at this; exact this
  have HWt : Hid (∀ q ∈ L, q.1.ex.length * 16 ≤ 140737488351232 ∧ q.1.en.length * 40 ≤ 140737488351232) := fun q hq => hw.each q.1 (by rw [← hc.eq]; exact List.mem_map.2 ⟨q, hq, rfl⟩)
  have HRq : Hid (∀ q ∈ L, Rf w q) := hc.fs.all
  obtain ⟨fa, fn, fcap, rfl⟩ : ∃ a n c, vc = .slice a n c := by obtain ⟨a, c, h, _⟩ := hc.fs.row; exact ⟨_, _, _, h⟩
  have hM := Mm.nil w
  obtain ⟨n, hn⟩ : ∃ n, L.length = n := ⟨_, rfl⟩
  have HN : Hid (L.length = n) := hn
  have HL : Hid (L.length * 80 ≤ 140737488351232) := hl
  clear hc hw hl hn
  go_enter Try.func27, Try.ntmps27
  repeat' (first | (go_big_may; first | (refine v_box rfl rfl rfl ?_; intro u zc hN; replace hM := hM.new hN; clear hN) | (refine v_alloc rfl zer_config rfl ?_; intro u zr hN; replace hM := hM.new hN; clear hN) | (refine v_get rfl rfl (by first | exact lod_int | exact lod_str | exact lod_fcs | exact lod_err) rfl hM.at1 rfl ?_) | (refine v_fcs rfl rfl rfl rfl (HR.out _ hM.below) HL.out ?_; intro vf u hF hv; have hF2 : Fow u w.heap.size vf L := own_mono hF hM.below.size; replace hM := hM.call hv; clear hF hv; obtain ⟨ga, gc, hvf, hgc1, hgc2⟩ := own_form hF2; rw [HN.out] at hvf hgc1; subst hvf) | (refine v_put rfl rfl (one_fcs _ _ _) rfl rfl hM.at1 (of_decide_eq_true rfl) ?_; intro u hv hcg; replace hF2 := own_chg hF2 hcg hM.at1 (by decide); replace hM := hM.put1 hcg hv; clear hv hcg)) | go_values | go_skip | go_guarded | go_step | go_upon | (simp only [Int.not_lt, Int.not_le] at *; go_simp))
  have hnb : n ≤ 1759218604441 := by have h := HL.out; rw [HN.out] at h; omega
  clear hgc1 hgc2
  go_loopw [3, 4, 12] (fun _ _ i wr => ∃ (k : Nat) (D : FL), k ≤ n ∧ i = .int .i64 (k : Int) ∧ D.length = k ∧ Hid (Mm w wr [(zr, 26, cfl noC nilS), (zc, 26, cfl c (.slice ga n gc))] ∧ wr.ownsRow w.heap.size 76 6 (.slice ga n gc) n (fcells (D ++ L.drop D.length)) ∧ (∀ q ∈ D, Txs wr w.heap.size q.2.1 q.1.ex) ∧ (∀ q ∈ D, Eds wr w.heap.size q.2.2 q.1.en) ∧ D.map Prod.fst = (L.take D.length).map Prod.fst)) (fun _ _ i _ => n - (intOf i).toNat)
  case atStart => exact ⟨0, [], Nat.zero_le _, rfl, rfl, hM, by have h := hF2; unfold Fow at h; rw [HN.out] at h; exact h, fun q hq => by simp at hq, fun q hq => by simp at hq, by simp⟩
  case round =>
    clear hM hF2
    obtain ⟨k, D, hk, rfl, hD, HA⟩ := hrel
    obtain ⟨hM, hrow, htx, hen, heq⟩ := HA.out
    have HBB : Hid (D.map Prod.fst = (L.take D.length).map Prod.fst) := heq
    by_cases hlt : ¬ k < n
    · have hDL : L.drop D.length = [] := List.drop_eq_nil_of_le (by have := HN.out; omega)
      have hTL : L.take D.length = L := List.take_of_length_le (by have := HN.out; omega)
      rw [hDL, List.append_nil] at hrow
      rw [hTL] at heq
      have HO : Hid (∀ v, Below wr.heap.size wr v → Oc w v (.slice ga n gc) D) := fun v hv => by
        refine Oc.below ⟨?_, htx, hen, fun q hq => ?_⟩ hv
        · have e : D.length = n := by omega
          rw [e]; exact hrow
        · have : q.1 ∈ L.map Prod.fst := by rw [← heq]; exact List.mem_map.2 ⟨q, hq, rfl⟩
          obtain ⟨q', hq', e⟩ := List.mem_map.1 this
          rw [← e]
          exact ⟨(HRq.out q' hq').bb, (HRq.out q' hq').sz⟩
      have HEQ : Hid (D.map Prod.fst = c.fs) := heq.trans HE.out
      replace hM : Mo w wr [(zr, 26, cfl noC nilS), (zc, 26, cfl c (.slice ga n gc))] (.slice ga n gc) D := ⟨hM, HO.out wr (Below.refl _ _), by intro x hx; simp only [List.mem_cons, List.not_mem_nil, or_false] at hx; rcases hx with rfl | rfl <;> exact (by decide : Kd 26)⟩
      clear HO HA hrow htx hen heq HBB hDL hTL
      repeat' (first | (go_big_may; first | (refine v_load rfl rfl row_config rfl hM.at1 (Nat.le_refl _) (cut_all rfl) ?_) | (refine v_fill rfl rfl row_config rfl rfl hM.at0 (cfl_vs c rfl) rfl ?_; intro u hv hc; replace hM := hM.put0 hc hv; clear hv hc)) | go_values | go_skip | go_guarded | go_step | go_upon | (simp only [Int.not_lt, Int.not_le] at *; go_simp))
      exact bodyPost_ret (ret_1 rfl rfl (ld_var row_config hM.at0 rfl)) rfl ⟨.slice ga n gc, D, rfl, hM.own, HEQ.out, hM.below⟩
    have hlt : k < n := by omega
    have hk1 : k < L.length := by have := HN.out; omega
    obtain ⟨q, hq⟩ : ∃ q, L[k]? = some q := ⟨L[k], List.getElem?_eq_getElem hk1⟩
    have hdr : L.drop D.length = q :: L.drop (k + 1) := by
      obtain ⟨h1, h2⟩ := List.getElem?_eq_some_iff.1 hq
      rw [hD, List.drop_eq_getElem_cons h1, h2]
    rw [hdr] at hrow
    obtain ⟨fg, rfl⟩ := own_some hrow (by omega)
    have hC : Cp w wr fg n gc (D ++ q :: L.drop (k + 1)) D := ⟨hrow, htx, hen⟩
    have hrng := face_range hC hD hlt
    have hrq := HRq.out q (List.mem_of_getElem? hq)
    have hwq := HWt.out q (List.mem_of_getElem? hq)
    have hfz : fg < wr.heap.size := hC.lt
    have HLK : Hid (L[k]? = some q) := hq
    obtain ⟨f, ve, vd⟩ := q
    obtain ⟨xa, nx, xc, hxe⟩ : ∃ a n c, ve = .slice a n c := by obtain ⟨a, c, h, _⟩ := hrq.ex; exact ⟨_, _, _, h⟩
    obtain ⟨ya, ny, yc, hye⟩ : ∃ a n c, vd = .slice a n c := by obtain ⟨a, c, h, _⟩ := hrq.en; exact ⟨_, _, _, h⟩
    subst hxe hye
    have HX : Hid (∀ u, Below w.heap.size w u → Rts u (.slice xa nx xc) f.ex) := fun u hu => hrq.ex.below hu
    have HY : Hid (∀ u, Below w.heap.size w u → Rns u (.slice ya ny yc) f.en) := fun u hu => hrq.en.below hu
    have HXl : Hid (f.ex.length * 16 ≤ 140737488351232) := hwq.1
    have HYl : Hid (f.en.length * 40 ≤ 140737488351232) := hwq.2
    obtain ⟨R, hR⟩ : ∃ R, L.drop (k + 1) = R := ⟨_, rfl⟩
    have HRR : Hid (L.drop (k + 1) = R) := hR
    rw [hR] at hC
    clear HA hrow htx hen heq hrq hwq hdr hq hk1 hR
    go_upto_region 4 with (fail)
    iterate 7 (first | go_values | go_step)
    refine v_ldR rfl rfl row_face rfl hrng rfl ?_
    refine v_alloc rfl zer_face rfl ?_
    intro u zf hN
    have hzf : Hid (zf = wr.heap.size) := hN.at'
    have hbw := hN.below
    replace hM := hM.new hN
    clear hN
    iterate 3 (first | go_values | go_skip | go_guarded | go_step | go_upon)
    refine v_fill rfl rfl row_face rfl rfl hM.at0 (fcl_vs _ _ _ _ _ _ _) rfl ?_
    intro u hv hcg
    replace hM := hM.put0 hcg hv
    replace hbw := hcg.below _ _ (by rw [hzf.out]; exact Nat.le_refl _) hbw
    clear hv hcg
    go_upto_region 5 with (fail)
    rename World => u3
    have HS0 : Hid (w.heap.size ≤ u3.heap.size) := hM.below.size
    have HNE : Hid (∀ y ∈ ([(zf, 76, fcl f (.slice xa nx xc) (.slice ya ny yc)), (zr, 26, cfl noC nilS), (zc, 26, cfl c (.slice (some ⟨fg, 0, none⟩) n gc))] : List Bk), y.1 ≠ fg) := by
      intro y hy
      simp only [List.mem_cons, List.not_mem_nil, or_false] at hy
      rcases hy with rfl | rfl | rfl
      · show zf ≠ fg; have := hzf.out; omega
      · exact (hC.below hbw).ne hM.at1 (by decide)
      · exact (hC.below hbw).ne hM.at2 (by decide)
    replace hC := (hC.below hbw).drew
    have HN5 : Hid (f.ex.length = nx) := by obtain ⟨a, c, h, _⟩ := HX.out u3 hM.below; injection h with _ h _; exact h.symm
    have HN6 : Hid (f.en.length = ny) := by obtain ⟨a, c, h, _⟩ := HY.out u3 hM.below; injection h with _ h _; exact h.symm
    have HKM4 : Hid (k * 6 + 4 < n * 6) := by show _ < _; omega
    have HKM5 : Hid (k * 6 + 5 < n * 6) := by show _ < _; omega
    have HD : Hid (D.length = k) := hD
    have HG1 : Hid ((cfl c (.slice (some ⟨fg, 0, none⟩) n gc))[4]? = some (.slice (some ⟨fg, 0, none⟩) n gc)) := rfl
    have HG4 : Hid ((fcl f (.slice xa nx xc) (.slice ya ny yc))[4]? = some (.slice xa nx xc)) := rfl
    have HG5 : Hid ((fcl f (.slice xa nx xc) (.slice ya ny yc))[5]? = some (.slice ya ny yc)) := rfl
    clear hzf hbw hrng hfz hD
    refine reg.wp_abs (fun a0 => a0.tmps.size = 35 ∧ (∀ h, a0.tmps[1]'h = .pointer (some ⟨zc, 0, none⟩)) ∧ (∀ h, a0.tmps[3]'h = .int .i64 (k : Int)) ∧ (∀ h, a0.tmps[4]'h = .pointer (some ⟨zf, 0, none⟩))) ⟨rfl, fun _ => rfl, fun _ => rfl, fun _ => rfl⟩ ?_
    rintro a0 ⟨hsz, s1, s3, s4⟩ ha0
    refine reg.wp_region_E (S := fun W => Ls W [(zf, 76, (fcl f (.slice xa nx xc) (.slice ya ny yc))), (zc, 26, (cfl c (.slice (some ⟨fg, 0, none⟩) n gc)))]) (E := fun i => i == 8) (by kernel_rfl) ?_
    replace hM := hM.drew
    refine reg.e_take (i := 0) (.pointer (some ⟨zc, 4, none⟩)) rfl (by kernel_rfl) (by kernel_rfl) (by kernel_rfl) (by kernel_rfl) (fun _ _ _ h => h) (reg.wanted_none rfl) (hM.ls (by simp)) (fun W hW => by simp [execOp, go_sem, Act.put, hsz, s1, s3, s4]) ?_
    refine reg.e_take (i := 1) (.slice (some ⟨fg, 0, none⟩) n gc) rfl (by kernel_rfl) (by kernel_rfl) (by kernel_rfl) (by kernel_rfl) (fun _ _ _ h => h) (reg.wanted_none rfl) (hM.ls (by simp)) (fun W hW => ex_get rfl (by simp [go_sem, Act.put, hsz, s1, s3, s4]) hW.at1 HG1.out) ?_
    refine reg.e_take (i := 2) (.int .i64 (k : Int)) rfl (by kernel_rfl) (by kernel_rfl) (by kernel_rfl) (by kernel_rfl) (fun _ _ _ h => h) (reg.wanted_none rfl) (hM.ls (by simp)) (fun W hW => by simp [execOp, go_sem, Act.put, hsz, s1, s3, s4]) ?_
    refine reg.e_take (i := 3) (.pointer (some ⟨zf, 4, none⟩)) rfl (by kernel_rfl) (by kernel_rfl) (by kernel_rfl) (by kernel_rfl) (fun _ _ _ h => h) (reg.wanted_none rfl) (hM.ls (by simp)) (fun W hW => by simp [execOp, go_sem, Act.put, hsz, s1, s3, s4]) ?_
    refine reg.e_take (i := 4) (.slice xa nx xc) rfl (by kernel_rfl) (by kernel_rfl) (by kernel_rfl) (by kernel_rfl) (fun _ _ _ h => h) (reg.wanted_none rfl) (hM.ls (by simp)) (fun W hW => ex_get rfl (by simp [go_sem, Act.put, hsz, s1, s3, s4]) hW.at0 HG4.out) ?_
    refine reg.e_one 5 (by kernel_rfl) rfl ?_
    refine r_txs (i := 5) rfl (reg.wanted_none rfl) rfl (by simp [go_sem, Act.put, hsz, s1, s3, s4]) (by simp [go_sem, Act.put, hsz, s1, s3, s4]) (HX.out _ hM.below) HXl.out ?_
    intro rvx ru1 rho rhv
    replace hM := hM.call rhv
    have rht := own_mono rho HS0.out
    obtain ⟨ta5, tc5, hvt, _, _⟩ := own_form rho
    rw [HN5.out] at hvt
    subst hvt
    replace hC := hC.below rhv
    have hce := hC.cell (k * 6 + 4) HKM4.out
    obtain ⟨⟨z5, hz5⟩, hzf5⟩ := hce
    obtain ⟨v5, hv5⟩ : ∃ v, ru1.setCell ⟨fg, k * 6 + 4, none⟩ (.slice ta5 nx tc5) = v := ⟨_, rfl⟩
    have hC2 := hC.put4 (x := .slice ta5 nx tc5) HD.out
    have hM2 := hM.row (p := k * 6 + 4) (x := .slice ta5 nx tc5) hC.ge HNE.out
    have hT5 := hC.keepT (p := k * 6 + 4) (x := .slice ta5 nx tc5) rht
    rw [hv5] at hC2 hM2 hT5
    clear rho rhv
    refine ⟨hM.ls (by simp), ?_⟩
    refine reg.e_take0 (i := 6) (.pointer (some ⟨fg, k * 6, none⟩)) rfl (by kernel_rfl) (by kernel_rfl) (by kernel_rfl) rfl (fun _ _ _ h => h) (reg.wanted_none rfl) (hM.ls (by simp)) (fun W => by simp [execOp, go_sem, Act.put, hsz, s1, s3, s4, hlt]) ?_
    refine reg.e_take (i := 7) (.pointer (some ⟨fg, k * 6 + 4, none⟩)) rfl (by kernel_rfl) (by kernel_rfl) (by kernel_rfl) (by kernel_rfl) (fun _ _ _ h => h) (reg.wanted_none rfl) (hM.ls (by simp)) (fun W hW => by simp [execOp, go_sem, Act.put, hsz, s1, s3, s4]) ?_
    refine reg.e_leave 8 (by kernel_rfl) rfl ?_
    refine reg.r_skip (i := 8) (w' := v5) rfl (reg.wanted_none rfl) (ex_st rfl (one_txs _ _ _) (by simp [go_sem, Act.put, hsz, s1, s3, s4]) (by simp [go_sem, Act.put, hsz, s1, s3, s4]) hz5 hzf5 hv5) ?_
    refine wpAnyH_done (by kernel_rfl) ?_ _
    subst ha0
    clear hsz s1 s3 s4
    go_simp
    clear hM hC rht hz5 hzf5 hv5
    have hM := hM2
    have hC := hC2
    clear hM2 hC2
    have HS1 := HS0
    clear HS0
    go_upto_region 6 with (fail)
    have HS0 : Hid (w.heap.size ≤ v5.heap.size) := hM.below.size
    replace hC := hC.drew
    replace hT5 : Txs v5.drew w.heap.size (.slice ta5 nx tc5) f.ex := hT5
    refine reg.wp_abs (fun a0 => a0.tmps.size = 35 ∧ (∀ h, a0.tmps[1]'h = .pointer (some ⟨zc, 0, none⟩)) ∧ (∀ h, a0.tmps[3]'h = .int .i64 (k : Int)) ∧ (∀ h, a0.tmps[4]'h = .pointer (some ⟨zf, 0, none⟩))) ⟨rfl, fun _ => rfl, fun _ => rfl, fun _ => rfl⟩ ?_
    rintro a0 ⟨hsz, s1, s3, s4⟩ ha0
    refine reg.wp_region_E (S := fun W => Ls W [(zf, 76, (fcl f (.slice xa nx xc) (.slice ya ny yc))), (zc, 26, (cfl c (.slice (some ⟨fg, 0, none⟩) n gc)))]) (E := fun i => i == 8) (by kernel_rfl) ?_
    replace hM := hM.drew
    refine reg.e_take (i := 0) (.pointer (some ⟨zc, 4, none⟩)) rfl (by kernel_rfl) (by kernel_rfl) (by kernel_rfl) (by kernel_rfl) (fun _ _ _ h => h) (reg.wanted_none rfl) (hM.ls (by simp)) (fun W hW => by simp [execOp, go_sem, Act.put, hsz, s1, s3, s4]) ?_
    refine reg.e_take (i := 1) (.slice (some ⟨fg, 0, none⟩) n gc) rfl (by kernel_rfl) (by kernel_rfl) (by kernel_rfl) (by kernel_rfl) (fun _ _ _ h => h) (reg.wanted_none rfl) (hM.ls (by simp)) (fun W hW => ex_get rfl (by simp [go_sem, Act.put, hsz, s1, s3, s4]) hW.at1 HG1.out) ?_
    refine reg.e_take (i := 2) (.int .i64 (k : Int)) rfl (by kernel_rfl) (by kernel_rfl) (by kernel_rfl) (by kernel_rfl) (fun _ _ _ h => h) (reg.wanted_none rfl) (hM.ls (by simp)) (fun W hW => by simp [execOp, go_sem, Act.put, hsz, s1, s3, s4]) ?_
    refine reg.e_take (i := 3) (.pointer (some ⟨zf, 5, none⟩)) rfl (by kernel_rfl) (by kernel_rfl) (by kernel_rfl) (by kernel_rfl) (fun _ _ _ h => h) (reg.wanted_none rfl) (hM.ls (by simp)) (fun W hW => by simp [execOp, go_sem, Act.put, hsz, s1, s3, s4]) ?_
    refine reg.e_take (i := 4) (.slice ya ny yc) rfl (by kernel_rfl) (by kernel_rfl) (by kernel_rfl) (by kernel_rfl) (fun _ _ _ h => h) (reg.wanted_none rfl) (hM.ls (by simp)) (fun W hW => ex_get rfl (by simp [go_sem, Act.put, hsz, s1, s3, s4]) hW.at0 HG5.out) ?_
    refine reg.e_one 5 (by kernel_rfl) rfl ?_
    refine r_ens (i := 5) rfl (reg.wanted_none rfl) rfl (by simp [go_sem, Act.put, hsz, s1, s3, s4]) (by simp [go_sem, Act.put, hsz, s1, s3, s4]) (HY.out _ hM.below) HYl.out ?_
    intro rvx ru1 rho rhv
    replace hM := hM.call rhv
    have rht := own_mono rho HS0.out
    obtain ⟨ta6, tc6, hvt, _, _⟩ := own_form rho
    rw [HN6.out] at hvt
    subst hvt
    replace hC := hC.below rhv
    have hce := hC.cell (k * 6 + 5) HKM5.out
    obtain ⟨⟨z6, hz6⟩, hzf6⟩ := hce
    obtain ⟨v6, hv6⟩ : ∃ v, ru1.setCell ⟨fg, k * 6 + 5, none⟩ (.slice ta6 ny tc6) = v := ⟨_, rfl⟩
    have hC2 := hC.put5 (x := .slice ta6 ny tc6) HD.out
    have hM2 := hM.row (p := k * 6 + 5) (x := .slice ta6 ny tc6) hC.ge HNE.out
    have hT6 := hC.keepE (p := k * 6 + 5) (x := .slice ta6 ny tc6) rht
    replace hT5 := hC.keepT (p := k * 6 + 5) (x := .slice ta6 ny tc6) (own_below hT5 rhv)
    rw [hv6] at hT5
    rw [hv6] at hC2 hM2 hT6
    clear rho rhv
    refine ⟨hM.ls (by simp), ?_⟩
    refine reg.e_take0 (i := 6) (.pointer (some ⟨fg, k * 6, none⟩)) rfl (by kernel_rfl) (by kernel_rfl) (by kernel_rfl) rfl (fun _ _ _ h => h) (reg.wanted_none rfl) (hM.ls (by simp)) (fun W => by simp [execOp, go_sem, Act.put, hsz, s1, s3, s4, hlt]) ?_
    refine reg.e_take (i := 7) (.pointer (some ⟨fg, k * 6 + 5, none⟩)) rfl (by kernel_rfl) (by kernel_rfl) (by kernel_rfl) (by kernel_rfl) (fun _ _ _ h => h) (reg.wanted_none rfl) (hM.ls (by simp)) (fun W hW => by simp [execOp, go_sem, Act.put, hsz, s1, s3, s4]) ?_
    refine reg.e_leave 8 (by kernel_rfl) rfl ?_
    refine reg.r_skip (i := 8) (w' := v6) rfl (reg.wanted_none rfl) (ex_st rfl (one_ens _ _ _) (by simp [go_sem, Act.put, hsz, s1, s3, s4]) (by simp [go_sem, Act.put, hsz, s1, s3, s4]) hz6 hzf6 hv6) ?_
    refine wpAnyH_done (by kernel_rfl) ?_ _
    subst ha0
    clear hsz s1 s3 s4
    go_simp
    clear hM hC rht hz6 hzf6 hv6
    have hM := hM2
    have hC := hC2
    clear hM2 hC2
    have hMt := hM.tail
    have hlen : (D ++ [(f, Value.slice ta5 nx tc5, Value.slice ta6 ny tc6)]).length = k + 1 := by rw [List.length_append, HD.out]; rfl
    have HLEN : Hid ((D ++ [(f, Value.slice ta5 nx tc5, Value.slice ta6 ny tc6)]).length = k + 1) := hlen
    clear hlen
    repeat' (first | go_values | go_skip | go_guarded | go_step | go_upon | (simp only [Int.not_lt, Int.not_le] at *; go_simp))
    go_roundw
    case rel =>
      refine ⟨k + 1, D ++ [(f, .slice ta5 nx tc5, .slice ta6 ny tc6)], by omega, by go_num, HLEN.out, hMt, ?_, fun q hq => ?_, fun q hq => ?_, ?_⟩
      · have h := hC.row
        rw [HLEN.out, HRR.out, List.append_assoc]
        exact h
      · rcases List.mem_append.1 hq with hq | hq
        · exact hC.tx q hq
        · simp at hq; subst hq; exact hT5
      · rcases List.mem_append.1 hq with hq | hq
        · exact hC.en q hq
        · simp at hq; subst hq; exact hT6
      · rw [HLEN.out, List.map_append, HBB.out, HD.out, List.take_add_one, HLK.out]
        simp
    case measure => simp [intOf]; omega
end Go.Proofs.Ytonheibhbilhhaa.greet
