/- GreetOwn: what plugkeep's copied answers. -/
import Derived.Test.YtonheibhbilhhabGreY
import Derived.Test.YtonheibhbilhhabGreI
import Derived.Test.YtonheibhbilhhabGreR
namespace Go.Proofs.Ytonheibhbilhhab.greet
open Go Go.RowKit Go.PlainAid Go.Proofs.Ytonheibhbilhhab.lane Go.Proofs.Ytonheibhbilhhab.desc
set_option linter.unusedVariables false
set_option linter.unusedSimpArgs false
set_option maxRecDepth 100000

theorem bld_cf (c : Cf) (w : World) : (Instr.build 26 #[(0, .int .i64 c.va), (1, .int .i64 c.na), (2, .int .i64 c.atr), (3, .int .i64 c.po)]).run Try.prog w = .ok (ag (cfl c nilS)) w := by kernel_rfl
theorem bs_face (f : Fc) (a b : Option Addr) (n m c d : Nat) (w : World) : (Instr.buildSlice 24 1 #[(0, ag (fcl f (.slice a n c) (.slice b m d)))]).run Try.prog w = .ok (.slice (some ⟨w.heap.size, 0, none⟩) 1 1) (w.alloc (bx 42 (fcl f (.slice a n c) (.slice b m d)))) := by kernel_rfl
/-- the cells of face k -/
theorem face_read {w : World} {g off n cap k : Nat} {L : FL} (h : Rfs w (.slice (some ⟨g, off, none⟩) n cap) L) {q : Fc × Value × Value} (hq : L[k]? = some q) : w.rangeAt g (off + k * 6) (fcl q.1 q.2.1 q.2.2) := fun j v hv => by
  obtain ⟨a, c, e, _, _, _, h4⟩ := h.row
  have hl := (List.getElem?_eq_some_iff.1 hq).1
  obtain ⟨g', off', e', hg, hc⟩ := h4 (by omega)
  subst e'
  injection e with e _ _
  injection e with e
  injection e with e1 e2 _
  subst e1 e2
  have hj : j < 6 := (List.getElem?_eq_some_iff.1 hv).1
  have h5 := hc (k * 6 + j) v (fcells_at L k q hq j v (by simpa [fcl, fcell] using hv))
  rw [Nat.add_assoc]; exact h5
set_option maxHeartbeats 8000000 in
theorem kcopied_any (c : Cf) (vc : Value) (L : FL) (w : World) (hc : Rc w vc c L) (hw : Wt c) :
    Calls Try.prog 9 #[ag (cfl c vc)] w fun e w' => ∃ vf D, e = .returned (ag (cfl c vf)) ∧ Oc w w' vf D ∧ D.map Prod.fst = c.fs ∧ Below w.heap.size w w' := by
  have HR : Hid (∀ u, Below w.heap.size w u → Rfs u vc L) := fun u hu => hc.fs.below hu
  have HE : Hid (L.map Prod.fst = c.fs) := hc.eq
  have hl : L.length * 80 ≤ 140737488351232 := by have := hw.fs; rw [← hc.eq, List.length_map] at this; exact this
  have HWt : Hid (∀ q ∈ L, q.1.ex.length * 16 ≤ 140737488351232 ∧ q.1.en.length * 40 ≤ 140737488351232) := fun q hq => hw.each q.1 (by rw [← hc.eq]; exact List.mem_map.2 ⟨q, hq, rfl⟩)
  obtain ⟨fa, fcap, hvc, hfc1, hfc2, _⟩ := hc.fs.cell
  subst hvc
  have hM := Mo.nil w
  obtain ⟨n, hn⟩ : ∃ n, L.length = n := ⟨_, rfl⟩
  have HN : Hid (L.length = n) := hn
  have HL : Hid (L.length * 80 ≤ 140737488351232) := hl
  unfold maxLen at hfc2
  have HA0 : Hid (0 < n → ∃ g off, fa = some ⟨g, off, none⟩) := fun q => by
    obtain ⟨a, c', e, _, _, _, h4⟩ := hc.fs.row
    obtain ⟨g, off, e', _⟩ := h4 (by omega)
    injection e with e _ _
    exact ⟨g, off, e.trans e'⟩
  rw [hn] at HR hfc1 ⊢
  clear hc hw hl hn
  go_enter Try.func9, Try.ntmps9
  repeat' (first | (go_big_may; first | (refine v_box rfl rfl rfl ?_; intro u zc hN; replace hM := hM.new hN; clear hN) | (refine v_alloc rfl zer_config rfl ?_; intro u zr hN; have hM2 : Mo w u [(zr, 26, cfl noC nilS), (zc, 26, cfl c (.slice fa n fcap))] nilS [] := hM.new hN; replace hM := hM2; clear hN hM2) | (refine v_get rfl rfl (by first | exact lod_int | exact lod_str | exact lod_fcs | exact lod_err) rfl hM.at1 rfl ?_) | (refine v_build rfl rfl (bld_cf c) ?hbv ?_; (case hbv => simp [Act.eval, Act.put])) | (refine v_alloc rfl zer_config rfl ?_; intro u zo hN; replace hM := hM.new hN; clear hN) | (refine v_fill rfl rfl row_config rfl rfl hM.at0 (cfl_vs c rfl) rfl ?_; intro u hv hc; replace hM := hM.put0 hc hv; clear hv hc) | (refine v_get rfl rfl (by first | exact lod_int | exact lod_str | exact lod_fcs | exact lod_err) rfl hM.at2 rfl ?_)) | go_values | go_skip | go_guarded | go_step | go_upon | (simp only [Int.not_lt, Int.not_le] at *; go_simp))
  go_loopw [5, 18] (fun _ i wr => ∃ (k : Nat) (vf : Value) (D : FL), k ≤ n ∧ i = .int .i64 (k : Int) ∧ Hid (D.length = k ∧ Mo w wr [(zo, 26, cfl c vf), (zr, 26, cfl noC nilS), (zc, 26, cfl c (.slice fa n fcap))] vf D ∧ D.map Prod.fst = (L.take k).map Prod.fst)) (fun _ i _ => n - (intOf i).toNat)
  case atStart => exact ⟨0, nilS, [], Nat.zero_le _, rfl, rfl, hM, rfl⟩
  case round =>
    clear hM
    obtain ⟨k, vf, D, hk, rfl, HA⟩ := hrel
    have HD : Hid (D.length = k) := HA.out.1
    have hM := HA.out.2.1
    have HB : Hid (D.map Prod.fst = (L.take k).map Prod.fst) := HA.out.2.2
    have HV : Hid (vf.oneCell' = true) := hM.own.one
    clear HA
    by_cases hlt : ¬ k < n
    · have HEQ : Hid (D.map Prod.fst = c.fs) := by
        show _ = _
        rw [HB.out, List.take_of_length_le (by have := HN.out; omega)]; exact HE.out
      repeat' (first | (go_big_may; first | (refine v_load rfl rfl row_config rfl hM.at0 (Nat.le_refl _) (cut_all rfl) ?_) | (refine v_fill rfl rfl row_config rfl rfl hM.at1 (cfl_vs c HV.out) rfl ?_; intro u hv hc; replace hM := hM.put1 hc hv; clear hv hc)) | go_values | go_skip | go_guarded | go_step | go_upon | (simp only [Int.not_lt, Int.not_le] at *; go_simp))
      exact bodyPost_ret (ret_1 rfl rfl (ld_var row_config hM.at1 rfl)) rfl ⟨vf, D, rfl, hM.own, HEQ.out, hM.below⟩
    have hlt : k < n := by omega
    obtain ⟨g, off, rfl⟩ := HA0.out (by omega)
    have hk1 : k < L.length := by have := HN.out; omega
    obtain ⟨q, hq⟩ : ∃ q, L[k]? = some q := ⟨L[k], List.getElem?_eq_getElem hk1⟩
    have hrng := face_read (HR.out _ hM.below) hq
    have hrq := (HR.out _ hM.below).all q (List.mem_of_getElem? hq)
    have hwq := HWt.out q (List.mem_of_getElem? hq)
    have HLK : Hid (L[k]? = some q) := hq
    obtain ⟨f, ve, vd⟩ := q
    have HBB : Hid (BB f.ex ∧ ∀ x ∈ f.ex, x.length ≤ maxLen) := ⟨hrq.bb, hrq.sz⟩
    obtain ⟨xa, nx, xc, hxe⟩ : ∃ a n c, ve = .slice a n c := by obtain ⟨a, c, h, _⟩ := hrq.ex; exact ⟨_, _, _, h⟩
    obtain ⟨ya, ny, yc, hye⟩ : ∃ a n c, vd = .slice a n c := by obtain ⟨a, c, h, _⟩ := hrq.en; exact ⟨_, _, _, h⟩
    subst hxe hye
    have HX : Hid (∀ u, Below wr.heap.size wr u → Rts u (.slice xa nx xc) f.ex) := fun u hu => hrq.ex.below hu
    have HY : Hid (∀ u, Below wr.heap.size wr u → Rns u (.slice ya ny yc) f.en) := fun u hu => hrq.en.below hu
    have HXl : Hid (f.ex.length * 16 ≤ 140737488351232) := hwq.1
    have HYl : Hid (f.en.length * 40 ≤ 140737488351232) := hwq.2
    have HM0 : Hid (Mo w wr [(zo, 26, cfl c vf), (zr, 26, cfl noC nilS), (zc, 26, cfl c (.slice (some ⟨g, off, none⟩) n fcap))] vf D) := hM
    have HS0 : Hid (w.heap.size ≤ wr.heap.size) := hM.below.size
    clear hM hrq hwq hq hk1
    have hM := Mm.nil wr
    go_upto_region 5 with (first | (go_big_may; first | (refine v_ldR rfl rfl row_face rfl hrng rfl ?_) | (refine v_alloc rfl zer_face rfl ?_; intro u zf hN; replace hM := hM.new hN; clear hN) | (refine v_fill rfl rfl row_face rfl rfl hM.at0 (fcl_vs _ _ _ _ _ _ _) rfl ?_; intro u hv hcg; replace hM := hM.put0 hcg hv; clear hv hcg)))
    have HS1 : Hid (∀ u, Below wr.heap.size wr u → w.heap.size ≤ u.heap.size) := fun u hu => Nat.le_trans HS0.out hu.size
    have HN5 : Hid (f.ex.length = nx) := by obtain ⟨a, c, h, _⟩ := HX.out wr (Below.refl _ _); injection h with _ h _; exact h.symm
    have HN6 : Hid (f.en.length = ny) := by obtain ⟨a, c, h, _⟩ := HY.out wr (Below.refl _ _); injection h with _ h _; exact h.symm
    have HG4 : Hid ((fcl f (.slice xa nx xc) (.slice ya ny yc))[4]? = some (.slice xa nx xc)) := rfl
    have HG5 : Hid ((fcl f (.slice xa nx xc) (.slice ya ny yc))[5]? = some (.slice ya ny yc)) := rfl
    clear hrng
    refine reg.wp_abs (fun a0 => a0.tmps.size = 38 ∧ (∀ h, a0.tmps[5]'h = .pointer (some ⟨zf, 0, none⟩))) ⟨rfl, fun _ => rfl⟩ ?_
    rintro a0 ⟨hsz, s5⟩ ha0
    refine reg.wp_region_E (S := fun W => Ls W [(zf, 42, (fcl f (.slice xa nx xc) (.slice ya ny yc)))]) (E := fun i => i == 7 || i == 9) (by kernel_rfl) ?_
    replace hM := hM.drew
    refine reg.e_take (i := 0) (.pointer (some ⟨zf, 4, none⟩)) rfl (by kernel_rfl) (by kernel_rfl) (by kernel_rfl) (by kernel_rfl) (fun _ _ _ h => h) (reg.wanted_none rfl) (hM.ls (by simp)) (fun W hW => by simp [execOp, go_sem, Act.put, hsz, s5]) ?_
    refine reg.e_take (i := 1) (.slice xa nx xc) rfl (by kernel_rfl) (by kernel_rfl) (by kernel_rfl) (by kernel_rfl) (fun _ _ _ h => h) (reg.wanted_none rfl) (hM.ls (by simp)) (fun W hW => ex_get rfl (by simp [go_sem, Act.put, hsz, s5]) hW.at0 HG4.out) ?_
    refine reg.e_take (i := 3) (.pointer (some ⟨zf, 5, none⟩)) rfl (by kernel_rfl) (by kernel_rfl) (by kernel_rfl) (by kernel_rfl) (fun _ _ _ h => h) (reg.wanted_none rfl) (hM.ls (by simp)) (fun W hW => by simp [execOp, go_sem, Act.put, hsz, s5]) ?_
    refine reg.e_take (i := 4) (.slice ya ny yc) rfl (by kernel_rfl) (by kernel_rfl) (by kernel_rfl) (by kernel_rfl) (fun _ _ _ h => h) (reg.wanted_none rfl) (hM.ls (by simp)) (fun W hW => ex_get rfl (by simp [go_sem, Act.put, hsz, s5]) hW.at0 HG5.out) ?_
    refine reg.e_one 2 (by kernel_rfl) rfl ?_
    refine r_txs (i := 2) rfl (reg.wanted_none rfl) rfl (by simp [go_sem, Act.put, hsz, s5]) (by simp [go_sem, Act.put, hsz, s5]) (HX.out _ hM.below) HXl.out ?_
    intro rvx ru1 rho rhv
    have rhS := hM.below.size
    replace hM := hM.call rhv
    have hT := own_mono rho (Nat.le_trans HS0.out rhS)
    obtain ⟨ta5, tc5, hvt, _, _⟩ := own_form rho
    rw [HN5.out] at hvt
    subst hvt
    clear rho rhv rhS
    refine ⟨hM.ls (by simp), ?_⟩
    refine reg.e_take (i := 6) (.pointer (some ⟨zf, 4, none⟩)) rfl (by kernel_rfl) (by kernel_rfl) (by kernel_rfl) (by kernel_rfl) (fun _ _ _ h => h) (reg.wanted_none rfl) (hM.ls (by simp)) (fun W hW => by simp [execOp, go_sem, Act.put, hsz, s5]) ?_
    refine reg.e_one 5 (by kernel_rfl) rfl ?_
    refine r_ens (i := 5) rfl (reg.wanted_none rfl) rfl (by simp [go_sem, Act.put, hsz, s5]) (by simp [go_sem, Act.put, hsz, s5]) (HY.out _ hM.below) HYl.out ?_
    intro rvx ru2 rho rhv
    have rhS := hM.below.size
    replace hM := hM.call rhv
    replace hT := own_below hT rhv
    have hE := own_mono rho (Nat.le_trans HS0.out rhS)
    obtain ⟨ta6, tc6, hvt, _, _⟩ := own_form rho
    rw [HN6.out] at hvt
    subst hvt
    clear rho rhv rhS
    refine ⟨hM.ls (by simp), ?_⟩
    refine reg.e_leave 7 (by kernel_rfl) rfl ?_
    refine r_put (i := 7) (j := 4) rfl (reg.wanted_none rfl) rfl (one_txs _ _ _) (by simp [go_sem, Act.put, hsz, s5]) (by simp [go_sem, Act.put, hsz, s5]) hM.at0 (of_decide_eq_true rfl) (show _ = (fcl f (.slice ta5 nx tc5) (.slice ya ny yc)) from rfl) ?_
    intro ru3 rhv rhc
    have rhB := hM.at0
    replace hM := hM.put0 rhc rhv
    replace hT := own_chg hT rhc rhB (by decide)
    replace hE := own_chg hE rhc rhB (by decide)
    clear rhc rhv rhB
    refine reg.t_take (i := 8) (.pointer (some ⟨zf, 5, none⟩)) rfl (by kernel_rfl) (by kernel_rfl) (by kernel_rfl) (fun _ _ _ h => h) (reg.wanted_none rfl) (fun W => by simp [execOp, go_sem, Act.put, hsz, s5]) ?_
    refine reg.t_one 9 (by kernel_rfl) ?_
    refine r_put (i := 9) (j := 5) rfl (reg.wanted_none rfl) rfl (one_ens _ _ _) (by simp [go_sem, Act.put, hsz, s5]) (by simp [go_sem, Act.put, hsz, s5]) hM.at0 (of_decide_eq_true rfl) (show _ = (fcl f (.slice ta5 nx tc5) (.slice ta6 ny tc6)) from rfl) ?_
    intro ru4 rhv rhc
    have rhB := hM.at0
    replace hM := hM.put0 rhc rhv
    replace hT := own_chg hT rhc rhB (by decide)
    replace hE := own_chg hE rhc rhB (by decide)
    clear rhc rhv rhB
    refine wpAnyH_done (by kernel_rfl) ?_ _
    subst ha0
    clear hsz s5
    go_simp
    have hM0 := HM0.out.call hM.below
    have hzf := hM.at0
    have HNE : Hid (∀ y ∈ ([(zo, 26, cfl c vf), (zr, 26, cfl noC nilS), (zc, 26, cfl c (.slice (some ⟨g, off, none⟩) n fcap))] : List Bk), vf.ownBlock ≠ some y.1) := hM0.ne
    have HKD : Hid (∀ y ∈ ([(zo, 26, cfl c vf), (zr, 26, cfl noC nilS), (zc, 26, cfl c (.slice (some ⟨g, off, none⟩) n fcap))] : List Bk), Kd y.2.1) := hM0.kd
    have HLn : Hid ((D.length + 1) * 80 ≤ 140737488355328) := by show _ ≤ _; have h1 := HD.out; have h2 := HL.out; have h3 := HN.out; omega
    clear hM HM0 HX HY HG4 HG5 HN5 HN6 HXl HYl HS0
    go_upto_region 6 with (fail)
    iterate 12 (first | (go_big_may; first | (refine v_get rfl rfl lod_fcs rfl hM0.at0 rfl ?_) | (refine v_load rfl rfl row_face rfl hzf (Nat.le_refl _) (cut_all rfl) ?_) | (refine v_bsN rfl rfl (bs_face f ta5 ta6 nx ny tc5 tc6) ?hbv ?_; (case hbv => simp [Act.eval, Act.put]); intro u5 zt hN; have hM1 := hM0.mm.call hN.below; have hO1 := hM0.own.below hN.below; have hT1 := own_below hT hN.below; have hE1 := own_below hE hN.below; have hz1 := hN.lies; clear hN hM0 hT hE hzf) | (refine v_fc1 rfl rfl rfl rfl hM1 hO1 (q := (f, .slice ta5 nx tc5, .slice ta6 ny tc6)) hz1 hT1 hE1 HBB.out HLn.out HNE.out ?_; intro v6 u6 hO2 hM2; obtain ⟨a6, c6, hv6, _, _⟩ := own_form hO2.row; subst hv6; have hM : Mo _ _ _ _ _ := ⟨hM2, hO2, HKD.out⟩; clear hO2 hM2 hM1 hO1 hT1 hE1 hz1) | (refine v_put (j := 4) rfl rfl (one_fcs _ _ _) rfl rfl hM.at0 (of_decide_eq_true rfl) ?_; intro u hv hcg; replace hM := hM.put0 hcg hv; clear hv hcg)) | go_values | go_step)
    have hlen : (D ++ [(f, Value.slice ta5 nx tc5, Value.slice ta6 ny tc6)]).length = k + 1 := by rw [List.length_append, HD.out]; rfl
    have HMp : Hid ((D ++ [(f, Value.slice ta5 nx tc5, Value.slice ta6 ny tc6)]).map Prod.fst = (L.take (k + 1)).map Prod.fst) := by
      show _ = _
      rw [List.map_append, HB.out, List.take_add_one, HLK.out]
      simp
    rename World => u9
    have hM4 : Mo w u9 [(zo, 26, cfl c (.slice a6 (D.length + 1) c6)), (zr, 26, cfl noC nilS), (zc, 26, cfl c (.slice (some ⟨g, off, none⟩) n fcap))] (.slice a6 (D.length + 1) c6) (D ++ [(f, Value.slice ta5 nx tc5, Value.slice ta6 ny tc6)]) := by
      have h := hM
      rw [List.length_append] at h
      exact h
    clear hM
    have hM := hM4
    clear hM4
    repeat' (first | go_values | go_skip | go_guarded | go_step | go_upon | (simp only [Int.not_lt, Int.not_le] at *; go_simp))
    go_roundw
    case rel => exact ⟨k + 1, _, _, by omega, by go_num, hlen, hM, HMp.out⟩
    case measure => simp [intOf]; omega
end Go.Proofs.Ytonheibhbilhhab.greet
