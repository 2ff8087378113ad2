/- GreetOwn: the walk. -/
import Derived.Test.YtonheibhbilhhabGreZ
import Derived.Test.YtonheibhbilhhabGreL
import Derived.Test.YtonheibhbilhhabGreO
import Derived.Test.YtonheibhbilhhabDescCo
namespace Go.Proofs.Ytonheibhbilhhab.greetOwn
open Go Go.RowKit Go.PlainAid Go.Proofs.Ytonheibhbilhhab.lane Go.Proofs.Ytonheibhbilhhab.desc Go.Proofs.Ytonheibhbilhhab.greet Go.Proofs.Ytonheibhbilhhab.gadget
set_option linter.unusedVariables false
set_option linter.unusedSimpArgs false
set_option maxRecDepth 100000

theorem chk0 : chkS d0 c0 [] = 0 := by decide +kernel
set_option maxHeartbeats 16000000 in
theorem walk (g : Gr) (cv : Value) (L : FL) (s : ByteArray) (ws : s.size ≤ maxLen) (hs : s.size ≤ 140737488351232) (w : World) (hp : Rg w g cv L) (hk : Wt g.c) :
    Calls Try.prog 4 #[grV g cv, .string s] w fun e w' => e = .returned (.bool true) ∧ Below w.heap.size w w' := by
  have HLV : Hid (∀ u, Calls Try.prog 6 #[] u fun e w' => e = .returned (.bool true) ∧ Below u.heap.size u w') := fun u => lives_any coAll u
  have HCp : Hid (∀ u, Below w.heap.size w u → Calls Try.prog 9 #[ag (cfl g.c cv)] u fun e w' => ∃ vf D, e = .returned (ag (cfl g.c vf)) ∧ Oc u w' vf D ∧ D.map Prod.fst = g.c.fs ∧ Below u.heap.size u w') := fun u hu => kcopied_any g.c cv L u (hp.rc.below hu) hk
  have HTl : Hid (∀ u, Below w.heap.size w u → Calls Try.prog 7 #[grV g cv, .string s, .int .i64 0] u (TlP g s 0 u)) := fun u hu => tell_any coAll g cv L s 0 u (hp.rc.below hu) hk ws
  have HSm : Hid (∀ u vf D, Below w.heap.size w u → Rc u vf g.c D → Calls Try.prog 8 #[grV g cv, grV g vf] u fun e w' => e = .returned (.bool true) ∧ Below u.heap.size u w') := fun u vf D hu hr => sameGr_any g cv vf L D u (hp.rc.below hu) hr
  have HBr : Hid (∀ u, Calls Try.prog 11 #[] u fun e w' => e = .returned (ag (shl d0 c0 nilS nilS)) ∧ Below u.heap.size u w') := fun u => bare_any u
  have HCk : Hid (∀ u, Calls Try.prog 10 #[ag (shl d0 c0 nilS nilS)] u fun e w' => e = .returned (.int .i64 0) ∧ Below u.heap.size u w') := fun u => by
    have := check_any d0 c0 [] nilS [] nilS u (shr0 u)
    rw [chk0] at this
    exact this
  have HU : Hid (cv.oneCell' = true) := rc_one hp.rc
  have hM := Mo.nil w
  clear hp hk ws hs
  go_enter Try.func4, Try.ntmps4
  repeat' (first | (go_big_may; first | (refine v_box rfl rfl rfl ?_; intro u zg hN; replace hM := hM.new hN; clear hN) | (refine v_load rfl rfl row_greeting rfl hM.at0 (Nat.le_refl _) (cut_all rfl) ?_) | (refine v_alloc rfl zer_greeting rfl ?_; intro u zb hN; replace hM := hM.new hN; clear hN) | (refine v_fill rfl rfl row_greeting rfl rfl hM.at0 (grl_vs _ HU.out) rfl ?_; intro u hv hc; replace hM := hM.put0 hc hv; clear hv hc) | (refine v_load rfl rfl row_config rfl hM.at1 (of_decide_eq_true rfl) (show _ = cfl g.c cv from rfl) ?_)) | go_values | go_skip | go_guarded | go_step | go_upon | (simp only [Int.not_lt, Int.not_le] at *; go_simp))
  refine (HCp.out _ hM.below).mono ?_
  rintro e1 u1 ⟨vf, D, rfl, ho, hD, hb⟩
  have HV : Hid (vf.oneCell' = true) := ho.one
  have HD : Hid (D.map Prod.fst = g.c.fs) := hD
  replace hM := hM.take hb ho
  clear hb ho hD HCp
  repeat' (first | (go_big_may; first | (refine v_store rfl rfl row_config rfl rfl hM.at0 (cfl_vs _ HV.out) (of_decide_eq_true rfl) (show _ = grl g vf from rfl) ?_; intro u hv hc; replace hM := hM.put0 hc hv; clear hv hc) | (refine v_load rfl rfl row_greeting rfl hM.at1 (Nat.le_refl _) (cut_all rfl) ?_)) | go_values | go_skip | go_guarded | go_step | go_upon | (simp only [Int.not_lt, Int.not_le] at *; go_simp))
  rename World => w1
  have HM1 : Hid (Mo w w1 [(zb, 29, grl g vf), (zg, 29, grl g cv)] vf D) := hM
  refine (HTl.out _ hM.below).mono ?_
  rintro e2 u2 ⟨uf, E, rfl, ho, hD, hb⟩
  obtain ⟨gt, hgt⟩ : ∃ x, tlG g s 0 = x := ⟨_, rfl⟩
  obtain ⟨ne, hne⟩ : ∃ x, nxE g = x := ⟨_, rfl⟩
  rw [hgt, hne]
  clear hM hD hgt hne HTl
  obtain ⟨gf, cf, hvf, hgc, hcf⟩ := own_form ho.row
  subst hvf
  have hM := (Mo.nil w1).take hb ho
  unfold maxLen at hcf
  obtain ⟨m, hm⟩ : ∃ m, E.length = m := ⟨_, rfl⟩
  have HE : Hid (E.length = m) := hm
  rw [hm] at hM hgc ⊢
  clear hb ho hm
  repeat' (first | (go_big_may; first | (refine v_alloc rfl zer_greeting rfl ?_; intro u zh hN; replace hM := hM.new hN; clear hN) | (refine v_fill rfl rfl row_greeting rfl rfl hM.at0 (grl_vs _ rfl) rfl ?_; intro u hv hc; replace hM := hM.put0 hc hv; clear hv hc) | (refine v_get rfl rfl (by first | exact lod_int | exact lod_str | exact lod_fcs | exact lod_err) rfl hM.at0 rfl ?_)) | go_values | go_skip | go_guarded | go_step | go_upon | (simp only [Int.not_lt, Int.not_le] at *; go_simp))
  rename World => w3
  obtain ⟨Df, N, hDg⟩ := hM.own.dg hM.at0 (hM.mm.own _ (.head _)) hM.below
  rw [HE.out] at hDg
  obtain ⟨l, hl⟩ : ∃ l, grl gt (.slice gf m cf) = l := ⟨_, rfl⟩
  have HG : Hid (l[21]? = some (.slice gf m cf)) := by show _ = _; rw [← hl]; rfl
  rw [hl] at hDg
  have HDs : Hid (Dg w1 w3 zh l (.slice gf m cf) m Df N 0) := hDg
  clear hM hDg hl HE
  go_loopw [8, 9, 10, 26] (fun _ _ _ iv wr => ∃ i : Nat, i ≤ m ∧ iv = .int .i64 (i : Int) ∧ Dg w1 wr zh l (.slice gf m cf) m Df N i) (fun _ _ _ iv _ => m - (intOf iv).toNat)
  case atStart => exact ⟨0, Nat.zero_le _, rfl, HDs.out⟩
  case round =>
    obtain ⟨i, hi, rfl, hDs⟩ := hrel
    obtain ⟨wp, rfl⟩ : ∃ wp, wp = wr := ⟨_, rfl⟩
    have HDp : Hid (Dg w1 wp zh l (.slice gf m cf) m Df N i) := hDs
    clear hDs
    by_cases him : i < m
    · obtain ⟨ge, rfl, f4, f5, _⟩ := HDp.out.face him
      obtain ⟨ax, cx, hx, hxc, hxm⟩ := HDp.out.texts him
      obtain ⟨ae, ce, he, hec, hem⟩ := HDp.out.ends him
      have y21 := bx_cell HDp.out.box HG.out
      have hzh := bx_lt HDp.out.box
      rw [hx] at f4
      rw [he] at f5
      obtain ⟨nx, hnx⟩ : ∃ m, (N i).1 = m := ⟨_, rfl⟩
      obtain ⟨nE, hnE⟩ : ∃ m, (N i).2 = m := ⟨_, rfl⟩
      rw [hnx] at f4 hxc
      rw [hnE] at f5 hec
      have HDX : Hid ((Df i).1 = .slice ax (N i).1 cx ∧ (N i).1 = nx) := ⟨hx, hnx⟩
      have HDE : Hid ((Df i).2 = .slice ae (N i).2 ce ∧ (N i).2 = nE) := ⟨he, hnE⟩
      unfold maxLen at hxm hem
      clear hx he hnx hnE
      go_wp2
      clear f4 f5 y21 hzh
      go_loopw [9, 37] (fun _ kv wr => ∃ k : Nat, k ≤ nE ∧ kv = .int .i64 (k : Int) ∧ Dg w1 wr zh l (.slice (some ⟨ge, 0, none⟩) m cf) m Df N i) (fun _ kv _ => nE - (intOf kv).toNat)
      case atStart => exact ⟨0, Nat.zero_le _, rfl, HDp.out⟩
      case round =>
        obtain ⟨k, hk, rfl, hDs⟩ := hrel
        have HDk : Hid (Dg w1 wr zh l (.slice (some ⟨ge, 0, none⟩) m cf) m Df N i) := hDs
        clear hDs
        by_cases hkn : k < nE
        · obtain ⟨g', hg', f4, f5, _⟩ := HDk.out.face him
          injection hg' with hg'
          injection hg' with hg' _ _
          subst hg'
          rw [HDE.out.1, HDE.out.2] at f5
          have y21 := bx_cell HDk.out.box HG.out
          have hzh := bx_lt HDk.out.box
          obtain ⟨gd, rfl, hcell⟩ := HDk.out.endAt him HDE.out.1 (k := k) (by have := HDE.out.2; omega)
          obtain ⟨⟨v0, c0⟩, b0⟩ := hcell 0 (by omega)
          obtain ⟨⟨v1, c1⟩, b1⟩ := hcell 1 (by omega)
          obtain ⟨⟨v2, c2⟩, b2⟩ := hcell 2 (by omega)
          obtain ⟨⟨v3, c3⟩, b3⟩ := hcell 3 (by omega)
          obtain ⟨⟨v4, c4⟩, b4⟩ := hcell 4 (by omega)
          rw [Nat.add_zero] at c0 b0
          have HN5 : Hid (Dg w1 (((((wr.setCell ⟨gd, k * 5, none⟩ (.int .i64 99)).setCell ⟨gd, k * 5 + 1, none⟩ (.bool false)).setCell ⟨gd, k * 5 + 2, none⟩ (.int .i64 0)).setCell ⟨gd, k * 5 + 3, none⟩ (.int .i64 0)).setCell ⟨gd, k * 5 + 4, none⟩ (.int .i64 0)) zh l (.slice (some ⟨ge, 0, none⟩) m cf) m Df N i) :=
            ((((HDk.out.wipeE him HDE.out.1 _ _).wipeE him HDE.out.1 _ _).wipeE him HDE.out.1 _ _).wipeE him HDE.out.1 _ _).wipeE him HDE.out.1 _ _
          clear hcell f4
          go_wp2
          go_roundw
          case rel => exact ⟨k + 1, by omega, by go_num, HN5.out⟩
          case measure => simp [intOf]; omega
        · obtain ⟨wq, rfl⟩ : ∃ wq, wq = wr := ⟨_, rfl⟩
          obtain ⟨g', hg', f4, f5, _⟩ := HDk.out.face him
          injection hg' with hg'
          injection hg' with hg' _ _
          subst hg'
          rw [HDX.out.1, HDX.out.2] at f4
          have y21 := bx_cell HDk.out.box HG.out
          have hzh := bx_lt HDk.out.box
          clear f5
          go_wp2
          clear f4 y21 hzh
          go_loopw [10, 59] (fun _ kv wr => ∃ k : Nat, k ≤ nx ∧ kv = .int .i64 (k : Int) ∧ Dg w1 wr zh l (.slice (some ⟨ge, 0, none⟩) m cf) m Df N i) (fun _ kv _ => nx - (intOf kv).toNat)
          case atStart => exact ⟨0, Nat.zero_le _, rfl, HDk.out⟩
          case round =>
            obtain ⟨k2, hk2, rfl, hDs⟩ := hrel
            have HDj : Hid (Dg w1 wr zh l (.slice (some ⟨ge, 0, none⟩) m cf) m Df N i) := hDs
            clear hDs
            obtain ⟨g', hg', f4, f5, hfc⟩ := HDj.out.face him
            injection hg' with hg'
            injection hg' with hg' _ _
            subst hg'
            have y21 := bx_cell HDj.out.box HG.out
            have hzh := bx_lt HDj.out.box
            by_cases hkn2 : k2 < nx
            · rw [HDX.out.1, HDX.out.2] at f4
              obtain ⟨gt', rfl, ⟨v0, c0⟩, b0⟩ := HDj.out.textAt him HDX.out.1 (k := k2) (by have := HDX.out.2; omega)
              have HN5 : Hid (Dg w1 (wr.setCell ⟨gt', k2, none⟩ (.string ⟨#[115, 112, 111, 105, 108, 116]⟩)) zh l (.slice (some ⟨ge, 0, none⟩) m cf) m Df N i) := HDj.out.wipeT him HDX.out.1 _ _
              clear hfc f5
              go_wp2
              go_roundw
              case rel => exact ⟨k2 + 1, by omega, by go_num, HN5.out⟩
              case measure => simp [intOf]; omega
            · obtain ⟨⟨v0, c0⟩, b0⟩ := hfc 0 (by omega)
              obtain ⟨⟨v1, c1⟩, b1⟩ := hfc 1 (by omega)
              obtain ⟨⟨v2, c2⟩, b2⟩ := hfc 2 (by omega)
              obtain ⟨⟨v3, c3⟩, b3⟩ := hfc 3 (by omega)
              obtain ⟨_, b4⟩ := hfc 4 (by omega)
              obtain ⟨_, b5⟩ := hfc 5 (by omega)
              rw [Nat.add_zero] at c0 b0
              have HN5 : Hid (Dg w1 ((((((wr.setCell ⟨ge, i * 6, none⟩ (.int .i64 0)).setCell ⟨ge, i * 6 + 1, none⟩ (.int .i64 0)).setCell ⟨ge, i * 6 + 2, none⟩ (.int .i64 0)).setCell ⟨ge, i * 6 + 3, none⟩ (.int .i64 99)).setCell ⟨ge, i * 6 + 4, none⟩ (.slice none 0 0)).setCell ⟨ge, i * 6 + 5, none⟩ (.slice none 0 0)) zh l (.slice (some ⟨ge, 0, none⟩) m cf) m Df N (i + 1)) :=
                ((((((HDj.out.up (Nat.le_succ i)).setF _ (by omega) _).setF _ (by omega) _).setF _ (by omega) _).setF _ (by omega) _).setF _ (by omega) _).setF _ (by omega) _
              clear hfc
              go_wp2
              go_roundw
              case rel => exact ⟨i + 1, by omega, by go_num, HN5.out⟩
              case measure => simp [intOf]; omega
    · have hM := HM1.out.call HDp.out.bel
      clear HDp HDs HM1
      repeat' (first | go_values | go_skip | go_guarded | go_step | go_upon | (simp only [Int.not_lt, Int.not_le] at *; go_simp))
      refine (HLV.out _).mono ?_
      rintro e3 u3 ⟨rfl, hb⟩
      replace hM := hM.call hb
      clear hb
      repeat' (first | (go_big_may; first | (refine v_load rfl rfl row_greeting rfl hM.at1 (Nat.le_refl _) (cut_all rfl) ?_) | (refine v_load rfl rfl row_greeting rfl hM.at0 (Nat.le_refl _) (cut_all rfl) ?_)) | go_values | go_skip | go_guarded | go_step | go_upon | (simp only [Int.not_lt, Int.not_le] at *; go_simp))
      refine (HSm.out _ vf D hM.below (hM.own.rc HD.out)).mono ?_
      rintro e4 u4 ⟨rfl, hb⟩
      replace hM := hM.call hb
      clear hb
      repeat' (first | go_values | go_skip | go_guarded | go_step | go_upon | (simp only [Int.not_lt, Int.not_le] at *; go_simp))
      refine (HBr.out _).mono ?_
      rintro e5 u5 ⟨rfl, hb⟩
      replace hM := hM.call hb
      clear hb
      repeat' (first | go_values | go_skip | go_guarded | go_step | go_upon | (simp only [Int.not_lt, Int.not_le] at *; go_simp))
      refine (HCk.out _).mono ?_
      rintro e6 u6 ⟨rfl, hb⟩
      replace hM := hM.call hb
      clear hb
      repeat' (first | go_values | go_skip | go_guarded | go_step | go_upon | (simp only [Int.not_lt, Int.not_le] at *; go_simp))
      go_ret
      exact ⟨rfl, hM.below⟩
end Go.Proofs.Ytonheibhbilhhab.greetOwn
