/- GreetMeets: the walk. -/
import Derived.Test.YtonheibhbilhhaaGreatGreX
import Derived.Test.YtonheibhbilhhaaGreatZCe
import Derived.Test.YtonheibhbilhhaaGreatDescCo
import Derived.Test.YtonheibhbilhhaaGreatZMe
namespace Go.Proofs.YtonheibhbilhhaaGreat.greetMeets
open Go Go.RowKit Go.PlainAid Go.Proofs.YtonheibhbilhhaaGreat.lane Go.Proofs.YtonheibhbilhhaaGreat.desc Go.Proofs.YtonheibhbilhhaaGreat.greet Go.Proofs.YtonheibhbilhhaaGreat.gadget
set_option linter.unusedVariables false
set_option linter.unusedSimpArgs false
set_option maxRecDepth 100000
set_option maxHeartbeats 16000000 in
theorem walk (d : Dv) (c : Cf) (L : FL) (v : Value) (T : List (List Int)) (tv : Value) (x : Int) (vF : Value) (F : List Int) (wx : (Lit.int .i64 x).wf = true) (w : World) (hp : Shr w c L v T tv) (hbig : ∀ t ∈ T, t.length ≤ 1048576) (hF : greet.Ris w vF F) :
  Calls Tryz.prog 3 #[ag (shl d c v tv), .int .i64 x, vF] w fun e w' => e = .returned (.bool true) ∧ Below w.heap.size w w' := by
 have hbg : ∀ t ∈ T, t.length ≤ 17000000000000 := fun t ht => Nat.le_trans (hbig t ht) (by decide)
 obtain ⟨m, hm⟩ : ∃ m, metM d c T x F = m := ⟨_, rfl⟩
 obtain ⟨z, hz⟩ : ∃ z, begE d c T x F = z := ⟨_, rfl⟩
 have HMe : Hid (∀ u, Below w.heap.size w u → Calls Tryz.prog 4 #[ag (shl d c v tv), .int .i64 x, vF] u fun r w' => ∃ u' L', r = .returned (.tuple #[grV m.g u', ag (gdl m.s m.a m.h), .int .i64 (m.n : Int), .int .i64 z]) ∧ Oc u w' u' L' ∧ L'.map Prod.fst = m.g.c.fs ∧ Below u.heap.size u w') := fun u hu => by
  have := meet_any coAll d c L v T tv x vF F u (hp.below hu) (hF.below hu)
  unfold MtP at this
  rw [hm, hz] at this
  exact this
 have HMr : Hid (∀ u, Below w.heap.size w u → Calls Tryz.prog 5 #[ag (shl d c v tv), .int .i64 x, vF] u fun r w' => ∃ u' L', r = .returned (.tuple #[grV m.g u', ag (gdl m.s m.a m.h), .int .i64 (m.n : Int), .int .i64 z]) ∧ Oc u w' u' L' ∧ L'.map Prod.fst = m.g.c.fs ∧ Below u.heap.size u w') := fun u hu => by
  have := met_any (fun s w h => rreadConfig_any s w h) d c L v T tv x vF F u (hp.below hu) hbg (hF.below hu)
  unfold MtP at this
  rw [hm, hz] at this
  exact this
 have HS : Hid (∀ u1 u2 D M u, Rc u u1 m.g.c D → Rc u u2 m.g.c M → Calls Tryz.prog 6 #[grV m.g u1, grV m.g u2] u fun e w' => e = .returned (.bool true) ∧ Below u.heap.size u w') := fun u1 u2 D M u h1 h2 => sameGr_any _ u1 u2 D M u h1 h2
 have HSO : Hid (v.oneCell' = true ∧ tv.oneCell' = true) := ⟨rc_one hp.rc, by obtain ⟨a, c, h, _⟩ := hp.tx; rw [h]; rfl⟩
 obtain ⟨fa, fc, hvf, _⟩ := hF
 have hM := Mo.nil w
 clear hp wx hbig hbg hm hz
 subst hvf
 go_enter Tryz.func3, Tryz.ntmps3
 repeat' (first | (go_big_may; first | (refine v_box rfl rfl rfl ?_; intro u zs hN; replace hM := hM.new hN; clear hN) | (refine v_load rfl rfl row_sheet rfl hM.at0 (Nat.le_refl _) (cut_all rfl) ?_)) | go_values | go_skip | go_guarded | go_step | go_upon | (simp only [Int.not_lt, Int.not_le] at *; go_simp))
 refine (HMe.out _ hM.below).mono ?_
 rintro e1 u1 ⟨u', L', rfl, ho, hD, hb⟩
 have HO : Hid (u'.oneCell' = true) := ho.one
 have HD : Hid (L'.map Prod.fst = m.g.c.fs) := hD
 replace hM := hM.take hb ho
 clear hb ho hD HMe
 repeat' (first | (go_big_may; first | (refine v_alloc rfl zer_greeting rfl ?_; intro u za hN; replace hM := hM.new hN; clear hN) | (refine v_alloc rfl zer_gadget rfl ?_; intro u zb hN; replace hM := hM.new hN; clear hN) | (refine v_fill rfl rfl row_greeting rfl rfl hM.at1 (grl_vs _ HO.out) rfl ?_; intro u hv hc; replace hM := hM.put1 hc hv; clear hv hc) | (refine v_fill rfl rfl row_gadget rfl rfl hM.at0 (gdl_vs _ _ _) rfl ?_; intro u hv hc; replace hM := hM.put0 hc hv; clear hv hc) | (refine v_load rfl rfl row_sheet rfl hM.at2 (Nat.le_refl _) (cut_all rfl) ?_)) | go_values | go_skip | go_guarded | go_step | go_upon | (simp only [Int.not_lt, Int.not_le] at *; go_simp))
 refine (HMr.out _ hM.below).mono ?_
 rintro e2 u2 ⟨u3', M, rfl, hr, hDr, hb⟩
 have HRv : Hid (∀ u, Below u2.heap.size u2 u → Rc u u' m.g.c L') := fun u hu => ((hM.own.rc HD.out).below hb).below hu
 have HRw : Hid (∀ u, Below u2.heap.size u2 u → Rc u u3' m.g.c M) := fun u hu => (hr.rc hDr).below hu
 have HO2 : Hid (u3'.oneCell' = true) := hr.one
 replace hM := hM.call hb
 have hbw := Below.refl u2.heap.size u2
 clear hb hr hDr HMr
 repeat' (first | (go_big_may; first | (refine v_alloc rfl zer_greeting rfl ?_; intro u zh hN; have hzh : Hid (u2.heap.size ≤ zh) := (by show _ ≤ _; rw [hN.at']; exact hbw.size); replace hbw := bsq hbw hN.below; replace hM := hM.new hN; clear hN) | (refine v_alloc rfl zer_gadget rfl ?_; intro u zi hN; have hzi : Hid (u2.heap.size ≤ zi) := (by show _ ≤ _; rw [hN.at']; exact hbw.size); replace hbw := bsq hbw hN.below; replace hM := hM.new hN; clear hN) | (refine v_fill rfl rfl row_greeting rfl rfl hM.at1 (grl_vs _ HO2.out) rfl ?_; intro u hv hc; replace hbw := hc.below _ _ hzh.out hbw; replace hM := hM.put1 hc hv; clear hv hc) | (refine v_fill rfl rfl row_gadget rfl rfl hM.at0 (gdl_vs _ _ _) rfl ?_; intro u hv hc; replace hbw := hc.below _ _ hzi.out hbw; replace hM := hM.put0 hc hv; clear hv hc) | (refine v_load rfl rfl row_greeting rfl hM.at3 (Nat.le_refl _) (cut_all rfl) ?_) | (refine v_load rfl rfl row_greeting rfl hM.at1 (Nat.le_refl _) (cut_all rfl) ?_)) | go_values | go_skip | go_guarded | go_step | go_upon | (simp only [Int.not_lt, Int.not_le] at *; go_simp))
 refine (HS.out u' u3' L' M _ (HRv.out _ hbw) (HRw.out _ hbw)).mono ?_
 rintro e4 u4 ⟨rfl, hb⟩
 replace hM := hM.call hb
 clear hb hbw
 repeat' (first | (go_big_may; first | (refine v_load rfl rfl row_gadget rfl hM.at2 (Nat.le_refl _) (cut_all rfl) ?_) | (refine v_load rfl rfl row_gadget rfl hM.at0 (Nat.le_refl _) (cut_all rfl) ?_) | (refine v_sam rfl rfl (sam_gad _ _ _) rfl rfl ?_)) | go_values | go_skip | go_guarded | go_step | go_upon | (simp only [Int.not_lt, Int.not_le] at *; go_simp))
 go_ret
 exact ⟨rfl, hM.below⟩
end Go.Proofs.YtonheibhbilhhaaGreat.greetMeets
