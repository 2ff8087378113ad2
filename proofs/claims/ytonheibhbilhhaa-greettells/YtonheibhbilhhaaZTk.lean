/- GreetTells: the walk. -/
import Derived.Test.YtonheibhbilhhaaZTi
import Derived.Test.YtonheibhbilhhaaDescPd
import Derived.Test.YtonheibhbilhhaaDescCo
import Derived.Test.YtonheibhbilhhaaZTj
namespace Go.Proofs.Ytonheibhbilhhaa.greetTells
open Go Go.RowKit Go.PlainAid Go.Proofs.Ytonheibhbilhhaa.lane Go.Proofs.Ytonheibhbilhhaa.desc Go.Proofs.Ytonheibhbilhhaa.greet
set_option linter.unusedVariables false
set_option linter.unusedSimpArgs false
set_option maxRecDepth 100000

set_option maxHeartbeats 16000000 in
theorem walk (g : Gr) (cv : Value) (L : FL) (s : ByteArray) (e : Int) (ws : s.size ≤ maxLen) (we : (Lit.int .i64 e).wf = true) (hs : s.size ≤ 140737488351232) (w : World) (hp : Rg w g cv L) (hk : Wt g.c) :
    Calls Try.prog 4 #[grV g cv, .string s, .int .i64 e] w fun e w' => e = .returned (.bool true) ∧ Below w.heap.size w w' := by
  have HTl : Hid (∀ u, Below w.heap.size w u → Calls Try.prog 14 #[grV g cv, .string s, .int .i64 e] u (TlP g s e u)) := fun u hu => tell_any coAll g cv L s e u (hp.rc.below hu) hk ws
  have HTr : Hid (∀ u, Below w.heap.size w u → Calls Try.prog 15 #[grV g cv, .string s, .int .i64 e] u (TrP g s e u)) := fun u hu => told_any (fun s w h => rreadConfig_any s w h) g cv L s e u (hp.rc.below hu) ws
  have HS : Hid (∀ u1 u2 D M u, Rc u u1 (tlG g s e).c D → Rc u u2 (tlG g s e).c M → Calls Try.prog 13 #[grV (tlG g s e) u1, grV (tlG g s e) u2] u fun e w' => e = .returned (.bool true) ∧ Below u.heap.size u w') := fun u1 u2 D M u h1 h2 => sameGr_any _ u1 u2 D M u h1 h2
  have HU : Hid (cv.oneCell' = true) := rc_one hp.rc
  have hM := Mo.nil w
  clear hp hk ws we hs
  go_enter Try.func4, Try.ntmps4
  repeat' (first | (go_big_may; first | (refine v_box rfl rfl rfl ?_; intro u zg hN; replace hM := hM.new hN; clear hN) | (refine v_load rfl rfl row_greeting rfl hM.at0 (Nat.le_refl _) (cut_all rfl) ?_)) | go_values | go_skip | go_guarded | go_step | go_upon | (simp only [Int.not_lt, Int.not_le] at *; go_simp))
  refine (HTl.out _ hM.below).mono ?_
  rintro e1 u1 ⟨u', L', rfl, ho, hD, hb⟩
  have HO : Hid (u'.oneCell' = true) := ho.one
  have HD : Hid (L'.map Prod.fst = (tlG g s e).c.fs) := hD
  replace hM := hM.take hb ho
  clear hb ho hD HTl
  repeat' (first | (go_big_may; first | (refine v_alloc rfl zer_greeting rfl ?_; intro u za hN; replace hM := hM.new hN; clear hN) | (refine v_fill rfl rfl row_greeting rfl rfl hM.at0 (grl_vs _ HO.out) rfl ?_; intro u hv hc; replace hM := hM.put0 hc hv; clear hv hc) | (refine v_load rfl rfl row_greeting rfl hM.at1 (Nat.le_refl _) (cut_all rfl) ?_)) | go_values | go_skip | go_guarded | go_step | go_upon | (simp only [Int.not_lt, Int.not_le] at *; go_simp))
  refine (HTr.out _ hM.below).mono ?_
  rintro e2 u2 ⟨u3', M, rfl, hr, hb⟩
  have HRv : Hid (∀ u, Below u2.heap.size u2 u → Rc u u' (tlG g s e).c L') := fun u hu => ((hM.own.rc HD.out).below hb).below hu
  have HRw : Hid (∀ u, Below u2.heap.size u2 u → Rc u u3' (tlG g s e).c M) := fun u hu => hr.below hu
  have HO2 : Hid (u3'.oneCell' = true) := rc_one hr
  replace hM := hM.call hb
  have hbw := Below.refl u2.heap.size u2
  clear hb hr HTr
  repeat' (first | (go_big_may; first | (refine v_alloc rfl zer_greeting rfl ?_; intro u zh hN; have hzh : Hid (u2.heap.size ≤ zh) := (by show _ ≤ _; rw [hN.at']; exact hbw.size); replace hbw := bsq hbw hN.below; replace hM := hM.new hN; clear hN) | (refine v_fill rfl rfl row_greeting rfl rfl hM.at0 (grl_vs _ HO2.out) rfl ?_; intro u hv hc; replace hbw := hc.below _ _ hzh.out hbw; replace hM := hM.put0 hc hv; clear hv hc) | (refine v_load rfl rfl row_greeting rfl hM.at0 (Nat.le_refl _) (cut_all rfl) ?_) | (refine v_load rfl rfl row_greeting rfl hM.at1 (Nat.le_refl _) (cut_all rfl) ?_)) | go_values | go_skip | go_guarded | go_step | go_upon | (simp only [Int.not_lt, Int.not_le] at *; go_simp))
  refine (HS.out u' u3' L' M _ (HRv.out _ hbw) (HRw.out _ hbw)).mono ?_
  rintro e4 u4 ⟨rfl, hb⟩
  replace hM := hM.call hb
  clear hb hbw
  repeat' (first | go_values | go_skip | go_guarded | go_step | go_upon | (simp only [Int.not_lt, Int.not_le] at *; go_simp))
  go_ret
  exact ⟨rfl, hM.below⟩
end Go.Proofs.Ytonheibhbilhhaa.greetTells
