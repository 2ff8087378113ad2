/- GadgetShort: the walk. -/
import Derived.Test.YtebaepkghbihkaaZGadN
import Derived.Test.YtebaepkghbihkaaZGadX
namespace Go.Proofs.Ytebaepkghbihkaa.gadgetShort
open Go.RowKit Go.PlainAid Go.Proofs.Ytebaepkghbihkaa.desc Go.Proofs.Ytebaepkghbihkaa.gadget
open Go.Proofs.Ytebaepkghbihkaa.setup (rK rN rC askc good wrT wrC)
set_option linter.unusedVariables false
set_option linter.unusedSimpArgs false
theorem str8 (k v i l : Int) : (strOfNums (setup.txt k v i l)).size = 8 := by rw [lane.str_size]; rfl
set_option maxRecDepth 100000 in
set_option maxHeartbeats 16000000 in
theorem walk (d : Dv) (c : Cf) (L : FL) (v : Value) (T : List (List Int)) (tv : Value) (s a h : Int) (vl fw mr : Int) (wv : (Lit.int .i64 vl).wf = true) (wf : (Lit.int .i64 fw).wf = true) (wm : (Lit.int .i64 mr).wf = true) (w : World) (hs : Shr w c L v T tv) :
    Calls Try.prog 6 #[shV d c v tv, gdV s a h, .int .i64 vl, .int .i64 fw, .int .i64 mr] w fun e w' => e = .returned (.bool true) ∧ Below w.heap.size w w' := by
  obtain ⟨w1, hw1, hS1, hb1⟩ := ShC.named w d c v tv
  obtain ⟨w2, hw2, hG2, hb2⟩ := gd_named w1 s a h
  have z1 : w.heap.size < w1.heap.size := (Array.getElem?_eq_some_iff.1 hS1).1
  have z2 : w1.heap.size < w2.heap.size := (Array.getElem?_eq_some_iff.1 hG2).1
  have HS : Hid (∀ u : World, Below w2.heap.size w2 u → u.heap[w.heap.size]? = some (shO d c v tv)) := fun u hu => keep (keep hS1 hb2) hu
  have HG : Hid (∀ u : World, Below w2.heap.size w2 u → u.heap[w1.heap.size]? = some (gdO s a h)) := fun u hu => keep hG2 hu
  have HB2 : Hid (Below w.heap.size w w2) := bsq hb1 hb2
  have HSr : Hid (∀ u : World, Below w2.heap.size w2 u → Shr u c L v T tv) := fun u hu => hs.below (bsq hb1 (bsq hb2 hu))
  obtain ⟨fa, fn, fcp, rfl⟩ : ∃ a n c, v = .slice a n c := by obtain ⟨a, c, h, _⟩ := hs.rc.fs.row; exact ⟨_, _, _, h⟩
  obtain ⟨ta, tn, tcp, rfl⟩ : ∃ a n c, tv = .slice a n c := by obtain ⟨a, c, h, _⟩ := hs.tx; exact ⟨_, _, _, h⟩
  have HL : Hid (∀ u : World, Calls Try.prog 13 #[] u fun e w' => e = .returned (.bool true) ∧ Below u.heap.size u w') := gadgetLives_any
  by_cases hbad : fw < 0 ∨ mr < fw ∨ 65535 < mr ∨ vl < 0 ∨ 65535 < vl
  · clear hs hb1 hb2 hS1 hG2 HSr HS HG
    have hp : fw < 0 ∨ (¬ fw < 0 ∧ mr < fw) ∨ (¬ fw < 0 ∧ ¬ mr < fw ∧ 65535 < mr) ∨ (¬ fw < 0 ∧ ¬ mr < fw ∧ ¬ 65535 < mr ∧ vl < 0) ∨ (¬ fw < 0 ∧ ¬ mr < fw ∧ ¬ 65535 < mr ∧ ¬ vl < 0 ∧ 65535 < vl) := by omega
    clear hbad wv wf wm
    rcases hp with p1 | ⟨p1, p2⟩ | ⟨p1, p2, p3⟩ | ⟨p1, p2, p3, p4⟩ | ⟨p1, p2, p3, p4, p5⟩
    all_goals
      go_enter Try.func6, Try.ntmps6
      go_wp2_with fail
      refine (HL.out _).mono ?_
      rintro e u ⟨rfl, hb⟩
      have HB : Hid (Below w.heap.size w u) := bsq HB2.out hb
      clear hb
      go_wp2
      go_ret
      exact ⟨rfl, HB.out⟩
  have p1 : ¬ fw < 0 := by omega
  have p2 : ¬ mr < fw := by omega
  have p3 : ¬ 65535 < mr := by omega
  have p4 : ¬ vl < 0 := by omega
  have p5 : ¬ 65535 < vl := by omega
  have hg1 : good 5 vl 0 fw = true := good_desc (by omega) (by omega) (by omega) (by omega) (by omega) (by omega)
  have hg2 : good 5 vl 9 mr = true := good_desc (by omega) (by omega) (by omega) (by omega) (by omega) (by omega)
  have hmA : (wrT 5 vl 0 fw).size ≤ maxLen := by unfold wrT; split <;> simp [str8, maxLen]
  have HCA : Hid (∀ u : World, Below w2.heap.size w2 u → Calls Try.prog 11 #[shV d c (.slice fa fn fcp) (.slice ta tn tcp), gdV s a h, .string (wrT 5 vl 0 fw)] u fun e w' => e = .returned (ansV (ctl d c T s a h (wrT 5 vl 0 fw))) ∧ Below u.heap.size u w') := fun u hu => control_any d c L _ T _ s a h _ u (HSr.out u hu) hmA
  obtain ⟨A, hA⟩ : ∃ Y, ctl d c T s a h (wrT 5 vl 0 fw) = Y := ⟨_, rfl⟩
  have HYA : Hid (ctl d c T s a h (wrT 5 vl 0 fw) = A) := hA
  rw [hA] at HCA
  clear hA hmA
  have hmB : (wrT 5 vl 9 mr).size ≤ maxLen := by unfold wrT; split <;> simp [str8, maxLen]
  have HCB : Hid (∀ u : World, Below w2.heap.size w2 u → Calls Try.prog 11 #[shV d c (.slice fa fn fcp) (.slice ta tn tcp), gdV s a h, .string (wrT 5 vl 9 mr)] u fun e w' => e = .returned (ansV (ctl d c T s a h (wrT 5 vl 9 mr))) ∧ Below u.heap.size u w') := fun u hu => control_any d c L _ T _ s a h _ u (HSr.out u hu) hmB
  obtain ⟨B, hB⟩ : ∃ Y, ctl d c T s a h (wrT 5 vl 9 mr) = Y := ⟨_, rfl⟩
  have HYB : Hid (ctl d c T s a h (wrT 5 vl 9 mr) = B) := hB
  rw [hB] at HCB
  clear hB hmB
  have HF : Hid (A.e = B.e ∧ (nums_pre A.t B.t = true) ∧ (A.t.size : Int) ≤ fw ∧ ((A.t.size : Int) = fw ∨ A.t = B.t)) := short_facts HYA.out HYB.out hg1 hg2 (by omega) (by omega)
  have hHP : ∀ u : World, Calls Try.prog 17 #[.string B.t, .string A.t] u fun e w' => e = .returned (.bool (nums_pre A.t B.t)) ∧ u = w' := fun u => prefix_any A.t B.t u (short_size HYB.out hg2) (short_size HYA.out hg1)
  have HHP : Hid (∀ u : World, Calls Try.prog 17 #[.string B.t, .string A.t] u fun e w' => e = .returned (.bool (nums_pre A.t B.t)) ∧ u = w') := hHP
  have HBw2 : Hid (Below w2.heap.size w2 w2) := Below.refl _ _
  clear hs hb1 hb2 hS1 hG2 HSr hbad hg1 hg2 hHP wv wf wm
  go_enter Try.func6, Try.ntmps6
  go_upto_region 3 with (fail)
  go_cut [11, 12, 13] from 17 (fun pv tw cv wx => ∃ X : Nat, pv = .pointer (some ⟨X, 0, none⟩) ∧ tw = .string A.t ∧ cv = .int .i64 A.e ∧ Hid (Below w2.heap.size w2 wx ∧ wx.heap[X]? = some (gdO A.s A.a A.h)))
  case first =>
    refine wp_abs (fun a0 => a0.tmps.size = 85 ∧ (∀ h, a0.tmps[2]'h = .int .i64 vl) ∧ (∀ h, a0.tmps[3]'h = .int .i64 fw) ∧ (∀ h, a0.tmps[5]'h = .pointer (some ⟨w.heap.size, 0, none⟩)) ∧ (∀ h, a0.tmps[6]'h = .pointer (some ⟨w1.heap.size, 0, none⟩))) ⟨rfl, fun _ => rfl, fun _ => rfl, fun _ => rfl, fun _ => rfl⟩ ?_
    rintro a0 ⟨hsz, s2, s3, s5, s6⟩ ha0
    refine wp_region_held (S := fun W => Below w2.heap.size w2 W) (by kernel_rfl) ?_
    have hS0 : Below w2.heap.size w2 w2.drew := (Below.refl _ _).drew
    refine h_take (i := 0) (shV d c (.slice fa fn fcp) (.slice ta tn tcp)) rfl (by kernel_rfl) (by kernel_rfl) (by kernel_rfl) (fun _ _ _ h => h) rfl hS0 (fun W hW => by have h := run_sheet (HS.out W (bsq HBw2.out hW)); simp only [execOp]; simp only [Act.eval]; simp [Act.put, hsz, s2, s3, s5, s6, h]) ?_
    refine h_take (i := 1) (gdV s a h) rfl (by kernel_rfl) (by kernel_rfl) (by kernel_rfl) (fun _ _ _ h => h) rfl hS0 (fun W hW => by obtain ⟨⟨zg, g0, g1, g2⟩, _⟩ := gd_box (HG.out W (bsq HBw2.out hW)); simp [execOp, go_sem, Act.put, hsz, s2, s3, s5, s6, g0, g1, g2]) ?_
    refine h_take (i := 2) (.int .i64 vl) rfl (by kernel_rfl) (by kernel_rfl) (by kernel_rfl) (fun _ _ _ h => h) rfl hS0 (fun W hW => by simp [execOp, go_sem, Act.put, hsz, s2, s3, s5, s6]) ?_
    refine h_take (i := 3) (.int .i64 fw) rfl (by kernel_rfl) (by kernel_rfl) (by kernel_rfl) (fun _ _ _ h => h) rfl hS0 (fun W hW => by simp [execOp, go_sem, Act.put, hsz, s2, s3, s5, s6]) ?_
    refine h_two 4 10 (by kernel_rfl) ?_ ?_
    · refine o_call 16 #[.int .i64 5, .int .i64 vl, .int .i64 0, .int .i64 fw] rfl rfl (by simp [execOp, go_sem, Act.put, hsz, s2, s3, s5, s6]) ((asked_any 5 vl 0 fw (by omega) _).mono ?_)
      rintro e ua ⟨rfl, hba⟩
      have hS1 : Below w2.heap.size w2 ua := bsq hS0 hba
      refine ⟨_, rfl, hS1, ?_⟩
      refine h_two 5 10 (by kernel_rfl) ?_ ?_
      · refine o_call 11 #[shV d c (.slice fa fn fcp) (.slice ta tn tcp), gdV s a h, .string (wrT 5 vl 0 fw)] rfl rfl (by simp [execOp, go_sem, Act.put, hsz, s2, s3, s5, s6]) ((HCA.out _ (bsq HBw2.out hS1)).mono ?_)
        rintro e ub ⟨rfl, hbb⟩
        have hS2 : Below w2.heap.size w2 ub := bsq hS1 hbb
        refine ⟨_, rfl, hS2, ?_⟩
        refine h_take (i := 6) (ansV A) rfl (by kernel_rfl) (by kernel_rfl) (by kernel_rfl) (fun _ _ _ h => h) rfl hS2 (fun W hW => by simp [execOp, go_sem, Act.put, hsz, s2, s3, s5, s6]) ?_
        refine h_take (i := 7) (gdV A.s A.a A.h) rfl (by kernel_rfl) (by kernel_rfl) (by kernel_rfl) (fun _ _ _ h => h) rfl hS2 (fun W hW => by simp [execOp, go_sem, Act.put, hsz, s2, s3, s5, s6]) ?_
        refine h_take (i := 8) (.string A.t) rfl (by kernel_rfl) (by kernel_rfl) (by kernel_rfl) (fun _ _ _ h => h) rfl hS2 (fun W hW => by simp [execOp, go_sem, Act.put, hsz, s2, s3, s5, s6]) ?_
        refine h_take (i := 9) (.int .i64 A.e) rfl (by kernel_rfl) (by kernel_rfl) (by kernel_rfl) (fun _ _ _ h => h) rfl hS2 (fun W hW => by simp [execOp, go_sem, Act.put, hsz, s2, s3, s5, s6]) ?_
        refine h_value (i := 10) (w' := ub.alloc (gdO 0 0 0)) (.pointer (some ⟨ub.heap.size, 0, none⟩)) rfl (by kernel_rfl) rfl (by simp [execOp, go_sem, Act.put, hsz, s2, s3, s5, s6]) (bsq hS2 (balloc _ _)) ?_
        have hX0 : w2.heap.size ≤ ub.heap.size := hS2.size
        have hX := (MapKept.heap_alloc ub (gdO 0 0 0)).1
        have hS3 : Below w2.heap.size w2 (ub.alloc (gdO 0 0 0)) := bsq hS2 (balloc _ _)
        generalize ub.alloc (gdO 0 0 0) = ug at *
        obtain ⟨⟨zz, q0, q1, q2⟩, f0, f1, f2⟩ := gd_box hX
        obtain ⟨uf, huf, hXf, hBf⟩ := gd_put ug ub.heap.size 0 0 0 A.s A.a A.h hX
        have hSf : Below w2.heap.size w2 uf := hBf _ _ hX0 hS3
        refine h_skip (i := 11) (w' := uf) rfl (by kernel_rfl) rfl (by rw [← huf]; simp [execOp, go_sem, Act.put, hsz, s2, s3, s5, s6, zz, q0, q1, q2, f0, f1, f2]) hSf ?_
        refine h_value (i := 12) (w' := uf) (.string A.t) rfl (by kernel_rfl) rfl (by simp [execOp, go_sem, Act.put, hsz, s2, s3, s5, s6]) hSf ?_
        refine h_value (i := 13) (w' := uf) (.int .i64 A.e) rfl (by kernel_rfl) rfl (by simp [execOp, go_sem, Act.put, hsz, s2, s3, s5, s6]) hSf ?_
        refine wpAnyH_done (by kernel_rfl) ?_ _
        generalize ub.heap.size = XX at *
        subst ha0
        clear hsz s2 s3 s5 s6
        clear huf hBf zz q0 q1 q2 f0 f1 f2
        go_simp
        go_wp2_with fail
        go_meet
        case rel => exact ⟨XX, rfl, rfl, rfl, hSf, hXf⟩
      · refine o_value (w' := ua.alloc (gdO 0 0 0)) (.pointer (some ⟨ua.heap.size, 0, none⟩)) rfl rfl (by simp [execOp, go_sem, Act.put, hsz, s2, s3, s5, s6]) ?_
        have hX0 : w2.heap.size ≤ ua.heap.size := hS1.size
        have hX := (MapKept.heap_alloc ua (gdO 0 0 0)).1
        have hS3 : Below w2.heap.size w2 (ua.alloc (gdO 0 0 0)) := bsq hS1 (balloc _ _)
        generalize ua.alloc (gdO 0 0 0) = ug at *
        refine ⟨hS3, ?_⟩
        refine wpAnyH_all (rs := [5]) (by kernel_rfl) (by simp) (fun k hk => ?_)
        obtain rfl : k = 5 := by simpa using hk
        refine o_call 11 #[shV d c (.slice fa fn fcp) (.slice ta tn tcp), gdV s a h, .string (wrT 5 vl 0 fw)] rfl rfl (by simp [execOp, go_sem, Act.put, hsz, s2, s3, s5, s6]) ((HCA.out _ (bsq HBw2.out hS3)).mono ?_)
        rintro e ub ⟨rfl, hbb⟩
        have hS2 : Below w2.heap.size w2 ub := bsq hS3 hbb
        have hX := keep hX hbb
        refine ⟨_, rfl, hS2, ?_⟩
        refine h_take (i := 6) (ansV A) rfl (by kernel_rfl) (by kernel_rfl) (by kernel_rfl) (fun _ _ _ h => h) rfl hS2 (fun W hW => by simp [execOp, go_sem, Act.put, hsz, s2, s3, s5, s6]) ?_
        refine h_take (i := 7) (gdV A.s A.a A.h) rfl (by kernel_rfl) (by kernel_rfl) (by kernel_rfl) (fun _ _ _ h => h) rfl hS2 (fun W hW => by simp [execOp, go_sem, Act.put, hsz, s2, s3, s5, s6]) ?_
        refine h_take (i := 8) (.string A.t) rfl (by kernel_rfl) (by kernel_rfl) (by kernel_rfl) (fun _ _ _ h => h) rfl hS2 (fun W hW => by simp [execOp, go_sem, Act.put, hsz, s2, s3, s5, s6]) ?_
        refine h_take (i := 9) (.int .i64 A.e) rfl (by kernel_rfl) (by kernel_rfl) (by kernel_rfl) (fun _ _ _ h => h) rfl hS2 (fun W hW => by simp [execOp, go_sem, Act.put, hsz, s2, s3, s5, s6]) ?_
        obtain ⟨⟨zz, q0, q1, q2⟩, f0, f1, f2⟩ := gd_box hX
        obtain ⟨uf, huf, hXf, hBf⟩ := gd_put ub ua.heap.size 0 0 0 A.s A.a A.h hX
        have hSf : Below w2.heap.size w2 uf := hBf _ _ hX0 hS2
        refine h_skip (i := 11) (w' := uf) rfl (by kernel_rfl) rfl (by rw [← huf]; simp [execOp, go_sem, Act.put, hsz, s2, s3, s5, s6, zz, q0, q1, q2, f0, f1, f2]) hSf ?_
        refine h_value (i := 12) (w' := uf) (.string A.t) rfl (by kernel_rfl) rfl (by simp [execOp, go_sem, Act.put, hsz, s2, s3, s5, s6]) hSf ?_
        refine h_value (i := 13) (w' := uf) (.int .i64 A.e) rfl (by kernel_rfl) rfl (by simp [execOp, go_sem, Act.put, hsz, s2, s3, s5, s6]) hSf ?_
        refine wpAnyH_done (by kernel_rfl) ?_ _
        generalize ua.heap.size = XX at *
        subst ha0
        clear hsz s2 s3 s5 s6
        clear huf hBf zz q0 q1 q2 f0 f1 f2
        go_simp
        go_wp2_with fail
        go_meet
        case rel => exact ⟨XX, rfl, rfl, rfl, hSf, hXf⟩
    · refine o_value (w' := w2.drew.alloc (gdO 0 0 0)) (.pointer (some ⟨w2.drew.heap.size, 0, none⟩)) rfl rfl (by simp [execOp, go_sem, Act.put, hsz, s2, s3, s5, s6]) ?_
      have hX0 : w2.heap.size ≤ w2.drew.heap.size := Nat.le_refl _
      have hX := (MapKept.heap_alloc w2.drew (gdO 0 0 0)).1
      have hS3 : Below w2.heap.size w2 (w2.drew.alloc (gdO 0 0 0)) := bsq hS0 (balloc _ _)
      generalize w2.drew.heap.size = XB at *
      generalize w2.drew.alloc (gdO 0 0 0) = ug at *
      refine ⟨hS3, ?_⟩
      refine wpAnyH_all (rs := [4]) (by kernel_rfl) (by simp) (fun k hk => ?_)
      obtain rfl : k = 4 := by simpa using hk
      refine o_call 16 #[.int .i64 5, .int .i64 vl, .int .i64 0, .int .i64 fw] rfl rfl (by simp [execOp, go_sem, Act.put, hsz, s2, s3, s5, s6]) ((asked_any 5 vl 0 fw (by omega) _).mono ?_)
      rintro e ua ⟨rfl, hba⟩
      have hS1 : Below w2.heap.size w2 ua := bsq hS3 hba
      have hX := keep hX hba
      refine ⟨_, rfl, hS1, ?_⟩
      refine wpAnyH_all (rs := [5]) (by kernel_rfl) (by simp) (fun k hk => ?_)
      obtain rfl : k = 5 := by simpa using hk
      refine o_call 11 #[shV d c (.slice fa fn fcp) (.slice ta tn tcp), gdV s a h, .string (wrT 5 vl 0 fw)] rfl rfl (by simp [execOp, go_sem, Act.put, hsz, s2, s3, s5, s6]) ((HCA.out _ (bsq HBw2.out hS1)).mono ?_)
      rintro e ub ⟨rfl, hbb⟩
      have hS2 : Below w2.heap.size w2 ub := bsq hS1 hbb
      have hX := keep hX hbb
      refine ⟨_, rfl, hS2, ?_⟩
      refine h_take (i := 6) (ansV A) rfl (by kernel_rfl) (by kernel_rfl) (by kernel_rfl) (fun _ _ _ h => h) rfl hS2 (fun W hW => by simp [execOp, go_sem, Act.put, hsz, s2, s3, s5, s6]) ?_
      refine h_take (i := 7) (gdV A.s A.a A.h) rfl (by kernel_rfl) (by kernel_rfl) (by kernel_rfl) (fun _ _ _ h => h) rfl hS2 (fun W hW => by simp [execOp, go_sem, Act.put, hsz, s2, s3, s5, s6]) ?_
      refine h_take (i := 8) (.string A.t) rfl (by kernel_rfl) (by kernel_rfl) (by kernel_rfl) (fun _ _ _ h => h) rfl hS2 (fun W hW => by simp [execOp, go_sem, Act.put, hsz, s2, s3, s5, s6]) ?_
      refine h_take (i := 9) (.int .i64 A.e) rfl (by kernel_rfl) (by kernel_rfl) (by kernel_rfl) (fun _ _ _ h => h) rfl hS2 (fun W hW => by simp [execOp, go_sem, Act.put, hsz, s2, s3, s5, s6]) ?_
      obtain ⟨⟨zz, q0, q1, q2⟩, f0, f1, f2⟩ := gd_box hX
      obtain ⟨uf, huf, hXf, hBf⟩ := gd_put ub XB 0 0 0 A.s A.a A.h hX
      have hSf : Below w2.heap.size w2 uf := hBf _ _ hX0 hS2
      refine h_skip (i := 11) (w' := uf) rfl (by kernel_rfl) rfl (by rw [← huf]; simp [execOp, go_sem, Act.put, hsz, s2, s3, s5, s6, zz, q0, q1, q2, f0, f1, f2]) hSf ?_
      refine h_value (i := 12) (w' := uf) (.string A.t) rfl (by kernel_rfl) rfl (by simp [execOp, go_sem, Act.put, hsz, s2, s3, s5, s6]) hSf ?_
      refine h_value (i := 13) (w' := uf) (.int .i64 A.e) rfl (by kernel_rfl) rfl (by simp [execOp, go_sem, Act.put, hsz, s2, s3, s5, s6]) hSf ?_
      refine wpAnyH_done (by kernel_rfl) ?_ _
      generalize XB = XX at *
      subst ha0
      clear hsz s2 s3 s5 s6
      clear huf hBf zz q0 q1 q2 f0 f1 f2
      go_simp
      go_wp2_with fail
      go_meet
      case rel => exact ⟨XX, rfl, rfl, rfl, hSf, hXf⟩
  case rest =>
  obtain ⟨X, rfl, rfl, rfl, HX⟩ := hcut
  rename World => wA
  have HBwA : Hid (Below w2.heap.size w2 wA) := HX.out.1
  clear HX HCA
  go_upto_region 4 with (fail)
  go_cut [0, 1, 14, 15, 16] from 17 (fun _ _ pv tw cv wx => ∃ X : Nat, pv = .pointer (some ⟨X, 0, none⟩) ∧ tw = .string B.t ∧ cv = .int .i64 B.e ∧ Hid (Below wA.heap.size wA wx ∧ wx.heap[X]? = some (gdO B.s B.a B.h)))
  case first =>
    refine wp_abs (fun a0 => a0.tmps.size = 85 ∧ (∀ h, a0.tmps[2]'h = .int .i64 vl) ∧ (∀ h, a0.tmps[4]'h = .int .i64 mr) ∧ (∀ h, a0.tmps[5]'h = .pointer (some ⟨w.heap.size, 0, none⟩)) ∧ (∀ h, a0.tmps[6]'h = .pointer (some ⟨w1.heap.size, 0, none⟩))) ⟨rfl, fun _ => rfl, fun _ => rfl, fun _ => rfl, fun _ => rfl⟩ ?_
    rintro a0 ⟨hsz, s2, s4, s5, s6⟩ ha0
    refine wp_region_held (S := fun W => Below wA.heap.size wA W) (by kernel_rfl) ?_
    have hS0 : Below wA.heap.size wA wA.drew := (Below.refl _ _).drew
    refine h_take (i := 0) (shV d c (.slice fa fn fcp) (.slice ta tn tcp)) rfl (by kernel_rfl) (by kernel_rfl) (by kernel_rfl) (fun _ _ _ h => h) rfl hS0 (fun W hW => by have h := run_sheet (HS.out W (bsq HBwA.out hW)); simp only [execOp]; simp only [Act.eval]; simp [Act.put, hsz, s2, s4, s5, s6, h]) ?_
    refine h_take (i := 1) (gdV s a h) rfl (by kernel_rfl) (by kernel_rfl) (by kernel_rfl) (fun _ _ _ h => h) rfl hS0 (fun W hW => by obtain ⟨⟨zg, g0, g1, g2⟩, _⟩ := gd_box (HG.out W (bsq HBwA.out hW)); simp [execOp, go_sem, Act.put, hsz, s2, s4, s5, s6, g0, g1, g2]) ?_
    refine h_take (i := 2) (.int .i64 vl) rfl (by kernel_rfl) (by kernel_rfl) (by kernel_rfl) (fun _ _ _ h => h) rfl hS0 (fun W hW => by simp [execOp, go_sem, Act.put, hsz, s2, s4, s5, s6]) ?_
    refine h_take (i := 3) (.int .i64 mr) rfl (by kernel_rfl) (by kernel_rfl) (by kernel_rfl) (fun _ _ _ h => h) rfl hS0 (fun W hW => by simp [execOp, go_sem, Act.put, hsz, s2, s4, s5, s6]) ?_
    refine h_two 4 10 (by kernel_rfl) ?_ ?_
    · refine o_call 16 #[.int .i64 5, .int .i64 vl, .int .i64 9, .int .i64 mr] rfl rfl (by simp [execOp, go_sem, Act.put, hsz, s2, s4, s5, s6]) ((asked_any 5 vl 9 mr (by omega) _).mono ?_)
      rintro e ua ⟨rfl, hba⟩
      have hS1 : Below wA.heap.size wA ua := bsq hS0 hba
      refine ⟨_, rfl, hS1, ?_⟩
      refine h_two 5 10 (by kernel_rfl) ?_ ?_
      · refine o_call 11 #[shV d c (.slice fa fn fcp) (.slice ta tn tcp), gdV s a h, .string (wrT 5 vl 9 mr)] rfl rfl (by simp [execOp, go_sem, Act.put, hsz, s2, s4, s5, s6]) ((HCB.out _ (bsq HBwA.out hS1)).mono ?_)
        rintro e ub ⟨rfl, hbb⟩
        have hS2 : Below wA.heap.size wA ub := bsq hS1 hbb
        refine ⟨_, rfl, hS2, ?_⟩
        refine h_take (i := 6) (ansV B) rfl (by kernel_rfl) (by kernel_rfl) (by kernel_rfl) (fun _ _ _ h => h) rfl hS2 (fun W hW => by simp [execOp, go_sem, Act.put, hsz, s2, s4, s5, s6]) ?_
        refine h_take (i := 7) (gdV B.s B.a B.h) rfl (by kernel_rfl) (by kernel_rfl) (by kernel_rfl) (fun _ _ _ h => h) rfl hS2 (fun W hW => by simp [execOp, go_sem, Act.put, hsz, s2, s4, s5, s6]) ?_
        refine h_take (i := 8) (.string B.t) rfl (by kernel_rfl) (by kernel_rfl) (by kernel_rfl) (fun _ _ _ h => h) rfl hS2 (fun W hW => by simp [execOp, go_sem, Act.put, hsz, s2, s4, s5, s6]) ?_
        refine h_take (i := 9) (.int .i64 B.e) rfl (by kernel_rfl) (by kernel_rfl) (by kernel_rfl) (fun _ _ _ h => h) rfl hS2 (fun W hW => by simp [execOp, go_sem, Act.put, hsz, s2, s4, s5, s6]) ?_
        refine h_value (i := 10) (w' := ub.alloc (gdO 0 0 0)) (.pointer (some ⟨ub.heap.size, 0, none⟩)) rfl (by kernel_rfl) rfl (by simp [execOp, go_sem, Act.put, hsz, s2, s4, s5, s6]) (bsq hS2 (balloc _ _)) ?_
        have hX0 : wA.heap.size ≤ ub.heap.size := hS2.size
        have hX := (MapKept.heap_alloc ub (gdO 0 0 0)).1
        have hS3 : Below wA.heap.size wA (ub.alloc (gdO 0 0 0)) := bsq hS2 (balloc _ _)
        generalize ub.alloc (gdO 0 0 0) = ug at *
        obtain ⟨⟨zz, q0, q1, q2⟩, f0, f1, f2⟩ := gd_box hX
        obtain ⟨uf, huf, hXf, hBf⟩ := gd_put ug ub.heap.size 0 0 0 B.s B.a B.h hX
        have hSf : Below wA.heap.size wA uf := hBf _ _ hX0 hS3
        refine h_skip (i := 11) (w' := uf) rfl (by kernel_rfl) rfl (by rw [← huf]; simp [execOp, go_sem, Act.put, hsz, s2, s4, s5, s6, zz, q0, q1, q2, f0, f1, f2]) hSf ?_
        refine h_value (i := 12) (w' := uf) (.string B.t) rfl (by kernel_rfl) rfl (by simp [execOp, go_sem, Act.put, hsz, s2, s4, s5, s6]) hSf ?_
        refine h_value (i := 13) (w' := uf) (.int .i64 B.e) rfl (by kernel_rfl) rfl (by simp [execOp, go_sem, Act.put, hsz, s2, s4, s5, s6]) hSf ?_
        refine wpAnyH_done (by kernel_rfl) ?_ _
        generalize ub.heap.size = XX at *
        subst ha0
        clear hsz s2 s4 s5 s6
        clear huf hBf zz q0 q1 q2 f0 f1 f2
        go_simp
        go_wp2_with fail
        go_meet
        case rel => exact ⟨XX, rfl, rfl, rfl, hSf, hXf⟩
      · refine o_value (w' := ua.alloc (gdO 0 0 0)) (.pointer (some ⟨ua.heap.size, 0, none⟩)) rfl rfl (by simp [execOp, go_sem, Act.put, hsz, s2, s4, s5, s6]) ?_
        have hX0 : wA.heap.size ≤ ua.heap.size := hS1.size
        have hX := (MapKept.heap_alloc ua (gdO 0 0 0)).1
        have hS3 : Below wA.heap.size wA (ua.alloc (gdO 0 0 0)) := bsq hS1 (balloc _ _)
        generalize ua.alloc (gdO 0 0 0) = ug at *
        refine ⟨hS3, ?_⟩
        refine wpAnyH_all (rs := [5]) (by kernel_rfl) (by simp) (fun k hk => ?_)
        obtain rfl : k = 5 := by simpa using hk
        refine o_call 11 #[shV d c (.slice fa fn fcp) (.slice ta tn tcp), gdV s a h, .string (wrT 5 vl 9 mr)] rfl rfl (by simp [execOp, go_sem, Act.put, hsz, s2, s4, s5, s6]) ((HCB.out _ (bsq HBwA.out hS3)).mono ?_)
        rintro e ub ⟨rfl, hbb⟩
        have hS2 : Below wA.heap.size wA ub := bsq hS3 hbb
        have hX := keep hX hbb
        refine ⟨_, rfl, hS2, ?_⟩
        refine h_take (i := 6) (ansV B) rfl (by kernel_rfl) (by kernel_rfl) (by kernel_rfl) (fun _ _ _ h => h) rfl hS2 (fun W hW => by simp [execOp, go_sem, Act.put, hsz, s2, s4, s5, s6]) ?_
        refine h_take (i := 7) (gdV B.s B.a B.h) rfl (by kernel_rfl) (by kernel_rfl) (by kernel_rfl) (fun _ _ _ h => h) rfl hS2 (fun W hW => by simp [execOp, go_sem, Act.put, hsz, s2, s4, s5, s6]) ?_
        refine h_take (i := 8) (.string B.t) rfl (by kernel_rfl) (by kernel_rfl) (by kernel_rfl) (fun _ _ _ h => h) rfl hS2 (fun W hW => by simp [execOp, go_sem, Act.put, hsz, s2, s4, s5, s6]) ?_
        refine h_take (i := 9) (.int .i64 B.e) rfl (by kernel_rfl) (by kernel_rfl) (by kernel_rfl) (fun _ _ _ h => h) rfl hS2 (fun W hW => by simp [execOp, go_sem, Act.put, hsz, s2, s4, s5, s6]) ?_
        obtain ⟨⟨zz, q0, q1, q2⟩, f0, f1, f2⟩ := gd_box hX
        obtain ⟨uf, huf, hXf, hBf⟩ := gd_put ub ua.heap.size 0 0 0 B.s B.a B.h hX
        have hSf : Below wA.heap.size wA uf := hBf _ _ hX0 hS2
        refine h_skip (i := 11) (w' := uf) rfl (by kernel_rfl) rfl (by rw [← huf]; simp [execOp, go_sem, Act.put, hsz, s2, s4, s5, s6, zz, q0, q1, q2, f0, f1, f2]) hSf ?_
        refine h_value (i := 12) (w' := uf) (.string B.t) rfl (by kernel_rfl) rfl (by simp [execOp, go_sem, Act.put, hsz, s2, s4, s5, s6]) hSf ?_
        refine h_value (i := 13) (w' := uf) (.int .i64 B.e) rfl (by kernel_rfl) rfl (by simp [execOp, go_sem, Act.put, hsz, s2, s4, s5, s6]) hSf ?_
        refine wpAnyH_done (by kernel_rfl) ?_ _
        generalize ua.heap.size = XX at *
        subst ha0
        clear hsz s2 s4 s5 s6
        clear huf hBf zz q0 q1 q2 f0 f1 f2
        go_simp
        go_wp2_with fail
        go_meet
        case rel => exact ⟨XX, rfl, rfl, rfl, hSf, hXf⟩
    · refine o_value (w' := wA.drew.alloc (gdO 0 0 0)) (.pointer (some ⟨wA.drew.heap.size, 0, none⟩)) rfl rfl (by simp [execOp, go_sem, Act.put, hsz, s2, s4, s5, s6]) ?_
      have hX0 : wA.heap.size ≤ wA.drew.heap.size := Nat.le_refl _
      have hX := (MapKept.heap_alloc wA.drew (gdO 0 0 0)).1
      have hS3 : Below wA.heap.size wA (wA.drew.alloc (gdO 0 0 0)) := bsq hS0 (balloc _ _)
      generalize wA.drew.heap.size = XB at *
      generalize wA.drew.alloc (gdO 0 0 0) = ug at *
      refine ⟨hS3, ?_⟩
      refine wpAnyH_all (rs := [4]) (by kernel_rfl) (by simp) (fun k hk => ?_)
      obtain rfl : k = 4 := by simpa using hk
      refine o_call 16 #[.int .i64 5, .int .i64 vl, .int .i64 9, .int .i64 mr] rfl rfl (by simp [execOp, go_sem, Act.put, hsz, s2, s4, s5, s6]) ((asked_any 5 vl 9 mr (by omega) _).mono ?_)
      rintro e ua ⟨rfl, hba⟩
      have hS1 : Below wA.heap.size wA ua := bsq hS3 hba
      have hX := keep hX hba
      refine ⟨_, rfl, hS1, ?_⟩
      refine wpAnyH_all (rs := [5]) (by kernel_rfl) (by simp) (fun k hk => ?_)
      obtain rfl : k = 5 := by simpa using hk
      refine o_call 11 #[shV d c (.slice fa fn fcp) (.slice ta tn tcp), gdV s a h, .string (wrT 5 vl 9 mr)] rfl rfl (by simp [execOp, go_sem, Act.put, hsz, s2, s4, s5, s6]) ((HCB.out _ (bsq HBwA.out hS1)).mono ?_)
      rintro e ub ⟨rfl, hbb⟩
      have hS2 : Below wA.heap.size wA ub := bsq hS1 hbb
      have hX := keep hX hbb
      refine ⟨_, rfl, hS2, ?_⟩
      refine h_take (i := 6) (ansV B) rfl (by kernel_rfl) (by kernel_rfl) (by kernel_rfl) (fun _ _ _ h => h) rfl hS2 (fun W hW => by simp [execOp, go_sem, Act.put, hsz, s2, s4, s5, s6]) ?_
      refine h_take (i := 7) (gdV B.s B.a B.h) rfl (by kernel_rfl) (by kernel_rfl) (by kernel_rfl) (fun _ _ _ h => h) rfl hS2 (fun W hW => by simp [execOp, go_sem, Act.put, hsz, s2, s4, s5, s6]) ?_
      refine h_take (i := 8) (.string B.t) rfl (by kernel_rfl) (by kernel_rfl) (by kernel_rfl) (fun _ _ _ h => h) rfl hS2 (fun W hW => by simp [execOp, go_sem, Act.put, hsz, s2, s4, s5, s6]) ?_
      refine h_take (i := 9) (.int .i64 B.e) rfl (by kernel_rfl) (by kernel_rfl) (by kernel_rfl) (fun _ _ _ h => h) rfl hS2 (fun W hW => by simp [execOp, go_sem, Act.put, hsz, s2, s4, s5, s6]) ?_
      obtain ⟨⟨zz, q0, q1, q2⟩, f0, f1, f2⟩ := gd_box hX
      obtain ⟨uf, huf, hXf, hBf⟩ := gd_put ub XB 0 0 0 B.s B.a B.h hX
      have hSf : Below wA.heap.size wA uf := hBf _ _ hX0 hS2
      refine h_skip (i := 11) (w' := uf) rfl (by kernel_rfl) rfl (by rw [← huf]; simp [execOp, go_sem, Act.put, hsz, s2, s4, s5, s6, zz, q0, q1, q2, f0, f1, f2]) hSf ?_
      refine h_value (i := 12) (w' := uf) (.string B.t) rfl (by kernel_rfl) rfl (by simp [execOp, go_sem, Act.put, hsz, s2, s4, s5, s6]) hSf ?_
      refine h_value (i := 13) (w' := uf) (.int .i64 B.e) rfl (by kernel_rfl) rfl (by simp [execOp, go_sem, Act.put, hsz, s2, s4, s5, s6]) hSf ?_
      refine wpAnyH_done (by kernel_rfl) ?_ _
      generalize XB = XX at *
      subst ha0
      clear hsz s2 s4 s5 s6
      clear huf hBf zz q0 q1 q2 f0 f1 f2
      go_simp
      go_wp2_with fail
      go_meet
      case rel => exact ⟨XX, rfl, rfl, rfl, hSf, hXf⟩
  case rest =>
  obtain ⟨X2, rfl, rfl, rfl, HX⟩ := hcut
  rename World => wB
  have HBwB : Hid (Below wA.heap.size wA wB) := HX.out.1
  clear HX HCB
  obtain ⟨f1, f2, f3, f4⟩ := HF.out
  have e1 : (A.e == B.e) = true := by simpa using f1
  rw [f2] at HHP
  clear f1 f2 HF HYA HYB
  generalize A.t = At at *
  generalize B.t = Bt at *
  have f5 : ((At.size : Int) == fw) = true ∨ (((At.size : Int) == fw) = false ∧ At = Bt) := by
    by_cases z : (At.size : Int) = fw
    · exact .inl (by simpa using z)
    · rcases f4 with f4 | f4
      · exact absurd f4 z
      · exact .inr ⟨by simpa using z, f4⟩
  clear f4
  go_wp2_with fail
  refine (HL.out _).mono ?_
  rintro e wC ⟨rfl, hb3⟩
  have HB3 : Hid (Below wA.heap.size wA wC) := bsq HBwB.out hb3
  clear hb3
  go_wp2_with fail
  refine (HHP.out _).mono ?_
  rintro e wD ⟨rfl, rfl⟩
  rcases f5 with f5 | ⟨f5, rfl⟩
  all_goals
    go_wp2
    go_ret
    exact ⟨rfl, bsq HB2.out (bsq HBwA.out HB3.out)⟩
end Go.Proofs.Ytebaepkghbihkaa.gadgetShort
