/- GadgetPath: the walk. -/
import Derived.Test.YtebaepkghbihkaaZGadN
import Derived.Test.YtebaepkghbihkaaZGadX
namespace Go.Proofs.Ytebaepkghbihkaa.gadgetPath
open Go.RowKit Go.PlainAid Go.Proofs.Ytebaepkghbihkaa.desc Go.Proofs.Ytebaepkghbihkaa.gadget
open Go.Proofs.Ytebaepkghbihkaa.setup (rK rN rC askc good wrT wrC)
set_option linter.unusedVariables false
set_option linter.unusedSimpArgs false
theorem str8 (k v i l : Int) : (strOfNums (setup.txt k v i l)).size = 8 := by rw [lane.str_size]; rfl
theorem wr_small (k v i l : Int) : (wrT k v i l).size ≤ maxLen := by
  unfold wrT
  split
  · rw [str8]; unfold maxLen; omega
  · exact Nat.zero_le _
theorem good_addr2 {x : Int} (h0 : 0 ≤ x) (h1 : x ≤ 127) : good 4 x 0 0 = true := by
  unfold good setup.fitB
  simp [setup.isK, setup.te, setup.inS, setup.col, setup.row]
  omega
theorem good_conf {x : Int} (h0 : 0 ≤ x) (h1 : x ≤ 255) : good 6 x 0 0 = true := by
  unfold good setup.fitB
  simp [setup.isK, setup.te, setup.inS, setup.col, setup.row]
  omega
theorem good_told : good 7 0 0 1 = true := by decide
set_option maxRecDepth 100000 in
set_option maxHeartbeats 16000000 in
theorem walk (d : Dv) (c : Cf) (L : FL) (v : Value) (T : List (List Int)) (tv : Value) (ad : Int) (wad : (Lit.int .i64 ad).wf = true) (w : World) (hs : Shr w c L v T tv) :
    Calls Try.prog 8 #[shV d c v tv, .int .i64 ad] w fun e w' => e = .returned (.bool true) ∧ Below w.heap.size w w' := by
  obtain ⟨w2, hw2, hS1, hb1⟩ := ShC.named w d c v tv
  have HS : Hid (∀ u : World, Below w2.heap.size w2 u → u.heap[w.heap.size]? = some (shO d c v tv)) := fun u hu => keep hS1 hu
  have HB2 : Hid (Below w.heap.size w w2) := hb1
  have HSr : Hid (∀ u : World, Below w2.heap.size w2 u → Shr u c L v T tv) := fun u hu => hs.below (bsq hb1 hu)
  obtain ⟨fa, fn, fcp, rfl⟩ : ∃ a n c, v = .slice a n c := by obtain ⟨a, c, h, _⟩ := hs.rc.fs.row; exact ⟨_, _, _, h⟩
  obtain ⟨ta, tn, tcp, rfl⟩ : ∃ a n c, tv = .slice a n c := by obtain ⟨a, c, h, _⟩ := hs.tx; exact ⟨_, _, _, h⟩
  have HL : Hid (∀ u : World, Calls Try.prog 13 #[] u fun e w' => e = .returned (.bool true) ∧ Below u.heap.size u w') := gadgetLives_any
  have HCk : Hid (∀ u : World, Below w2.heap.size w2 u → Calls Try.prog 9 #[shV d c (.slice fa fn fcp) (.slice ta tn tcp)] u fun e w' => e = .returned (.int .i64 (chkS d c T)) ∧ Below u.heap.size u w') := fun u hu => check_any d c L _ T _ u (HSr.out u hu)
  have HBw2 : Hid (Below w2.heap.size w2 w2) := Below.refl _ _
  clear wad
  go_enter Try.func8, Try.ntmps8
  by_cases hbad : ¬ chkS d c T = 0 ∨ ad < 1 ∨ 127 < ad
  · have hp : (chkS d c T != 0) = true ∨ ((chkS d c T != 0) = false ∧ ad < 1) ∨ ((chkS d c T != 0) = false ∧ ¬ ad < 1 ∧ 127 < ad) := by
      by_cases z : chkS d c T = 0
      · have : (chkS d c T != 0) = false := by simpa using z
        by_cases y : ad < 1
        · exact .inr (.inl ⟨this, y⟩)
        · exact .inr (.inr ⟨this, y, by omega⟩)
      · exact .inl (by simpa using z)
    clear hbad hs hb1 hS1 HSr
    generalize chkS d c T = z at *
    rcases hp with p1 | ⟨p1, p2⟩ | ⟨p1, p2, p3⟩
    all_goals
      go_wp2_with fail
      refine (HL.out _).mono ?_
      rintro e wA ⟨rfl, hbA⟩
      have hSA := HS.out wA hbA
      have HCA := HCk.out wA hbA
      have HCA : Hid (Calls Try.prog 9 #[shV d c (.slice fa fn fcp) (.slice ta tn tcp)] wA fun e w' => e = .returned (.int .i64 z) ∧ Below wA.heap.size wA w') := HCA
      have HBA : Hid (Below w2.heap.size w2 wA) := hbA
      clear hbA
      go_wp2_with (refine wpList_sheet rfl _ rfl w.heap.size rfl hSA ?_)
      refine HCA.out.mono ?_
      rintro e wB ⟨rfl, hbB⟩
      have HBB : Hid (Below w2.heap.size w2 wB) := bsq HBA.out hbB
      clear hbB HCA
      go_wp2_with fail
      refine (HL.out _).mono ?_
      rintro e wC ⟨rfl, hbC⟩
      have HBC : Hid (Below w2.heap.size w2 wC) := bsq HBB.out hbC
      clear hbC
      go_wp2
      go_ret
      exact ⟨rfl, bsq HB2.out HBC.out⟩
  have h1 : chkS d c T = 0 := by omega
  have hva : 1 ≤ c.va ∧ c.va ≤ 255 := (chkC_ok (chkS_ok h1).2.2.1).head.1
  have a1 : ¬ ad < 1 := by omega
  have a2 : ¬ 127 < ad := by omega
  rw [h1] at HCk
  have hmA : (wrT 4 ad 0 0).size ≤ maxLen := wr_small _ _ _ _
  have HCA : Hid (∀ u : World, Below w2.heap.size w2 u → Calls Try.prog 11 #[shV d c (.slice fa fn fcp) (.slice ta tn tcp), gdV 0 0 0, .string (wrT 4 ad 0 0)] u fun e w' => e = .returned (ansV (ctl d c T 0 0 0 (wrT 4 ad 0 0))) ∧ Below u.heap.size u w') := fun u hu => control_any d c L _ T _ 0 0 0 _ u (HSr.out u hu) hmA
  obtain ⟨A, hA⟩ : ∃ Y, ctl d c T 0 0 0 (wrT 4 ad 0 0) = Y := ⟨_, rfl⟩
  have HYA : Hid (ctl d c T 0 0 0 (wrT 4 ad 0 0) = A) := hA
  rw [hA] at HCA
  clear hA hmA
  have FA : Hid (A = ⟨1, ad, 0, noT, 0⟩) := by
    show _ = _
    rw [← HYA.out, ctl_asked (good_addr2 (by omega) (by omega)), if_neg (by omega), if_neg (by decide), act_4, if_neg (by omega), if_neg (by omega)]
  have gA : gR 1 ad 0 = true := gR_iff.2 (by omega)
  have gB : gR 2 ad 0 = true := gR_iff.2 (by omega)
  have hmB : (wrT 6 c.va 0 0).size ≤ maxLen := wr_small _ _ _ _
  have HCB : Hid (∀ u : World, Below w2.heap.size w2 u → Calls Try.prog 11 #[shV d c (.slice fa fn fcp) (.slice ta tn tcp), gdV A.s A.a A.h, .string (wrT 6 c.va 0 0)] u fun e w' => e = .returned (ansV (ctl d c T A.s A.a A.h (wrT 6 c.va 0 0))) ∧ Below u.heap.size u w') := fun u hu => control_any d c L _ T _ A.s A.a A.h _ u (HSr.out u hu) hmB
  obtain ⟨B, hB⟩ : ∃ Y, ctl d c T A.s A.a A.h (wrT 6 c.va 0 0) = Y := ⟨_, rfl⟩
  have HYB : Hid (ctl d c T A.s A.a A.h (wrT 6 c.va 0 0) = B) := hB
  rw [hB] at HCB
  clear hB hmB
  have FB : Hid (B = ⟨2, ad, 0, noT, 0⟩) := by
    show _ = _
    have e := HYB.out
    rw [FA.out] at e
    rw [← e]
    show ctl d c T 1 ad 0 _ = _
    rw [ctl_asked (good_conf (by omega) (by omega)), if_neg (by omega), if_neg (by rw [gA]; decide), act_6, if_neg (by omega), if_neg (by omega), if_pos rfl]
  have hmC : (wrT 7 0 0 1).size ≤ maxLen := wr_small _ _ _ _
  have HCC : Hid (∀ u : World, Below w2.heap.size w2 u → Calls Try.prog 11 #[shV d c (.slice fa fn fcp) (.slice ta tn tcp), gdV B.s B.a B.h, .string (wrT 7 0 0 1)] u fun e w' => e = .returned (ansV (ctl d c T B.s B.a B.h (wrT 7 0 0 1))) ∧ Below u.heap.size u w') := fun u hu => control_any d c L _ T _ B.s B.a B.h _ u (HSr.out u hu) hmC
  obtain ⟨C, hC⟩ : ∃ Y, ctl d c T B.s B.a B.h (wrT 7 0 0 1) = Y := ⟨_, rfl⟩
  have HYC : Hid (ctl d c T B.s B.a B.h (wrT 7 0 0 1) = C) := hC
  rw [hC] at HCC
  clear hC hmC
  have FC : Hid (C = ⟨2, ad, 0, strOfNums [c.va], 0⟩) := by
    show _ = _
    have e := HYC.out
    rw [FB.out] at e
    rw [← e]
    show ctl d c T 2 ad 0 _ = _
    rw [ctl_asked good_told, if_neg (by omega), if_neg (by rw [gB]; decide), act_7, if_neg (by omega), if_neg (by omega)]
  have hmD : (wrT 6 0 0 0).size ≤ maxLen := wr_small _ _ _ _
  have HCD : Hid (∀ u : World, Below w2.heap.size w2 u → Calls Try.prog 11 #[shV d c (.slice fa fn fcp) (.slice ta tn tcp), gdV B.s B.a B.h, .string (wrT 6 0 0 0)] u fun e w' => e = .returned (ansV (ctl d c T B.s B.a B.h (wrT 6 0 0 0))) ∧ Below u.heap.size u w') := fun u hu => control_any d c L _ T _ B.s B.a B.h _ u (HSr.out u hu) hmD
  obtain ⟨D, hD⟩ : ∃ Y, ctl d c T B.s B.a B.h (wrT 6 0 0 0) = Y := ⟨_, rfl⟩
  have HYD : Hid (ctl d c T B.s B.a B.h (wrT 6 0 0 0) = D) := hD
  rw [hD] at HCD
  clear hD hmD
  have FD : Hid (D = ⟨1, ad, 0, noT, 0⟩) := by
    show _ = _
    have e := HYD.out
    rw [FB.out] at e
    rw [← e]
    show ctl d c T 2 ad 0 _ = _
    rw [ctl_asked (good_conf (by omega) (by omega)), if_neg (by omega), if_neg (by rw [gB]; decide), act_6, if_neg (by omega), if_pos rfl]
  have hmE : (wrT 4 0 0 0).size ≤ maxLen := wr_small _ _ _ _
  have HCE : Hid (∀ u : World, Below w2.heap.size w2 u → Calls Try.prog 11 #[shV d c (.slice fa fn fcp) (.slice ta tn tcp), gdV D.s D.a D.h, .string (wrT 4 0 0 0)] u fun e w' => e = .returned (ansV (ctl d c T D.s D.a D.h (wrT 4 0 0 0))) ∧ Below u.heap.size u w') := fun u hu => control_any d c L _ T _ D.s D.a D.h _ u (HSr.out u hu) hmE
  obtain ⟨E, hE⟩ : ∃ Y, ctl d c T D.s D.a D.h (wrT 4 0 0 0) = Y := ⟨_, rfl⟩
  have HYE : Hid (ctl d c T D.s D.a D.h (wrT 4 0 0 0) = E) := hE
  rw [hE] at HCE
  clear hE hmE
  have FE : Hid (E = ⟨0, 0, 0, noT, 0⟩) := by
    show _ = _
    have e := HYE.out
    rw [FD.out] at e
    rw [← e]
    show ctl d c T 1 ad 0 _ = _
    rw [ctl_asked (good_addr2 (by omega) (by omega)), if_neg (by omega), if_neg (by rw [gA]; decide), act_4, if_neg (by omega), if_pos rfl]
  have hmF : (wrT 4 ad 0 0).size ≤ maxLen := wr_small _ _ _ _
  have HCF : Hid (∀ u : World, Below w2.heap.size w2 u → Calls Try.prog 11 #[shV d c (.slice fa fn fcp) (.slice ta tn tcp), gdV B.s B.a B.h, .string (wrT 4 ad 0 0)] u fun e w' => e = .returned (ansV (ctl d c T B.s B.a B.h (wrT 4 ad 0 0))) ∧ Below u.heap.size u w') := fun u hu => control_any d c L _ T _ B.s B.a B.h _ u (HSr.out u hu) hmF
  obtain ⟨F, hF⟩ : ∃ Y, ctl d c T B.s B.a B.h (wrT 4 ad 0 0) = Y := ⟨_, rfl⟩
  have HYF : Hid (ctl d c T B.s B.a B.h (wrT 4 ad 0 0) = F) := hF
  rw [hF] at HCF
  clear hF hmF
  have FF : Hid (F = bad 2 ad 0 8) := by
    show _ = _
    have e := HYF.out
    rw [FB.out] at e
    rw [← e]
    show ctl d c T 2 ad 0 _ = _
    rw [ctl_asked (good_addr2 (by omega) (by omega)), if_neg (by omega), if_neg (by rw [gB]; decide), act_4, if_pos rfl]
  have HVA : Hid (1 ≤ c.va ∧ c.va ≤ 255) := hva
  clear hbad hs hb1 hS1 HSr h1 gA gB HYA HYB HYC HYD HYE HYF hva
  go_upto_region 1 with (fail)
  go_cut [37] from 23 (fun bv wx => bv = .bool false ∧ Hid (Below w2.heap.size w2 wx))
  case first =>
    go_wp2_with fail
    refine (HL.out _).mono ?_
    rintro e wA ⟨rfl, hbA⟩
    have hSA := HS.out wA hbA
    go_wp2_with (refine wpList_sheet rfl _ rfl w.heap.size rfl hSA ?_)
    refine (HCk.out wA hbA).mono ?_
    rintro e wB ⟨rfl, hbB⟩
    go_wp2_with fail
    go_meet
    case rel => exact ⟨by first | rfl | exact congrArg Value.bool (decide_eq_false a2) | simp [a1, a2], bsq hbA hbB⟩
  case rest =>
  obtain ⟨rfl, HBwz⟩ := hcut
  rename World => wz
  go_upto_region 3 with (fail)
  go_cut [0, 5, 6, 7] from 23 (fun _ pv tw cv wx => ∃ X : Nat, pv = .pointer (some ⟨X, 0, none⟩) ∧ tw = .string A.t ∧ cv = .int .i64 A.e ∧ Hid (Below wz.heap.size wz wx ∧ wx.heap[X]? = some (gdO A.s A.a A.h)))
  case first =>
    refine wp_abs (fun a0 => a0.tmps.size = 146 ∧ (∀ h, a0.tmps[1]'h = .int .i64 ad) ∧ (∀ h, a0.tmps[2]'h = .pointer (some ⟨w.heap.size, 0, none⟩))) ⟨rfl, fun _ => rfl, fun _ => rfl⟩ ?_
    rintro a0 ⟨hsz, s1, s2⟩ ha0
    refine wp_region_held (S := fun W => Below wz.heap.size wz W) (by kernel_rfl) ?_
    have hS0 : Below wz.heap.size wz wz.drew := (Below.refl _ _).drew
    refine h_take (i := 0) (shV d c (.slice fa fn fcp) (.slice ta tn tcp)) rfl (by kernel_rfl) (by kernel_rfl) (by kernel_rfl) (fun _ _ _ h => h) rfl hS0 (fun W hW => by have h := run_sheet (HS.out W (bsq HBwz.out hW)); simp only [execOp]; simp only [Act.eval]; simp [Act.put, hsz, s1, s2, h]) ?_
    refine h_take (i := 1) (gdV 0 0 0) rfl (by kernel_rfl) (by kernel_rfl) (by kernel_rfl) (fun _ _ _ h => h) rfl hS0 (fun W hW => by simp [execOp, go_sem, Act.put, hsz, s1, s2]) ?_
    refine h_take (i := 2) (.int .i64 ad) rfl (by kernel_rfl) (by kernel_rfl) (by kernel_rfl) (fun _ _ _ h => h) rfl hS0 (fun W hW => by simp [execOp, go_sem, Act.put, hsz, s1, s2]) ?_
    refine h_two 3 9 (by kernel_rfl) ?_ ?_
    · refine o_call 16 #[.int .i64 4, .int .i64 ad, .int .i64 0, .int .i64 0] rfl rfl (by simp [execOp, go_sem, Act.put, hsz, s1, s2]) ((asked_any 4 ad 0 0 (by omega) _).mono ?_)
      rintro e ua ⟨rfl, hba⟩
      have hS1 : Below wz.heap.size wz ua := bsq hS0 hba
      refine ⟨_, rfl, hS1, ?_⟩
      refine h_two 4 9 (by kernel_rfl) ?_ ?_
      · refine o_call 11 #[shV d c (.slice fa fn fcp) (.slice ta tn tcp), gdV 0 0 0, .string (wrT 4 ad 0 0)] rfl rfl (by simp [execOp, go_sem, Act.put, hsz, s1, s2]) ((HCA.out _ (bsq HBwz.out hS1)).mono ?_)
        rintro e ub ⟨rfl, hbb⟩
        have hS2 : Below wz.heap.size wz ub := bsq hS1 hbb
        refine ⟨_, rfl, hS2, ?_⟩
        refine h_take (i := 5) (ansV A) rfl (by kernel_rfl) (by kernel_rfl) (by kernel_rfl) (fun _ _ _ h => h) rfl hS2 (fun W hW => by simp [execOp, go_sem, Act.put, hsz, s1, s2]) ?_
        refine h_take (i := 6) (gdV A.s A.a A.h) rfl (by kernel_rfl) (by kernel_rfl) (by kernel_rfl) (fun _ _ _ h => h) rfl hS2 (fun W hW => by simp [execOp, go_sem, Act.put, hsz, s1, s2]) ?_
        refine h_take (i := 7) (.string A.t) rfl (by kernel_rfl) (by kernel_rfl) (by kernel_rfl) (fun _ _ _ h => h) rfl hS2 (fun W hW => by simp [execOp, go_sem, Act.put, hsz, s1, s2]) ?_
        refine h_take (i := 8) (.int .i64 A.e) rfl (by kernel_rfl) (by kernel_rfl) (by kernel_rfl) (fun _ _ _ h => h) rfl hS2 (fun W hW => by simp [execOp, go_sem, Act.put, hsz, s1, s2]) ?_
        refine h_value (i := 9) (w' := ub.alloc (gdO 0 0 0)) (.pointer (some ⟨ub.heap.size, 0, none⟩)) rfl (by kernel_rfl) rfl (by simp [execOp, go_sem, Act.put, hsz, s1, s2]) (bsq hS2 (balloc _ _)) ?_
        have hX0 : wz.heap.size ≤ ub.heap.size := hS2.size
        have hX := (MapKept.heap_alloc ub (gdO 0 0 0)).1
        have hS3 : Below wz.heap.size wz (ub.alloc (gdO 0 0 0)) := bsq hS2 (balloc _ _)
        generalize ub.alloc (gdO 0 0 0) = ug at *
        obtain ⟨⟨zz, q0, q1, q2⟩, f0, f1, f2⟩ := gd_box hX
        obtain ⟨uf, huf, hXf, hBf⟩ := gd_put ug ub.heap.size 0 0 0 A.s A.a A.h hX
        have hSf : Below wz.heap.size wz uf := hBf _ _ hX0 hS3
        refine h_skip (i := 10) (w' := uf) rfl (by kernel_rfl) rfl (by rw [← huf]; simp [execOp, go_sem, Act.put, hsz, s1, s2, zz, q0, q1, q2, f0, f1, f2]) hSf ?_
        refine h_value (i := 11) (w' := uf) (.string A.t) rfl (by kernel_rfl) rfl (by simp [execOp, go_sem, Act.put, hsz, s1, s2]) hSf ?_
        refine h_value (i := 12) (w' := uf) (.int .i64 A.e) rfl (by kernel_rfl) rfl (by simp [execOp, go_sem, Act.put, hsz, s1, s2]) hSf ?_
        refine wpAnyH_done (by kernel_rfl) ?_ _
        generalize ub.heap.size = XX at *
        subst ha0
        clear hsz s1 s2
        clear huf hBf zz q0 q1 q2 f0 f1 f2
        go_simp
        go_wp2_with fail
        go_meet
        case rel => exact ⟨XX, rfl, rfl, rfl, hSf, hXf⟩
      · refine o_value (w' := ua.alloc (gdO 0 0 0)) (.pointer (some ⟨ua.heap.size, 0, none⟩)) rfl rfl (by simp [execOp, go_sem, Act.put, hsz, s1, s2]) ?_
        have hX0 : wz.heap.size ≤ ua.heap.size := hS1.size
        have hX := (MapKept.heap_alloc ua (gdO 0 0 0)).1
        have hS3 : Below wz.heap.size wz (ua.alloc (gdO 0 0 0)) := bsq hS1 (balloc _ _)
        generalize ua.alloc (gdO 0 0 0) = ug at *
        refine ⟨hS3, ?_⟩
        refine wpAnyH_all (rs := [4]) (by kernel_rfl) (by simp) (fun k hk => ?_)
        obtain rfl : k = 4 := by simpa using hk
        refine o_call 11 #[shV d c (.slice fa fn fcp) (.slice ta tn tcp), gdV 0 0 0, .string (wrT 4 ad 0 0)] rfl rfl (by simp [execOp, go_sem, Act.put, hsz, s1, s2]) ((HCA.out _ (bsq HBwz.out hS3)).mono ?_)
        rintro e ub ⟨rfl, hbb⟩
        have hS2 : Below wz.heap.size wz ub := bsq hS3 hbb
        have hX := keep hX hbb
        refine ⟨_, rfl, hS2, ?_⟩
        refine h_take (i := 5) (ansV A) rfl (by kernel_rfl) (by kernel_rfl) (by kernel_rfl) (fun _ _ _ h => h) rfl hS2 (fun W hW => by simp [execOp, go_sem, Act.put, hsz, s1, s2]) ?_
        refine h_take (i := 6) (gdV A.s A.a A.h) rfl (by kernel_rfl) (by kernel_rfl) (by kernel_rfl) (fun _ _ _ h => h) rfl hS2 (fun W hW => by simp [execOp, go_sem, Act.put, hsz, s1, s2]) ?_
        refine h_take (i := 7) (.string A.t) rfl (by kernel_rfl) (by kernel_rfl) (by kernel_rfl) (fun _ _ _ h => h) rfl hS2 (fun W hW => by simp [execOp, go_sem, Act.put, hsz, s1, s2]) ?_
        refine h_take (i := 8) (.int .i64 A.e) rfl (by kernel_rfl) (by kernel_rfl) (by kernel_rfl) (fun _ _ _ h => h) rfl hS2 (fun W hW => by simp [execOp, go_sem, Act.put, hsz, s1, s2]) ?_
        obtain ⟨⟨zz, q0, q1, q2⟩, f0, f1, f2⟩ := gd_box hX
        obtain ⟨uf, huf, hXf, hBf⟩ := gd_put ub ua.heap.size 0 0 0 A.s A.a A.h hX
        have hSf : Below wz.heap.size wz uf := hBf _ _ hX0 hS2
        refine h_skip (i := 10) (w' := uf) rfl (by kernel_rfl) rfl (by rw [← huf]; simp [execOp, go_sem, Act.put, hsz, s1, s2, zz, q0, q1, q2, f0, f1, f2]) hSf ?_
        refine h_value (i := 11) (w' := uf) (.string A.t) rfl (by kernel_rfl) rfl (by simp [execOp, go_sem, Act.put, hsz, s1, s2]) hSf ?_
        refine h_value (i := 12) (w' := uf) (.int .i64 A.e) rfl (by kernel_rfl) rfl (by simp [execOp, go_sem, Act.put, hsz, s1, s2]) hSf ?_
        refine wpAnyH_done (by kernel_rfl) ?_ _
        generalize ua.heap.size = XX at *
        subst ha0
        clear hsz s1 s2
        clear huf hBf zz q0 q1 q2 f0 f1 f2
        go_simp
        go_wp2_with fail
        go_meet
        case rel => exact ⟨XX, rfl, rfl, rfl, hSf, hXf⟩
    · refine o_value (w' := wz.drew.alloc (gdO 0 0 0)) (.pointer (some ⟨wz.drew.heap.size, 0, none⟩)) rfl rfl (by simp [execOp, go_sem, Act.put, hsz, s1, s2]) ?_
      have hX0 : wz.heap.size ≤ wz.drew.heap.size := Nat.le_refl _
      have hX := (MapKept.heap_alloc wz.drew (gdO 0 0 0)).1
      have hS3 : Below wz.heap.size wz (wz.drew.alloc (gdO 0 0 0)) := bsq hS0 (balloc _ _)
      generalize wz.drew.heap.size = XB at *
      generalize wz.drew.alloc (gdO 0 0 0) = ug at *
      refine ⟨hS3, ?_⟩
      refine wpAnyH_all (rs := [3]) (by kernel_rfl) (by simp) (fun k hk => ?_)
      obtain rfl : k = 3 := by simpa using hk
      refine o_call 16 #[.int .i64 4, .int .i64 ad, .int .i64 0, .int .i64 0] rfl rfl (by simp [execOp, go_sem, Act.put, hsz, s1, s2]) ((asked_any 4 ad 0 0 (by omega) _).mono ?_)
      rintro e ua ⟨rfl, hba⟩
      have hS1 : Below wz.heap.size wz ua := bsq hS3 hba
      have hX := keep hX hba
      refine ⟨_, rfl, hS1, ?_⟩
      refine wpAnyH_all (rs := [4]) (by kernel_rfl) (by simp) (fun k hk => ?_)
      obtain rfl : k = 4 := by simpa using hk
      refine o_call 11 #[shV d c (.slice fa fn fcp) (.slice ta tn tcp), gdV 0 0 0, .string (wrT 4 ad 0 0)] rfl rfl (by simp [execOp, go_sem, Act.put, hsz, s1, s2]) ((HCA.out _ (bsq HBwz.out hS1)).mono ?_)
      rintro e ub ⟨rfl, hbb⟩
      have hS2 : Below wz.heap.size wz ub := bsq hS1 hbb
      have hX := keep hX hbb
      refine ⟨_, rfl, hS2, ?_⟩
      refine h_take (i := 5) (ansV A) rfl (by kernel_rfl) (by kernel_rfl) (by kernel_rfl) (fun _ _ _ h => h) rfl hS2 (fun W hW => by simp [execOp, go_sem, Act.put, hsz, s1, s2]) ?_
      refine h_take (i := 6) (gdV A.s A.a A.h) rfl (by kernel_rfl) (by kernel_rfl) (by kernel_rfl) (fun _ _ _ h => h) rfl hS2 (fun W hW => by simp [execOp, go_sem, Act.put, hsz, s1, s2]) ?_
      refine h_take (i := 7) (.string A.t) rfl (by kernel_rfl) (by kernel_rfl) (by kernel_rfl) (fun _ _ _ h => h) rfl hS2 (fun W hW => by simp [execOp, go_sem, Act.put, hsz, s1, s2]) ?_
      refine h_take (i := 8) (.int .i64 A.e) rfl (by kernel_rfl) (by kernel_rfl) (by kernel_rfl) (fun _ _ _ h => h) rfl hS2 (fun W hW => by simp [execOp, go_sem, Act.put, hsz, s1, s2]) ?_
      obtain ⟨⟨zz, q0, q1, q2⟩, f0, f1, f2⟩ := gd_box hX
      obtain ⟨uf, huf, hXf, hBf⟩ := gd_put ub XB 0 0 0 A.s A.a A.h hX
      have hSf : Below wz.heap.size wz uf := hBf _ _ hX0 hS2
      refine h_skip (i := 10) (w' := uf) rfl (by kernel_rfl) rfl (by rw [← huf]; simp [execOp, go_sem, Act.put, hsz, s1, s2, zz, q0, q1, q2, f0, f1, f2]) hSf ?_
      refine h_value (i := 11) (w' := uf) (.string A.t) rfl (by kernel_rfl) rfl (by simp [execOp, go_sem, Act.put, hsz, s1, s2]) hSf ?_
      refine h_value (i := 12) (w' := uf) (.int .i64 A.e) rfl (by kernel_rfl) rfl (by simp [execOp, go_sem, Act.put, hsz, s1, s2]) hSf ?_
      refine wpAnyH_done (by kernel_rfl) ?_ _
      generalize XB = XX at *
      subst ha0
      clear hsz s1 s2
      clear huf hBf zz q0 q1 q2 f0 f1 f2
      go_simp
      go_wp2_with fail
      go_meet
      case rel => exact ⟨XX, rfl, rfl, rfl, hSf, hXf⟩
  case rest =>
  rename World => wA
  obtain ⟨XG, rfl, rfl, rfl, HX⟩ := hcut
  have HBwA : Hid (Below w2.heap.size w2 wA) := bsq HBwz.out HX.out.1
  have HwzwA : Hid (Below wz.heap.size wz wA) := HX.out.1
  have FXG : Hid (∀ W : World, Below wA.heap.size wA W → W.heap[XG]? = some (gdO A.s A.a A.h)) := fun W hW => keep HX.out.2 hW
  clear HX
  go_upto_region 4 with (fail)
  go_cut [8, 9, 10] from 23 (fun pv tw cv wx => ∃ X : Nat, pv = .pointer (some ⟨X, 0, none⟩) ∧ tw = .string B.t ∧ cv = .int .i64 B.e ∧ Hid (Below wA.heap.size wA wx ∧ wx.heap[X]? = some (gdO B.s B.a B.h)))
  case first =>
    refine wp_abs (fun a0 => a0.tmps.size = 146 ∧ (∀ h, a0.tmps[2]'h = .pointer (some ⟨w.heap.size, 0, none⟩)) ∧ (∀ h, a0.tmps[5]'h = .pointer (some ⟨XG, 0, none⟩))) ⟨rfl, fun _ => rfl, fun _ => rfl⟩ ?_
    rintro a0 ⟨hsz, s2, s5⟩ ha0
    refine wp_region_held (S := fun W => Below wA.heap.size wA W) (by kernel_rfl) ?_
    have hS0 : Below wA.heap.size wA wA.drew := (Below.refl _ _).drew
    refine h_take (i := 0) (shV d c (.slice fa fn fcp) (.slice ta tn tcp)) rfl (by kernel_rfl) (by kernel_rfl) (by kernel_rfl) (fun _ _ _ h => h) rfl hS0 (fun W hW => by have h := run_sheet (HS.out W (bsq HBwA.out hW)); simp only [execOp]; simp only [Act.eval]; simp [Act.put, hsz, s2, s5, h]) ?_
    refine h_take (i := 1) (gdV A.s A.a A.h) rfl (by kernel_rfl) (by kernel_rfl) (by kernel_rfl) (fun _ _ _ h => h) rfl hS0 (fun W hW => by obtain ⟨⟨zg, g0, g1, g2⟩, _⟩ := gd_box (FXG.out W hW); simp [execOp, go_sem, Act.put, hsz, s2, s5, g0, g1, g2]) ?_
    refine h_take (i := 2) (.pointer (some ⟨w.heap.size, 12, none⟩)) rfl (by kernel_rfl) (by kernel_rfl) (by kernel_rfl) (fun _ _ _ h => h) rfl hS0 (fun W hW => by simp [execOp, go_sem, Act.put, hsz, s2, s5]) ?_
    refine h_take (i := 3) (.pointer (some ⟨w.heap.size, 12, none⟩)) rfl (by kernel_rfl) (by kernel_rfl) (by kernel_rfl) (fun _ _ _ h => h) rfl hS0 (fun W hW => by simp [execOp, go_sem, Act.put, hsz, s2, s5]) ?_
    refine h_take (i := 4) (.int .i64 c.va) rfl (by kernel_rfl) (by kernel_rfl) (by kernel_rfl) (fun _ _ _ h => h) rfl hS0 (fun W hW => by have hc := (ShC.of (HS.out W (bsq HBwA.out hW))).c12; simp [execOp, go_sem, Act.put, hsz, s2, s5, hc]) ?_
    refine h_two 5 11 (by kernel_rfl) ?_ ?_
    · refine o_call 16 #[.int .i64 6, .int .i64 c.va, .int .i64 0, .int .i64 0] rfl rfl (by simp [execOp, go_sem, Act.put, hsz, s2, s5]) ((asked_any 6 c.va 0 0 (by omega) _).mono ?_)
      rintro e ua ⟨rfl, hba⟩
      have hS1 : Below wA.heap.size wA ua := bsq hS0 hba
      refine ⟨_, rfl, hS1, ?_⟩
      refine h_two 6 11 (by kernel_rfl) ?_ ?_
      · refine o_call 11 #[shV d c (.slice fa fn fcp) (.slice ta tn tcp), gdV A.s A.a A.h, .string (wrT 6 c.va 0 0)] rfl rfl (by simp [execOp, go_sem, Act.put, hsz, s2, s5]) ((HCB.out _ (bsq HBwA.out hS1)).mono ?_)
        rintro e ub ⟨rfl, hbb⟩
        have hS2 : Below wA.heap.size wA ub := bsq hS1 hbb
        refine ⟨_, rfl, hS2, ?_⟩
        refine h_take (i := 7) (ansV B) rfl (by kernel_rfl) (by kernel_rfl) (by kernel_rfl) (fun _ _ _ h => h) rfl hS2 (fun W hW => by simp [execOp, go_sem, Act.put, hsz, s2, s5]) ?_
        refine h_take (i := 8) (gdV B.s B.a B.h) rfl (by kernel_rfl) (by kernel_rfl) (by kernel_rfl) (fun _ _ _ h => h) rfl hS2 (fun W hW => by simp [execOp, go_sem, Act.put, hsz, s2, s5]) ?_
        refine h_take (i := 9) (.string B.t) rfl (by kernel_rfl) (by kernel_rfl) (by kernel_rfl) (fun _ _ _ h => h) rfl hS2 (fun W hW => by simp [execOp, go_sem, Act.put, hsz, s2, s5]) ?_
        refine h_take (i := 10) (.int .i64 B.e) rfl (by kernel_rfl) (by kernel_rfl) (by kernel_rfl) (fun _ _ _ h => h) rfl hS2 (fun W hW => by simp [execOp, go_sem, Act.put, hsz, s2, s5]) ?_
        refine h_value (i := 11) (w' := ub.alloc (gdO 0 0 0)) (.pointer (some ⟨ub.heap.size, 0, none⟩)) rfl (by kernel_rfl) rfl (by simp [execOp, go_sem, Act.put, hsz, s2, s5]) (bsq hS2 (balloc _ _)) ?_
        have hX0 : wA.heap.size ≤ ub.heap.size := hS2.size
        have hX := (MapKept.heap_alloc ub (gdO 0 0 0)).1
        have hS3 : Below wA.heap.size wA (ub.alloc (gdO 0 0 0)) := bsq hS2 (balloc _ _)
        generalize ub.alloc (gdO 0 0 0) = ug at *
        obtain ⟨⟨zz, q0, q1, q2⟩, f0, f1, f2⟩ := gd_box hX
        obtain ⟨uf, huf, hXf, hBf⟩ := gd_put ug ub.heap.size 0 0 0 B.s B.a B.h hX
        have hSf : Below wA.heap.size wA uf := hBf _ _ hX0 hS3
        refine h_skip (i := 12) (w' := uf) rfl (by kernel_rfl) rfl (by rw [← huf]; simp [execOp, go_sem, Act.put, hsz, s2, s5, zz, q0, q1, q2, f0, f1, f2]) hSf ?_
        refine h_value (i := 13) (w' := uf) (.string B.t) rfl (by kernel_rfl) rfl (by simp [execOp, go_sem, Act.put, hsz, s2, s5]) hSf ?_
        refine h_value (i := 14) (w' := uf) (.int .i64 B.e) rfl (by kernel_rfl) rfl (by simp [execOp, go_sem, Act.put, hsz, s2, s5]) hSf ?_
        refine wpAnyH_done (by kernel_rfl) ?_ _
        generalize ub.heap.size = XX at *
        subst ha0
        clear hsz s2 s5
        clear huf hBf zz q0 q1 q2 f0 f1 f2
        go_simp
        go_wp2_with fail
        go_meet
        case rel => exact ⟨XX, rfl, rfl, rfl, hSf, hXf⟩
      · refine o_value (w' := ua.alloc (gdO 0 0 0)) (.pointer (some ⟨ua.heap.size, 0, none⟩)) rfl rfl (by simp [execOp, go_sem, Act.put, hsz, s2, s5]) ?_
        have hX0 : wA.heap.size ≤ ua.heap.size := hS1.size
        have hX := (MapKept.heap_alloc ua (gdO 0 0 0)).1
        have hS3 : Below wA.heap.size wA (ua.alloc (gdO 0 0 0)) := bsq hS1 (balloc _ _)
        generalize ua.alloc (gdO 0 0 0) = ug at *
        refine ⟨hS3, ?_⟩
        refine wpAnyH_all (rs := [6]) (by kernel_rfl) (by simp) (fun k hk => ?_)
        obtain rfl : k = 6 := by simpa using hk
        refine o_call 11 #[shV d c (.slice fa fn fcp) (.slice ta tn tcp), gdV A.s A.a A.h, .string (wrT 6 c.va 0 0)] rfl rfl (by simp [execOp, go_sem, Act.put, hsz, s2, s5]) ((HCB.out _ (bsq HBwA.out hS3)).mono ?_)
        rintro e ub ⟨rfl, hbb⟩
        have hS2 : Below wA.heap.size wA ub := bsq hS3 hbb
        have hX := keep hX hbb
        refine ⟨_, rfl, hS2, ?_⟩
        refine h_take (i := 7) (ansV B) rfl (by kernel_rfl) (by kernel_rfl) (by kernel_rfl) (fun _ _ _ h => h) rfl hS2 (fun W hW => by simp [execOp, go_sem, Act.put, hsz, s2, s5]) ?_
        refine h_take (i := 8) (gdV B.s B.a B.h) rfl (by kernel_rfl) (by kernel_rfl) (by kernel_rfl) (fun _ _ _ h => h) rfl hS2 (fun W hW => by simp [execOp, go_sem, Act.put, hsz, s2, s5]) ?_
        refine h_take (i := 9) (.string B.t) rfl (by kernel_rfl) (by kernel_rfl) (by kernel_rfl) (fun _ _ _ h => h) rfl hS2 (fun W hW => by simp [execOp, go_sem, Act.put, hsz, s2, s5]) ?_
        refine h_take (i := 10) (.int .i64 B.e) rfl (by kernel_rfl) (by kernel_rfl) (by kernel_rfl) (fun _ _ _ h => h) rfl hS2 (fun W hW => by simp [execOp, go_sem, Act.put, hsz, s2, s5]) ?_
        obtain ⟨⟨zz, q0, q1, q2⟩, f0, f1, f2⟩ := gd_box hX
        obtain ⟨uf, huf, hXf, hBf⟩ := gd_put ub ua.heap.size 0 0 0 B.s B.a B.h hX
        have hSf : Below wA.heap.size wA uf := hBf _ _ hX0 hS2
        refine h_skip (i := 12) (w' := uf) rfl (by kernel_rfl) rfl (by rw [← huf]; simp [execOp, go_sem, Act.put, hsz, s2, s5, zz, q0, q1, q2, f0, f1, f2]) hSf ?_
        refine h_value (i := 13) (w' := uf) (.string B.t) rfl (by kernel_rfl) rfl (by simp [execOp, go_sem, Act.put, hsz, s2, s5]) hSf ?_
        refine h_value (i := 14) (w' := uf) (.int .i64 B.e) rfl (by kernel_rfl) rfl (by simp [execOp, go_sem, Act.put, hsz, s2, s5]) hSf ?_
        refine wpAnyH_done (by kernel_rfl) ?_ _
        generalize ua.heap.size = XX at *
        subst ha0
        clear hsz s2 s5
        clear huf hBf zz q0 q1 q2 f0 f1 f2
        go_simp
        go_wp2_with fail
        go_meet
        case rel => exact ⟨XX, rfl, rfl, rfl, hSf, hXf⟩
    · refine o_value (w' := wA.drew.alloc (gdO 0 0 0)) (.pointer (some ⟨wA.drew.heap.size, 0, none⟩)) rfl rfl (by simp [execOp, go_sem, Act.put, hsz, s2, s5]) ?_
      have hX0 : wA.heap.size ≤ wA.drew.heap.size := Nat.le_refl _
      have hX := (MapKept.heap_alloc wA.drew (gdO 0 0 0)).1
      have hS3 : Below wA.heap.size wA (wA.drew.alloc (gdO 0 0 0)) := bsq hS0 (balloc _ _)
      generalize wA.drew.heap.size = XB at *
      generalize wA.drew.alloc (gdO 0 0 0) = ug at *
      refine ⟨hS3, ?_⟩
      refine wpAnyH_all (rs := [5]) (by kernel_rfl) (by simp) (fun k hk => ?_)
      obtain rfl : k = 5 := by simpa using hk
      refine o_call 16 #[.int .i64 6, .int .i64 c.va, .int .i64 0, .int .i64 0] rfl rfl (by simp [execOp, go_sem, Act.put, hsz, s2, s5]) ((asked_any 6 c.va 0 0 (by omega) _).mono ?_)
      rintro e ua ⟨rfl, hba⟩
      have hS1 : Below wA.heap.size wA ua := bsq hS3 hba
      have hX := keep hX hba
      refine ⟨_, rfl, hS1, ?_⟩
      refine wpAnyH_all (rs := [6]) (by kernel_rfl) (by simp) (fun k hk => ?_)
      obtain rfl : k = 6 := by simpa using hk
      refine o_call 11 #[shV d c (.slice fa fn fcp) (.slice ta tn tcp), gdV A.s A.a A.h, .string (wrT 6 c.va 0 0)] rfl rfl (by simp [execOp, go_sem, Act.put, hsz, s2, s5]) ((HCB.out _ (bsq HBwA.out hS1)).mono ?_)
      rintro e ub ⟨rfl, hbb⟩
      have hS2 : Below wA.heap.size wA ub := bsq hS1 hbb
      have hX := keep hX hbb
      refine ⟨_, rfl, hS2, ?_⟩
      refine h_take (i := 7) (ansV B) rfl (by kernel_rfl) (by kernel_rfl) (by kernel_rfl) (fun _ _ _ h => h) rfl hS2 (fun W hW => by simp [execOp, go_sem, Act.put, hsz, s2, s5]) ?_
      refine h_take (i := 8) (gdV B.s B.a B.h) rfl (by kernel_rfl) (by kernel_rfl) (by kernel_rfl) (fun _ _ _ h => h) rfl hS2 (fun W hW => by simp [execOp, go_sem, Act.put, hsz, s2, s5]) ?_
      refine h_take (i := 9) (.string B.t) rfl (by kernel_rfl) (by kernel_rfl) (by kernel_rfl) (fun _ _ _ h => h) rfl hS2 (fun W hW => by simp [execOp, go_sem, Act.put, hsz, s2, s5]) ?_
      refine h_take (i := 10) (.int .i64 B.e) rfl (by kernel_rfl) (by kernel_rfl) (by kernel_rfl) (fun _ _ _ h => h) rfl hS2 (fun W hW => by simp [execOp, go_sem, Act.put, hsz, s2, s5]) ?_
      obtain ⟨⟨zz, q0, q1, q2⟩, f0, f1, f2⟩ := gd_box hX
      obtain ⟨uf, huf, hXf, hBf⟩ := gd_put ub XB 0 0 0 B.s B.a B.h hX
      have hSf : Below wA.heap.size wA uf := hBf _ _ hX0 hS2
      refine h_skip (i := 12) (w' := uf) rfl (by kernel_rfl) rfl (by rw [← huf]; simp [execOp, go_sem, Act.put, hsz, s2, s5, zz, q0, q1, q2, f0, f1, f2]) hSf ?_
      refine h_value (i := 13) (w' := uf) (.string B.t) rfl (by kernel_rfl) rfl (by simp [execOp, go_sem, Act.put, hsz, s2, s5]) hSf ?_
      refine h_value (i := 14) (w' := uf) (.int .i64 B.e) rfl (by kernel_rfl) rfl (by simp [execOp, go_sem, Act.put, hsz, s2, s5]) hSf ?_
      refine wpAnyH_done (by kernel_rfl) ?_ _
      generalize XB = XX at *
      subst ha0
      clear hsz s2 s5
      clear huf hBf zz q0 q1 q2 f0 f1 f2
      go_simp
      go_wp2_with fail
      go_meet
      case rel => exact ⟨XX, rfl, rfl, rfl, hSf, hXf⟩
  case rest =>
  rename World => wB
  obtain ⟨XH, rfl, rfl, rfl, HX⟩ := hcut
  have HBwB : Hid (Below w2.heap.size w2 wB) := bsq HBwA.out HX.out.1
  have HwAwB : Hid (Below wA.heap.size wA wB) := HX.out.1
  have FXH : Hid (∀ W : World, Below wB.heap.size wB W → W.heap[XH]? = some (gdO B.s B.a B.h)) := fun W hW => keep HX.out.2 hW
  clear HX
  go_upto_region 5 with (fail)
  go_cut [11, 12, 13] from 23 (fun pv tw cv wx => ∃ X : Nat, pv = .pointer (some ⟨X, 0, none⟩) ∧ tw = .string C.t ∧ cv = .int .i64 C.e ∧ Hid (Below wB.heap.size wB wx ∧ wx.heap[X]? = some (gdO C.s C.a C.h)))
  case first =>
    refine wp_abs (fun a0 => a0.tmps.size = 146 ∧ (∀ h, a0.tmps[2]'h = .pointer (some ⟨w.heap.size, 0, none⟩)) ∧ (∀ h, a0.tmps[8]'h = .pointer (some ⟨XH, 0, none⟩))) ⟨rfl, fun _ => rfl, fun _ => rfl⟩ ?_
    rintro a0 ⟨hsz, s2, s8⟩ ha0
    refine wp_region_held (S := fun W => Below wB.heap.size wB W) (by kernel_rfl) ?_
    have hS0 : Below wB.heap.size wB wB.drew := (Below.refl _ _).drew
    refine h_take (i := 0) (shV d c (.slice fa fn fcp) (.slice ta tn tcp)) rfl (by kernel_rfl) (by kernel_rfl) (by kernel_rfl) (fun _ _ _ h => h) rfl hS0 (fun W hW => by have h := run_sheet (HS.out W (bsq HBwB.out hW)); simp only [execOp]; simp only [Act.eval]; simp [Act.put, hsz, s2, s8, h]) ?_
    refine h_take (i := 1) (gdV B.s B.a B.h) rfl (by kernel_rfl) (by kernel_rfl) (by kernel_rfl) (fun _ _ _ h => h) rfl hS0 (fun W hW => by obtain ⟨⟨zg, g0, g1, g2⟩, _⟩ := gd_box (FXH.out W hW); simp [execOp, go_sem, Act.put, hsz, s2, s8, g0, g1, g2]) ?_
    refine h_two 2 8 (by kernel_rfl) ?_ ?_
    · refine o_call 16 #[.int .i64 7, .int .i64 0, .int .i64 0, .int .i64 1] rfl rfl (by simp [execOp, go_sem, Act.put, hsz, s2, s8]) ((asked_any 7 0 0 1 (by omega) _).mono ?_)
      rintro e ua ⟨rfl, hba⟩
      have hS1 : Below wB.heap.size wB ua := bsq hS0 hba
      refine ⟨_, rfl, hS1, ?_⟩
      refine h_two 3 8 (by kernel_rfl) ?_ ?_
      · refine o_call 11 #[shV d c (.slice fa fn fcp) (.slice ta tn tcp), gdV B.s B.a B.h, .string (wrT 7 0 0 1)] rfl rfl (by simp [execOp, go_sem, Act.put, hsz, s2, s8]) ((HCC.out _ (bsq HBwB.out hS1)).mono ?_)
        rintro e ub ⟨rfl, hbb⟩
        have hS2 : Below wB.heap.size wB ub := bsq hS1 hbb
        refine ⟨_, rfl, hS2, ?_⟩
        refine h_take (i := 4) (ansV C) rfl (by kernel_rfl) (by kernel_rfl) (by kernel_rfl) (fun _ _ _ h => h) rfl hS2 (fun W hW => by simp [execOp, go_sem, Act.put, hsz, s2, s8]) ?_
        refine h_take (i := 5) (gdV C.s C.a C.h) rfl (by kernel_rfl) (by kernel_rfl) (by kernel_rfl) (fun _ _ _ h => h) rfl hS2 (fun W hW => by simp [execOp, go_sem, Act.put, hsz, s2, s8]) ?_
        refine h_take (i := 6) (.string C.t) rfl (by kernel_rfl) (by kernel_rfl) (by kernel_rfl) (fun _ _ _ h => h) rfl hS2 (fun W hW => by simp [execOp, go_sem, Act.put, hsz, s2, s8]) ?_
        refine h_take (i := 7) (.int .i64 C.e) rfl (by kernel_rfl) (by kernel_rfl) (by kernel_rfl) (fun _ _ _ h => h) rfl hS2 (fun W hW => by simp [execOp, go_sem, Act.put, hsz, s2, s8]) ?_
        refine h_value (i := 8) (w' := ub.alloc (gdO 0 0 0)) (.pointer (some ⟨ub.heap.size, 0, none⟩)) rfl (by kernel_rfl) rfl (by simp [execOp, go_sem, Act.put, hsz, s2, s8]) (bsq hS2 (balloc _ _)) ?_
        have hX0 : wB.heap.size ≤ ub.heap.size := hS2.size
        have hX := (MapKept.heap_alloc ub (gdO 0 0 0)).1
        have hS3 : Below wB.heap.size wB (ub.alloc (gdO 0 0 0)) := bsq hS2 (balloc _ _)
        generalize ub.alloc (gdO 0 0 0) = ug at *
        obtain ⟨⟨zz, q0, q1, q2⟩, f0, f1, f2⟩ := gd_box hX
        obtain ⟨uf, huf, hXf, hBf⟩ := gd_put ug ub.heap.size 0 0 0 C.s C.a C.h hX
        have hSf : Below wB.heap.size wB uf := hBf _ _ hX0 hS3
        refine h_skip (i := 9) (w' := uf) rfl (by kernel_rfl) rfl (by rw [← huf]; simp [execOp, go_sem, Act.put, hsz, s2, s8, zz, q0, q1, q2, f0, f1, f2]) hSf ?_
        refine h_value (i := 10) (w' := uf) (.string C.t) rfl (by kernel_rfl) rfl (by simp [execOp, go_sem, Act.put, hsz, s2, s8]) hSf ?_
        refine h_value (i := 11) (w' := uf) (.int .i64 C.e) rfl (by kernel_rfl) rfl (by simp [execOp, go_sem, Act.put, hsz, s2, s8]) hSf ?_
        refine wpAnyH_done (by kernel_rfl) ?_ _
        generalize ub.heap.size = XX at *
        subst ha0
        clear hsz s2 s8
        clear huf hBf zz q0 q1 q2 f0 f1 f2
        go_simp
        go_wp2_with fail
        go_meet
        case rel => exact ⟨XX, rfl, rfl, rfl, hSf, hXf⟩
      · refine o_value (w' := ua.alloc (gdO 0 0 0)) (.pointer (some ⟨ua.heap.size, 0, none⟩)) rfl rfl (by simp [execOp, go_sem, Act.put, hsz, s2, s8]) ?_
        have hX0 : wB.heap.size ≤ ua.heap.size := hS1.size
        have hX := (MapKept.heap_alloc ua (gdO 0 0 0)).1
        have hS3 : Below wB.heap.size wB (ua.alloc (gdO 0 0 0)) := bsq hS1 (balloc _ _)
        generalize ua.alloc (gdO 0 0 0) = ug at *
        refine ⟨hS3, ?_⟩
        refine wpAnyH_all (rs := [3]) (by kernel_rfl) (by simp) (fun k hk => ?_)
        obtain rfl : k = 3 := by simpa using hk
        refine o_call 11 #[shV d c (.slice fa fn fcp) (.slice ta tn tcp), gdV B.s B.a B.h, .string (wrT 7 0 0 1)] rfl rfl (by simp [execOp, go_sem, Act.put, hsz, s2, s8]) ((HCC.out _ (bsq HBwB.out hS3)).mono ?_)
        rintro e ub ⟨rfl, hbb⟩
        have hS2 : Below wB.heap.size wB ub := bsq hS3 hbb
        have hX := keep hX hbb
        refine ⟨_, rfl, hS2, ?_⟩
        refine h_take (i := 4) (ansV C) rfl (by kernel_rfl) (by kernel_rfl) (by kernel_rfl) (fun _ _ _ h => h) rfl hS2 (fun W hW => by simp [execOp, go_sem, Act.put, hsz, s2, s8]) ?_
        refine h_take (i := 5) (gdV C.s C.a C.h) rfl (by kernel_rfl) (by kernel_rfl) (by kernel_rfl) (fun _ _ _ h => h) rfl hS2 (fun W hW => by simp [execOp, go_sem, Act.put, hsz, s2, s8]) ?_
        refine h_take (i := 6) (.string C.t) rfl (by kernel_rfl) (by kernel_rfl) (by kernel_rfl) (fun _ _ _ h => h) rfl hS2 (fun W hW => by simp [execOp, go_sem, Act.put, hsz, s2, s8]) ?_
        refine h_take (i := 7) (.int .i64 C.e) rfl (by kernel_rfl) (by kernel_rfl) (by kernel_rfl) (fun _ _ _ h => h) rfl hS2 (fun W hW => by simp [execOp, go_sem, Act.put, hsz, s2, s8]) ?_
        obtain ⟨⟨zz, q0, q1, q2⟩, f0, f1, f2⟩ := gd_box hX
        obtain ⟨uf, huf, hXf, hBf⟩ := gd_put ub ua.heap.size 0 0 0 C.s C.a C.h hX
        have hSf : Below wB.heap.size wB uf := hBf _ _ hX0 hS2
        refine h_skip (i := 9) (w' := uf) rfl (by kernel_rfl) rfl (by rw [← huf]; simp [execOp, go_sem, Act.put, hsz, s2, s8, zz, q0, q1, q2, f0, f1, f2]) hSf ?_
        refine h_value (i := 10) (w' := uf) (.string C.t) rfl (by kernel_rfl) rfl (by simp [execOp, go_sem, Act.put, hsz, s2, s8]) hSf ?_
        refine h_value (i := 11) (w' := uf) (.int .i64 C.e) rfl (by kernel_rfl) rfl (by simp [execOp, go_sem, Act.put, hsz, s2, s8]) hSf ?_
        refine wpAnyH_done (by kernel_rfl) ?_ _
        generalize ua.heap.size = XX at *
        subst ha0
        clear hsz s2 s8
        clear huf hBf zz q0 q1 q2 f0 f1 f2
        go_simp
        go_wp2_with fail
        go_meet
        case rel => exact ⟨XX, rfl, rfl, rfl, hSf, hXf⟩
    · refine o_value (w' := wB.drew.alloc (gdO 0 0 0)) (.pointer (some ⟨wB.drew.heap.size, 0, none⟩)) rfl rfl (by simp [execOp, go_sem, Act.put, hsz, s2, s8]) ?_
      have hX0 : wB.heap.size ≤ wB.drew.heap.size := Nat.le_refl _
      have hX := (MapKept.heap_alloc wB.drew (gdO 0 0 0)).1
      have hS3 : Below wB.heap.size wB (wB.drew.alloc (gdO 0 0 0)) := bsq hS0 (balloc _ _)
      generalize wB.drew.heap.size = XB at *
      generalize wB.drew.alloc (gdO 0 0 0) = ug at *
      refine ⟨hS3, ?_⟩
      refine wpAnyH_all (rs := [2]) (by kernel_rfl) (by simp) (fun k hk => ?_)
      obtain rfl : k = 2 := by simpa using hk
      refine o_call 16 #[.int .i64 7, .int .i64 0, .int .i64 0, .int .i64 1] rfl rfl (by simp [execOp, go_sem, Act.put, hsz, s2, s8]) ((asked_any 7 0 0 1 (by omega) _).mono ?_)
      rintro e ua ⟨rfl, hba⟩
      have hS1 : Below wB.heap.size wB ua := bsq hS3 hba
      have hX := keep hX hba
      refine ⟨_, rfl, hS1, ?_⟩
      refine wpAnyH_all (rs := [3]) (by kernel_rfl) (by simp) (fun k hk => ?_)
      obtain rfl : k = 3 := by simpa using hk
      refine o_call 11 #[shV d c (.slice fa fn fcp) (.slice ta tn tcp), gdV B.s B.a B.h, .string (wrT 7 0 0 1)] rfl rfl (by simp [execOp, go_sem, Act.put, hsz, s2, s8]) ((HCC.out _ (bsq HBwB.out hS1)).mono ?_)
      rintro e ub ⟨rfl, hbb⟩
      have hS2 : Below wB.heap.size wB ub := bsq hS1 hbb
      have hX := keep hX hbb
      refine ⟨_, rfl, hS2, ?_⟩
      refine h_take (i := 4) (ansV C) rfl (by kernel_rfl) (by kernel_rfl) (by kernel_rfl) (fun _ _ _ h => h) rfl hS2 (fun W hW => by simp [execOp, go_sem, Act.put, hsz, s2, s8]) ?_
      refine h_take (i := 5) (gdV C.s C.a C.h) rfl (by kernel_rfl) (by kernel_rfl) (by kernel_rfl) (fun _ _ _ h => h) rfl hS2 (fun W hW => by simp [execOp, go_sem, Act.put, hsz, s2, s8]) ?_
      refine h_take (i := 6) (.string C.t) rfl (by kernel_rfl) (by kernel_rfl) (by kernel_rfl) (fun _ _ _ h => h) rfl hS2 (fun W hW => by simp [execOp, go_sem, Act.put, hsz, s2, s8]) ?_
      refine h_take (i := 7) (.int .i64 C.e) rfl (by kernel_rfl) (by kernel_rfl) (by kernel_rfl) (fun _ _ _ h => h) rfl hS2 (fun W hW => by simp [execOp, go_sem, Act.put, hsz, s2, s8]) ?_
      obtain ⟨⟨zz, q0, q1, q2⟩, f0, f1, f2⟩ := gd_box hX
      obtain ⟨uf, huf, hXf, hBf⟩ := gd_put ub XB 0 0 0 C.s C.a C.h hX
      have hSf : Below wB.heap.size wB uf := hBf _ _ hX0 hS2
      refine h_skip (i := 9) (w' := uf) rfl (by kernel_rfl) rfl (by rw [← huf]; simp [execOp, go_sem, Act.put, hsz, s2, s8, zz, q0, q1, q2, f0, f1, f2]) hSf ?_
      refine h_value (i := 10) (w' := uf) (.string C.t) rfl (by kernel_rfl) rfl (by simp [execOp, go_sem, Act.put, hsz, s2, s8]) hSf ?_
      refine h_value (i := 11) (w' := uf) (.int .i64 C.e) rfl (by kernel_rfl) rfl (by simp [execOp, go_sem, Act.put, hsz, s2, s8]) hSf ?_
      refine wpAnyH_done (by kernel_rfl) ?_ _
      generalize XB = XX at *
      subst ha0
      clear hsz s2 s8
      clear huf hBf zz q0 q1 q2 f0 f1 f2
      go_simp
      go_wp2_with fail
      go_meet
      case rel => exact ⟨XX, rfl, rfl, rfl, hSf, hXf⟩
  case rest =>
  rename World => wC
  obtain ⟨XC, rfl, rfl, rfl, HX⟩ := hcut
  have HBwC : Hid (Below w2.heap.size w2 wC) := bsq HBwB.out HX.out.1
  have HwBwC : Hid (Below wB.heap.size wB wC) := HX.out.1
  have FXC : Hid (∀ W : World, Below wC.heap.size wC W → W.heap[XC]? = some (gdO C.s C.a C.h)) := fun W hW => keep HX.out.2 hW
  clear HX
  go_upto_region 6 with (fail)
  go_cut [14, 15, 16] from 23 (fun pv tw cv wx => ∃ X : Nat, pv = .pointer (some ⟨X, 0, none⟩) ∧ tw = .string D.t ∧ cv = .int .i64 D.e ∧ Hid (Below wC.heap.size wC wx ∧ wx.heap[X]? = some (gdO D.s D.a D.h)))
  case first =>
    refine wp_abs (fun a0 => a0.tmps.size = 146 ∧ (∀ h, a0.tmps[2]'h = .pointer (some ⟨w.heap.size, 0, none⟩)) ∧ (∀ h, a0.tmps[8]'h = .pointer (some ⟨XH, 0, none⟩))) ⟨rfl, fun _ => rfl, fun _ => rfl⟩ ?_
    rintro a0 ⟨hsz, s2, s8⟩ ha0
    refine wp_region_held (S := fun W => Below wC.heap.size wC W) (by kernel_rfl) ?_
    have hS0 : Below wC.heap.size wC wC.drew := (Below.refl _ _).drew
    refine h_take (i := 0) (shV d c (.slice fa fn fcp) (.slice ta tn tcp)) rfl (by kernel_rfl) (by kernel_rfl) (by kernel_rfl) (fun _ _ _ h => h) rfl hS0 (fun W hW => by have h := run_sheet (HS.out W (bsq HBwC.out hW)); simp only [execOp]; simp only [Act.eval]; simp [Act.put, hsz, s2, s8, h]) ?_
    refine h_take (i := 1) (gdV B.s B.a B.h) rfl (by kernel_rfl) (by kernel_rfl) (by kernel_rfl) (fun _ _ _ h => h) rfl hS0 (fun W hW => by obtain ⟨⟨zg, g0, g1, g2⟩, _⟩ := gd_box (FXH.out W (bsq HwBwC.out hW)); simp [execOp, go_sem, Act.put, hsz, s2, s8, g0, g1, g2]) ?_
    refine h_two 2 8 (by kernel_rfl) ?_ ?_
    · refine o_call 16 #[.int .i64 6, .int .i64 0, .int .i64 0, .int .i64 0] rfl rfl (by simp [execOp, go_sem, Act.put, hsz, s2, s8]) ((asked_any 6 0 0 0 (by omega) _).mono ?_)
      rintro e ua ⟨rfl, hba⟩
      have hS1 : Below wC.heap.size wC ua := bsq hS0 hba
      refine ⟨_, rfl, hS1, ?_⟩
      refine h_two 3 8 (by kernel_rfl) ?_ ?_
      · refine o_call 11 #[shV d c (.slice fa fn fcp) (.slice ta tn tcp), gdV B.s B.a B.h, .string (wrT 6 0 0 0)] rfl rfl (by simp [execOp, go_sem, Act.put, hsz, s2, s8]) ((HCD.out _ (bsq HBwC.out hS1)).mono ?_)
        rintro e ub ⟨rfl, hbb⟩
        have hS2 : Below wC.heap.size wC ub := bsq hS1 hbb
        refine ⟨_, rfl, hS2, ?_⟩
        refine h_take (i := 4) (ansV D) rfl (by kernel_rfl) (by kernel_rfl) (by kernel_rfl) (fun _ _ _ h => h) rfl hS2 (fun W hW => by simp [execOp, go_sem, Act.put, hsz, s2, s8]) ?_
        refine h_take (i := 5) (gdV D.s D.a D.h) rfl (by kernel_rfl) (by kernel_rfl) (by kernel_rfl) (fun _ _ _ h => h) rfl hS2 (fun W hW => by simp [execOp, go_sem, Act.put, hsz, s2, s8]) ?_
        refine h_take (i := 6) (.string D.t) rfl (by kernel_rfl) (by kernel_rfl) (by kernel_rfl) (fun _ _ _ h => h) rfl hS2 (fun W hW => by simp [execOp, go_sem, Act.put, hsz, s2, s8]) ?_
        refine h_take (i := 7) (.int .i64 D.e) rfl (by kernel_rfl) (by kernel_rfl) (by kernel_rfl) (fun _ _ _ h => h) rfl hS2 (fun W hW => by simp [execOp, go_sem, Act.put, hsz, s2, s8]) ?_
        refine h_value (i := 8) (w' := ub.alloc (gdO 0 0 0)) (.pointer (some ⟨ub.heap.size, 0, none⟩)) rfl (by kernel_rfl) rfl (by simp [execOp, go_sem, Act.put, hsz, s2, s8]) (bsq hS2 (balloc _ _)) ?_
        have hX0 : wC.heap.size ≤ ub.heap.size := hS2.size
        have hX := (MapKept.heap_alloc ub (gdO 0 0 0)).1
        have hS3 : Below wC.heap.size wC (ub.alloc (gdO 0 0 0)) := bsq hS2 (balloc _ _)
        generalize ub.alloc (gdO 0 0 0) = ug at *
        obtain ⟨⟨zz, q0, q1, q2⟩, f0, f1, f2⟩ := gd_box hX
        obtain ⟨uf, huf, hXf, hBf⟩ := gd_put ug ub.heap.size 0 0 0 D.s D.a D.h hX
        have hSf : Below wC.heap.size wC uf := hBf _ _ hX0 hS3
        refine h_skip (i := 9) (w' := uf) rfl (by kernel_rfl) rfl (by rw [← huf]; simp [execOp, go_sem, Act.put, hsz, s2, s8, zz, q0, q1, q2, f0, f1, f2]) hSf ?_
        refine h_value (i := 10) (w' := uf) (.string D.t) rfl (by kernel_rfl) rfl (by simp [execOp, go_sem, Act.put, hsz, s2, s8]) hSf ?_
        refine h_value (i := 11) (w' := uf) (.int .i64 D.e) rfl (by kernel_rfl) rfl (by simp [execOp, go_sem, Act.put, hsz, s2, s8]) hSf ?_
        refine wpAnyH_done (by kernel_rfl) ?_ _
        generalize ub.heap.size = XX at *
        subst ha0
        clear hsz s2 s8
        clear huf hBf zz q0 q1 q2 f0 f1 f2
        go_simp
        go_wp2_with fail
        go_meet
        case rel => exact ⟨XX, rfl, rfl, rfl, hSf, hXf⟩
      · refine o_value (w' := ua.alloc (gdO 0 0 0)) (.pointer (some ⟨ua.heap.size, 0, none⟩)) rfl rfl (by simp [execOp, go_sem, Act.put, hsz, s2, s8]) ?_
        have hX0 : wC.heap.size ≤ ua.heap.size := hS1.size
        have hX := (MapKept.heap_alloc ua (gdO 0 0 0)).1
        have hS3 : Below wC.heap.size wC (ua.alloc (gdO 0 0 0)) := bsq hS1 (balloc _ _)
        generalize ua.alloc (gdO 0 0 0) = ug at *
        refine ⟨hS3, ?_⟩
        refine wpAnyH_all (rs := [3]) (by kernel_rfl) (by simp) (fun k hk => ?_)
        obtain rfl : k = 3 := by simpa using hk
        refine o_call 11 #[shV d c (.slice fa fn fcp) (.slice ta tn tcp), gdV B.s B.a B.h, .string (wrT 6 0 0 0)] rfl rfl (by simp [execOp, go_sem, Act.put, hsz, s2, s8]) ((HCD.out _ (bsq HBwC.out hS3)).mono ?_)
        rintro e ub ⟨rfl, hbb⟩
        have hS2 : Below wC.heap.size wC ub := bsq hS3 hbb
        have hX := keep hX hbb
        refine ⟨_, rfl, hS2, ?_⟩
        refine h_take (i := 4) (ansV D) rfl (by kernel_rfl) (by kernel_rfl) (by kernel_rfl) (fun _ _ _ h => h) rfl hS2 (fun W hW => by simp [execOp, go_sem, Act.put, hsz, s2, s8]) ?_
        refine h_take (i := 5) (gdV D.s D.a D.h) rfl (by kernel_rfl) (by kernel_rfl) (by kernel_rfl) (fun _ _ _ h => h) rfl hS2 (fun W hW => by simp [execOp, go_sem, Act.put, hsz, s2, s8]) ?_
        refine h_take (i := 6) (.string D.t) rfl (by kernel_rfl) (by kernel_rfl) (by kernel_rfl) (fun _ _ _ h => h) rfl hS2 (fun W hW => by simp [execOp, go_sem, Act.put, hsz, s2, s8]) ?_
        refine h_take (i := 7) (.int .i64 D.e) rfl (by kernel_rfl) (by kernel_rfl) (by kernel_rfl) (fun _ _ _ h => h) rfl hS2 (fun W hW => by simp [execOp, go_sem, Act.put, hsz, s2, s8]) ?_
        obtain ⟨⟨zz, q0, q1, q2⟩, f0, f1, f2⟩ := gd_box hX
        obtain ⟨uf, huf, hXf, hBf⟩ := gd_put ub ua.heap.size 0 0 0 D.s D.a D.h hX
        have hSf : Below wC.heap.size wC uf := hBf _ _ hX0 hS2
        refine h_skip (i := 9) (w' := uf) rfl (by kernel_rfl) rfl (by rw [← huf]; simp [execOp, go_sem, Act.put, hsz, s2, s8, zz, q0, q1, q2, f0, f1, f2]) hSf ?_
        refine h_value (i := 10) (w' := uf) (.string D.t) rfl (by kernel_rfl) rfl (by simp [execOp, go_sem, Act.put, hsz, s2, s8]) hSf ?_
        refine h_value (i := 11) (w' := uf) (.int .i64 D.e) rfl (by kernel_rfl) rfl (by simp [execOp, go_sem, Act.put, hsz, s2, s8]) hSf ?_
        refine wpAnyH_done (by kernel_rfl) ?_ _
        generalize ua.heap.size = XX at *
        subst ha0
        clear hsz s2 s8
        clear huf hBf zz q0 q1 q2 f0 f1 f2
        go_simp
        go_wp2_with fail
        go_meet
        case rel => exact ⟨XX, rfl, rfl, rfl, hSf, hXf⟩
    · refine o_value (w' := wC.drew.alloc (gdO 0 0 0)) (.pointer (some ⟨wC.drew.heap.size, 0, none⟩)) rfl rfl (by simp [execOp, go_sem, Act.put, hsz, s2, s8]) ?_
      have hX0 : wC.heap.size ≤ wC.drew.heap.size := Nat.le_refl _
      have hX := (MapKept.heap_alloc wC.drew (gdO 0 0 0)).1
      have hS3 : Below wC.heap.size wC (wC.drew.alloc (gdO 0 0 0)) := bsq hS0 (balloc _ _)
      generalize wC.drew.heap.size = XB at *
      generalize wC.drew.alloc (gdO 0 0 0) = ug at *
      refine ⟨hS3, ?_⟩
      refine wpAnyH_all (rs := [2]) (by kernel_rfl) (by simp) (fun k hk => ?_)
      obtain rfl : k = 2 := by simpa using hk
      refine o_call 16 #[.int .i64 6, .int .i64 0, .int .i64 0, .int .i64 0] rfl rfl (by simp [execOp, go_sem, Act.put, hsz, s2, s8]) ((asked_any 6 0 0 0 (by omega) _).mono ?_)
      rintro e ua ⟨rfl, hba⟩
      have hS1 : Below wC.heap.size wC ua := bsq hS3 hba
      have hX := keep hX hba
      refine ⟨_, rfl, hS1, ?_⟩
      refine wpAnyH_all (rs := [3]) (by kernel_rfl) (by simp) (fun k hk => ?_)
      obtain rfl : k = 3 := by simpa using hk
      refine o_call 11 #[shV d c (.slice fa fn fcp) (.slice ta tn tcp), gdV B.s B.a B.h, .string (wrT 6 0 0 0)] rfl rfl (by simp [execOp, go_sem, Act.put, hsz, s2, s8]) ((HCD.out _ (bsq HBwC.out hS1)).mono ?_)
      rintro e ub ⟨rfl, hbb⟩
      have hS2 : Below wC.heap.size wC ub := bsq hS1 hbb
      have hX := keep hX hbb
      refine ⟨_, rfl, hS2, ?_⟩
      refine h_take (i := 4) (ansV D) rfl (by kernel_rfl) (by kernel_rfl) (by kernel_rfl) (fun _ _ _ h => h) rfl hS2 (fun W hW => by simp [execOp, go_sem, Act.put, hsz, s2, s8]) ?_
      refine h_take (i := 5) (gdV D.s D.a D.h) rfl (by kernel_rfl) (by kernel_rfl) (by kernel_rfl) (fun _ _ _ h => h) rfl hS2 (fun W hW => by simp [execOp, go_sem, Act.put, hsz, s2, s8]) ?_
      refine h_take (i := 6) (.string D.t) rfl (by kernel_rfl) (by kernel_rfl) (by kernel_rfl) (fun _ _ _ h => h) rfl hS2 (fun W hW => by simp [execOp, go_sem, Act.put, hsz, s2, s8]) ?_
      refine h_take (i := 7) (.int .i64 D.e) rfl (by kernel_rfl) (by kernel_rfl) (by kernel_rfl) (fun _ _ _ h => h) rfl hS2 (fun W hW => by simp [execOp, go_sem, Act.put, hsz, s2, s8]) ?_
      obtain ⟨⟨zz, q0, q1, q2⟩, f0, f1, f2⟩ := gd_box hX
      obtain ⟨uf, huf, hXf, hBf⟩ := gd_put ub XB 0 0 0 D.s D.a D.h hX
      have hSf : Below wC.heap.size wC uf := hBf _ _ hX0 hS2
      refine h_skip (i := 9) (w' := uf) rfl (by kernel_rfl) rfl (by rw [← huf]; simp [execOp, go_sem, Act.put, hsz, s2, s8, zz, q0, q1, q2, f0, f1, f2]) hSf ?_
      refine h_value (i := 10) (w' := uf) (.string D.t) rfl (by kernel_rfl) rfl (by simp [execOp, go_sem, Act.put, hsz, s2, s8]) hSf ?_
      refine h_value (i := 11) (w' := uf) (.int .i64 D.e) rfl (by kernel_rfl) rfl (by simp [execOp, go_sem, Act.put, hsz, s2, s8]) hSf ?_
      refine wpAnyH_done (by kernel_rfl) ?_ _
      generalize XB = XX at *
      subst ha0
      clear hsz s2 s8
      clear huf hBf zz q0 q1 q2 f0 f1 f2
      go_simp
      go_wp2_with fail
      go_meet
      case rel => exact ⟨XX, rfl, rfl, rfl, hSf, hXf⟩
  case rest =>
  rename World => wD
  obtain ⟨XI, rfl, rfl, rfl, HX⟩ := hcut
  have HBwD : Hid (Below w2.heap.size w2 wD) := bsq HBwC.out HX.out.1
  have HwCwD : Hid (Below wC.heap.size wC wD) := HX.out.1
  have FXI : Hid (∀ W : World, Below wD.heap.size wD W → W.heap[XI]? = some (gdO D.s D.a D.h)) := fun W hW => keep HX.out.2 hW
  clear HX
  go_upto_region 7 with (fail)
  go_cut [17, 18, 19] from 23 (fun pv tw cv wx => ∃ X : Nat, pv = .pointer (some ⟨X, 0, none⟩) ∧ tw = .string E.t ∧ cv = .int .i64 E.e ∧ Hid (Below wD.heap.size wD wx ∧ wx.heap[X]? = some (gdO E.s E.a E.h)))
  case first =>
    refine wp_abs (fun a0 => a0.tmps.size = 146 ∧ (∀ h, a0.tmps[2]'h = .pointer (some ⟨w.heap.size, 0, none⟩)) ∧ (∀ h, a0.tmps[14]'h = .pointer (some ⟨XI, 0, none⟩))) ⟨rfl, fun _ => rfl, fun _ => rfl⟩ ?_
    rintro a0 ⟨hsz, s2, s14⟩ ha0
    refine wp_region_held (S := fun W => Below wD.heap.size wD W) (by kernel_rfl) ?_
    have hS0 : Below wD.heap.size wD wD.drew := (Below.refl _ _).drew
    refine h_take (i := 0) (shV d c (.slice fa fn fcp) (.slice ta tn tcp)) rfl (by kernel_rfl) (by kernel_rfl) (by kernel_rfl) (fun _ _ _ h => h) rfl hS0 (fun W hW => by have h := run_sheet (HS.out W (bsq HBwD.out hW)); simp only [execOp]; simp only [Act.eval]; simp [Act.put, hsz, s2, s14, h]) ?_
    refine h_take (i := 1) (gdV D.s D.a D.h) rfl (by kernel_rfl) (by kernel_rfl) (by kernel_rfl) (fun _ _ _ h => h) rfl hS0 (fun W hW => by obtain ⟨⟨zg, g0, g1, g2⟩, _⟩ := gd_box (FXI.out W hW); simp [execOp, go_sem, Act.put, hsz, s2, s14, g0, g1, g2]) ?_
    refine h_two 2 8 (by kernel_rfl) ?_ ?_
    · refine o_call 16 #[.int .i64 4, .int .i64 0, .int .i64 0, .int .i64 0] rfl rfl (by simp [execOp, go_sem, Act.put, hsz, s2, s14]) ((asked_any 4 0 0 0 (by omega) _).mono ?_)
      rintro e ua ⟨rfl, hba⟩
      have hS1 : Below wD.heap.size wD ua := bsq hS0 hba
      refine ⟨_, rfl, hS1, ?_⟩
      refine h_two 3 8 (by kernel_rfl) ?_ ?_
      · refine o_call 11 #[shV d c (.slice fa fn fcp) (.slice ta tn tcp), gdV D.s D.a D.h, .string (wrT 4 0 0 0)] rfl rfl (by simp [execOp, go_sem, Act.put, hsz, s2, s14]) ((HCE.out _ (bsq HBwD.out hS1)).mono ?_)
        rintro e ub ⟨rfl, hbb⟩
        have hS2 : Below wD.heap.size wD ub := bsq hS1 hbb
        refine ⟨_, rfl, hS2, ?_⟩
        refine h_take (i := 4) (ansV E) rfl (by kernel_rfl) (by kernel_rfl) (by kernel_rfl) (fun _ _ _ h => h) rfl hS2 (fun W hW => by simp [execOp, go_sem, Act.put, hsz, s2, s14]) ?_
        refine h_take (i := 5) (gdV E.s E.a E.h) rfl (by kernel_rfl) (by kernel_rfl) (by kernel_rfl) (fun _ _ _ h => h) rfl hS2 (fun W hW => by simp [execOp, go_sem, Act.put, hsz, s2, s14]) ?_
        refine h_take (i := 6) (.string E.t) rfl (by kernel_rfl) (by kernel_rfl) (by kernel_rfl) (fun _ _ _ h => h) rfl hS2 (fun W hW => by simp [execOp, go_sem, Act.put, hsz, s2, s14]) ?_
        refine h_take (i := 7) (.int .i64 E.e) rfl (by kernel_rfl) (by kernel_rfl) (by kernel_rfl) (fun _ _ _ h => h) rfl hS2 (fun W hW => by simp [execOp, go_sem, Act.put, hsz, s2, s14]) ?_
        refine h_value (i := 8) (w' := ub.alloc (gdO 0 0 0)) (.pointer (some ⟨ub.heap.size, 0, none⟩)) rfl (by kernel_rfl) rfl (by simp [execOp, go_sem, Act.put, hsz, s2, s14]) (bsq hS2 (balloc _ _)) ?_
        have hX0 : wD.heap.size ≤ ub.heap.size := hS2.size
        have hX := (MapKept.heap_alloc ub (gdO 0 0 0)).1
        have hS3 : Below wD.heap.size wD (ub.alloc (gdO 0 0 0)) := bsq hS2 (balloc _ _)
        generalize ub.alloc (gdO 0 0 0) = ug at *
        obtain ⟨⟨zz, q0, q1, q2⟩, f0, f1, f2⟩ := gd_box hX
        obtain ⟨uf, huf, hXf, hBf⟩ := gd_put ug ub.heap.size 0 0 0 E.s E.a E.h hX
        have hSf : Below wD.heap.size wD uf := hBf _ _ hX0 hS3
        refine h_skip (i := 9) (w' := uf) rfl (by kernel_rfl) rfl (by rw [← huf]; simp [execOp, go_sem, Act.put, hsz, s2, s14, zz, q0, q1, q2, f0, f1, f2]) hSf ?_
        refine h_value (i := 10) (w' := uf) (.string E.t) rfl (by kernel_rfl) rfl (by simp [execOp, go_sem, Act.put, hsz, s2, s14]) hSf ?_
        refine h_value (i := 11) (w' := uf) (.int .i64 E.e) rfl (by kernel_rfl) rfl (by simp [execOp, go_sem, Act.put, hsz, s2, s14]) hSf ?_
        refine wpAnyH_done (by kernel_rfl) ?_ _
        generalize ub.heap.size = XX at *
        subst ha0
        clear hsz s2 s14
        clear huf hBf zz q0 q1 q2 f0 f1 f2
        go_simp
        go_wp2_with fail
        go_meet
        case rel => exact ⟨XX, rfl, rfl, rfl, hSf, hXf⟩
      · refine o_value (w' := ua.alloc (gdO 0 0 0)) (.pointer (some ⟨ua.heap.size, 0, none⟩)) rfl rfl (by simp [execOp, go_sem, Act.put, hsz, s2, s14]) ?_
        have hX0 : wD.heap.size ≤ ua.heap.size := hS1.size
        have hX := (MapKept.heap_alloc ua (gdO 0 0 0)).1
        have hS3 : Below wD.heap.size wD (ua.alloc (gdO 0 0 0)) := bsq hS1 (balloc _ _)
        generalize ua.alloc (gdO 0 0 0) = ug at *
        refine ⟨hS3, ?_⟩
        refine wpAnyH_all (rs := [3]) (by kernel_rfl) (by simp) (fun k hk => ?_)
        obtain rfl : k = 3 := by simpa using hk
        refine o_call 11 #[shV d c (.slice fa fn fcp) (.slice ta tn tcp), gdV D.s D.a D.h, .string (wrT 4 0 0 0)] rfl rfl (by simp [execOp, go_sem, Act.put, hsz, s2, s14]) ((HCE.out _ (bsq HBwD.out hS3)).mono ?_)
        rintro e ub ⟨rfl, hbb⟩
        have hS2 : Below wD.heap.size wD ub := bsq hS3 hbb
        have hX := keep hX hbb
        refine ⟨_, rfl, hS2, ?_⟩
        refine h_take (i := 4) (ansV E) rfl (by kernel_rfl) (by kernel_rfl) (by kernel_rfl) (fun _ _ _ h => h) rfl hS2 (fun W hW => by simp [execOp, go_sem, Act.put, hsz, s2, s14]) ?_
        refine h_take (i := 5) (gdV E.s E.a E.h) rfl (by kernel_rfl) (by kernel_rfl) (by kernel_rfl) (fun _ _ _ h => h) rfl hS2 (fun W hW => by simp [execOp, go_sem, Act.put, hsz, s2, s14]) ?_
        refine h_take (i := 6) (.string E.t) rfl (by kernel_rfl) (by kernel_rfl) (by kernel_rfl) (fun _ _ _ h => h) rfl hS2 (fun W hW => by simp [execOp, go_sem, Act.put, hsz, s2, s14]) ?_
        refine h_take (i := 7) (.int .i64 E.e) rfl (by kernel_rfl) (by kernel_rfl) (by kernel_rfl) (fun _ _ _ h => h) rfl hS2 (fun W hW => by simp [execOp, go_sem, Act.put, hsz, s2, s14]) ?_
        obtain ⟨⟨zz, q0, q1, q2⟩, f0, f1, f2⟩ := gd_box hX
        obtain ⟨uf, huf, hXf, hBf⟩ := gd_put ub ua.heap.size 0 0 0 E.s E.a E.h hX
        have hSf : Below wD.heap.size wD uf := hBf _ _ hX0 hS2
        refine h_skip (i := 9) (w' := uf) rfl (by kernel_rfl) rfl (by rw [← huf]; simp [execOp, go_sem, Act.put, hsz, s2, s14, zz, q0, q1, q2, f0, f1, f2]) hSf ?_
        refine h_value (i := 10) (w' := uf) (.string E.t) rfl (by kernel_rfl) rfl (by simp [execOp, go_sem, Act.put, hsz, s2, s14]) hSf ?_
        refine h_value (i := 11) (w' := uf) (.int .i64 E.e) rfl (by kernel_rfl) rfl (by simp [execOp, go_sem, Act.put, hsz, s2, s14]) hSf ?_
        refine wpAnyH_done (by kernel_rfl) ?_ _
        generalize ua.heap.size = XX at *
        subst ha0
        clear hsz s2 s14
        clear huf hBf zz q0 q1 q2 f0 f1 f2
        go_simp
        go_wp2_with fail
        go_meet
        case rel => exact ⟨XX, rfl, rfl, rfl, hSf, hXf⟩
    · refine o_value (w' := wD.drew.alloc (gdO 0 0 0)) (.pointer (some ⟨wD.drew.heap.size, 0, none⟩)) rfl rfl (by simp [execOp, go_sem, Act.put, hsz, s2, s14]) ?_
      have hX0 : wD.heap.size ≤ wD.drew.heap.size := Nat.le_refl _
      have hX := (MapKept.heap_alloc wD.drew (gdO 0 0 0)).1
      have hS3 : Below wD.heap.size wD (wD.drew.alloc (gdO 0 0 0)) := bsq hS0 (balloc _ _)
      generalize wD.drew.heap.size = XB at *
      generalize wD.drew.alloc (gdO 0 0 0) = ug at *
      refine ⟨hS3, ?_⟩
      refine wpAnyH_all (rs := [2]) (by kernel_rfl) (by simp) (fun k hk => ?_)
      obtain rfl : k = 2 := by simpa using hk
      refine o_call 16 #[.int .i64 4, .int .i64 0, .int .i64 0, .int .i64 0] rfl rfl (by simp [execOp, go_sem, Act.put, hsz, s2, s14]) ((asked_any 4 0 0 0 (by omega) _).mono ?_)
      rintro e ua ⟨rfl, hba⟩
      have hS1 : Below wD.heap.size wD ua := bsq hS3 hba
      have hX := keep hX hba
      refine ⟨_, rfl, hS1, ?_⟩
      refine wpAnyH_all (rs := [3]) (by kernel_rfl) (by simp) (fun k hk => ?_)
      obtain rfl : k = 3 := by simpa using hk
      refine o_call 11 #[shV d c (.slice fa fn fcp) (.slice ta tn tcp), gdV D.s D.a D.h, .string (wrT 4 0 0 0)] rfl rfl (by simp [execOp, go_sem, Act.put, hsz, s2, s14]) ((HCE.out _ (bsq HBwD.out hS1)).mono ?_)
      rintro e ub ⟨rfl, hbb⟩
      have hS2 : Below wD.heap.size wD ub := bsq hS1 hbb
      have hX := keep hX hbb
      refine ⟨_, rfl, hS2, ?_⟩
      refine h_take (i := 4) (ansV E) rfl (by kernel_rfl) (by kernel_rfl) (by kernel_rfl) (fun _ _ _ h => h) rfl hS2 (fun W hW => by simp [execOp, go_sem, Act.put, hsz, s2, s14]) ?_
      refine h_take (i := 5) (gdV E.s E.a E.h) rfl (by kernel_rfl) (by kernel_rfl) (by kernel_rfl) (fun _ _ _ h => h) rfl hS2 (fun W hW => by simp [execOp, go_sem, Act.put, hsz, s2, s14]) ?_
      refine h_take (i := 6) (.string E.t) rfl (by kernel_rfl) (by kernel_rfl) (by kernel_rfl) (fun _ _ _ h => h) rfl hS2 (fun W hW => by simp [execOp, go_sem, Act.put, hsz, s2, s14]) ?_
      refine h_take (i := 7) (.int .i64 E.e) rfl (by kernel_rfl) (by kernel_rfl) (by kernel_rfl) (fun _ _ _ h => h) rfl hS2 (fun W hW => by simp [execOp, go_sem, Act.put, hsz, s2, s14]) ?_
      obtain ⟨⟨zz, q0, q1, q2⟩, f0, f1, f2⟩ := gd_box hX
      obtain ⟨uf, huf, hXf, hBf⟩ := gd_put ub XB 0 0 0 E.s E.a E.h hX
      have hSf : Below wD.heap.size wD uf := hBf _ _ hX0 hS2
      refine h_skip (i := 9) (w' := uf) rfl (by kernel_rfl) rfl (by rw [← huf]; simp [execOp, go_sem, Act.put, hsz, s2, s14, zz, q0, q1, q2, f0, f1, f2]) hSf ?_
      refine h_value (i := 10) (w' := uf) (.string E.t) rfl (by kernel_rfl) rfl (by simp [execOp, go_sem, Act.put, hsz, s2, s14]) hSf ?_
      refine h_value (i := 11) (w' := uf) (.int .i64 E.e) rfl (by kernel_rfl) rfl (by simp [execOp, go_sem, Act.put, hsz, s2, s14]) hSf ?_
      refine wpAnyH_done (by kernel_rfl) ?_ _
      generalize XB = XX at *
      subst ha0
      clear hsz s2 s14
      clear huf hBf zz q0 q1 q2 f0 f1 f2
      go_simp
      go_wp2_with fail
      go_meet
      case rel => exact ⟨XX, rfl, rfl, rfl, hSf, hXf⟩
  case rest =>
  rename World => wE
  obtain ⟨XJ, rfl, rfl, rfl, HX⟩ := hcut
  have HBwE : Hid (Below w2.heap.size w2 wE) := bsq HBwD.out HX.out.1
  have HwDwE : Hid (Below wD.heap.size wD wE) := HX.out.1
  have FXJ : Hid (∀ W : World, Below wE.heap.size wE W → W.heap[XJ]? = some (gdO E.s E.a E.h)) := fun W hW => keep HX.out.2 hW
  clear HX
  go_upto_region 8 with (fail)
  go_cut [20, 21, 22] from 23 (fun pv tw cv wx => ∃ X : Nat, pv = .pointer (some ⟨X, 0, none⟩) ∧ tw = .string F.t ∧ cv = .int .i64 F.e ∧ Hid (Below wE.heap.size wE wx ∧ wx.heap[X]? = some (gdO F.s F.a F.h)))
  case first =>
    refine wp_abs (fun a0 => a0.tmps.size = 146 ∧ (∀ h, a0.tmps[1]'h = .int .i64 ad) ∧ (∀ h, a0.tmps[2]'h = .pointer (some ⟨w.heap.size, 0, none⟩)) ∧ (∀ h, a0.tmps[8]'h = .pointer (some ⟨XH, 0, none⟩))) ⟨rfl, fun _ => rfl, fun _ => rfl, fun _ => rfl⟩ ?_
    rintro a0 ⟨hsz, s1, s2, s8⟩ ha0
    refine wp_region_held (S := fun W => Below wE.heap.size wE W) (by kernel_rfl) ?_
    have hS0 : Below wE.heap.size wE wE.drew := (Below.refl _ _).drew
    refine h_take (i := 0) (shV d c (.slice fa fn fcp) (.slice ta tn tcp)) rfl (by kernel_rfl) (by kernel_rfl) (by kernel_rfl) (fun _ _ _ h => h) rfl hS0 (fun W hW => by have h := run_sheet (HS.out W (bsq HBwE.out hW)); simp only [execOp]; simp only [Act.eval]; simp [Act.put, hsz, s1, s2, s8, h]) ?_
    refine h_take (i := 1) (gdV B.s B.a B.h) rfl (by kernel_rfl) (by kernel_rfl) (by kernel_rfl) (fun _ _ _ h => h) rfl hS0 (fun W hW => by obtain ⟨⟨zg, g0, g1, g2⟩, _⟩ := gd_box (FXH.out W (bsq HwBwC.out (bsq HwCwD.out (bsq HwDwE.out hW)))); simp [execOp, go_sem, Act.put, hsz, s1, s2, s8, g0, g1, g2]) ?_
    refine h_take (i := 2) (.int .i64 ad) rfl (by kernel_rfl) (by kernel_rfl) (by kernel_rfl) (fun _ _ _ h => h) rfl hS0 (fun W hW => by simp [execOp, go_sem, Act.put, hsz, s1, s2, s8]) ?_
    refine h_two 3 9 (by kernel_rfl) ?_ ?_
    · refine o_call 16 #[.int .i64 4, .int .i64 ad, .int .i64 0, .int .i64 0] rfl rfl (by simp [execOp, go_sem, Act.put, hsz, s1, s2, s8]) ((asked_any 4 ad 0 0 (by omega) _).mono ?_)
      rintro e ua ⟨rfl, hba⟩
      have hS1 : Below wE.heap.size wE ua := bsq hS0 hba
      refine ⟨_, rfl, hS1, ?_⟩
      refine h_two 4 9 (by kernel_rfl) ?_ ?_
      · refine o_call 11 #[shV d c (.slice fa fn fcp) (.slice ta tn tcp), gdV B.s B.a B.h, .string (wrT 4 ad 0 0)] rfl rfl (by simp [execOp, go_sem, Act.put, hsz, s1, s2, s8]) ((HCF.out _ (bsq HBwE.out hS1)).mono ?_)
        rintro e ub ⟨rfl, hbb⟩
        have hS2 : Below wE.heap.size wE ub := bsq hS1 hbb
        refine ⟨_, rfl, hS2, ?_⟩
        refine h_take (i := 5) (ansV F) rfl (by kernel_rfl) (by kernel_rfl) (by kernel_rfl) (fun _ _ _ h => h) rfl hS2 (fun W hW => by simp [execOp, go_sem, Act.put, hsz, s1, s2, s8]) ?_
        refine h_take (i := 6) (gdV F.s F.a F.h) rfl (by kernel_rfl) (by kernel_rfl) (by kernel_rfl) (fun _ _ _ h => h) rfl hS2 (fun W hW => by simp [execOp, go_sem, Act.put, hsz, s1, s2, s8]) ?_
        refine h_take (i := 7) (.string F.t) rfl (by kernel_rfl) (by kernel_rfl) (by kernel_rfl) (fun _ _ _ h => h) rfl hS2 (fun W hW => by simp [execOp, go_sem, Act.put, hsz, s1, s2, s8]) ?_
        refine h_take (i := 8) (.int .i64 F.e) rfl (by kernel_rfl) (by kernel_rfl) (by kernel_rfl) (fun _ _ _ h => h) rfl hS2 (fun W hW => by simp [execOp, go_sem, Act.put, hsz, s1, s2, s8]) ?_
        refine h_value (i := 9) (w' := ub.alloc (gdO 0 0 0)) (.pointer (some ⟨ub.heap.size, 0, none⟩)) rfl (by kernel_rfl) rfl (by simp [execOp, go_sem, Act.put, hsz, s1, s2, s8]) (bsq hS2 (balloc _ _)) ?_
        have hX0 : wE.heap.size ≤ ub.heap.size := hS2.size
        have hX := (MapKept.heap_alloc ub (gdO 0 0 0)).1
        have hS3 : Below wE.heap.size wE (ub.alloc (gdO 0 0 0)) := bsq hS2 (balloc _ _)
        generalize ub.alloc (gdO 0 0 0) = ug at *
        obtain ⟨⟨zz, q0, q1, q2⟩, f0, f1, f2⟩ := gd_box hX
        obtain ⟨uf, huf, hXf, hBf⟩ := gd_put ug ub.heap.size 0 0 0 F.s F.a F.h hX
        have hSf : Below wE.heap.size wE uf := hBf _ _ hX0 hS3
        refine h_skip (i := 10) (w' := uf) rfl (by kernel_rfl) rfl (by rw [← huf]; simp [execOp, go_sem, Act.put, hsz, s1, s2, s8, zz, q0, q1, q2, f0, f1, f2]) hSf ?_
        refine h_value (i := 11) (w' := uf) (.string F.t) rfl (by kernel_rfl) rfl (by simp [execOp, go_sem, Act.put, hsz, s1, s2, s8]) hSf ?_
        refine h_value (i := 12) (w' := uf) (.int .i64 F.e) rfl (by kernel_rfl) rfl (by simp [execOp, go_sem, Act.put, hsz, s1, s2, s8]) hSf ?_
        refine wpAnyH_done (by kernel_rfl) ?_ _
        generalize ub.heap.size = XX at *
        subst ha0
        clear hsz s1 s2 s8
        clear huf hBf zz q0 q1 q2 f0 f1 f2
        go_simp
        go_wp2_with fail
        go_meet
        case rel => exact ⟨XX, rfl, rfl, rfl, hSf, hXf⟩
      · refine o_value (w' := ua.alloc (gdO 0 0 0)) (.pointer (some ⟨ua.heap.size, 0, none⟩)) rfl rfl (by simp [execOp, go_sem, Act.put, hsz, s1, s2, s8]) ?_
        have hX0 : wE.heap.size ≤ ua.heap.size := hS1.size
        have hX := (MapKept.heap_alloc ua (gdO 0 0 0)).1
        have hS3 : Below wE.heap.size wE (ua.alloc (gdO 0 0 0)) := bsq hS1 (balloc _ _)
        generalize ua.alloc (gdO 0 0 0) = ug at *
        refine ⟨hS3, ?_⟩
        refine wpAnyH_all (rs := [4]) (by kernel_rfl) (by simp) (fun k hk => ?_)
        obtain rfl : k = 4 := by simpa using hk
        refine o_call 11 #[shV d c (.slice fa fn fcp) (.slice ta tn tcp), gdV B.s B.a B.h, .string (wrT 4 ad 0 0)] rfl rfl (by simp [execOp, go_sem, Act.put, hsz, s1, s2, s8]) ((HCF.out _ (bsq HBwE.out hS3)).mono ?_)
        rintro e ub ⟨rfl, hbb⟩
        have hS2 : Below wE.heap.size wE ub := bsq hS3 hbb
        have hX := keep hX hbb
        refine ⟨_, rfl, hS2, ?_⟩
        refine h_take (i := 5) (ansV F) rfl (by kernel_rfl) (by kernel_rfl) (by kernel_rfl) (fun _ _ _ h => h) rfl hS2 (fun W hW => by simp [execOp, go_sem, Act.put, hsz, s1, s2, s8]) ?_
        refine h_take (i := 6) (gdV F.s F.a F.h) rfl (by kernel_rfl) (by kernel_rfl) (by kernel_rfl) (fun _ _ _ h => h) rfl hS2 (fun W hW => by simp [execOp, go_sem, Act.put, hsz, s1, s2, s8]) ?_
        refine h_take (i := 7) (.string F.t) rfl (by kernel_rfl) (by kernel_rfl) (by kernel_rfl) (fun _ _ _ h => h) rfl hS2 (fun W hW => by simp [execOp, go_sem, Act.put, hsz, s1, s2, s8]) ?_
        refine h_take (i := 8) (.int .i64 F.e) rfl (by kernel_rfl) (by kernel_rfl) (by kernel_rfl) (fun _ _ _ h => h) rfl hS2 (fun W hW => by simp [execOp, go_sem, Act.put, hsz, s1, s2, s8]) ?_
        obtain ⟨⟨zz, q0, q1, q2⟩, f0, f1, f2⟩ := gd_box hX
        obtain ⟨uf, huf, hXf, hBf⟩ := gd_put ub ua.heap.size 0 0 0 F.s F.a F.h hX
        have hSf : Below wE.heap.size wE uf := hBf _ _ hX0 hS2
        refine h_skip (i := 10) (w' := uf) rfl (by kernel_rfl) rfl (by rw [← huf]; simp [execOp, go_sem, Act.put, hsz, s1, s2, s8, zz, q0, q1, q2, f0, f1, f2]) hSf ?_
        refine h_value (i := 11) (w' := uf) (.string F.t) rfl (by kernel_rfl) rfl (by simp [execOp, go_sem, Act.put, hsz, s1, s2, s8]) hSf ?_
        refine h_value (i := 12) (w' := uf) (.int .i64 F.e) rfl (by kernel_rfl) rfl (by simp [execOp, go_sem, Act.put, hsz, s1, s2, s8]) hSf ?_
        refine wpAnyH_done (by kernel_rfl) ?_ _
        generalize ua.heap.size = XX at *
        subst ha0
        clear hsz s1 s2 s8
        clear huf hBf zz q0 q1 q2 f0 f1 f2
        go_simp
        go_wp2_with fail
        go_meet
        case rel => exact ⟨XX, rfl, rfl, rfl, hSf, hXf⟩
    · refine o_value (w' := wE.drew.alloc (gdO 0 0 0)) (.pointer (some ⟨wE.drew.heap.size, 0, none⟩)) rfl rfl (by simp [execOp, go_sem, Act.put, hsz, s1, s2, s8]) ?_
      have hX0 : wE.heap.size ≤ wE.drew.heap.size := Nat.le_refl _
      have hX := (MapKept.heap_alloc wE.drew (gdO 0 0 0)).1
      have hS3 : Below wE.heap.size wE (wE.drew.alloc (gdO 0 0 0)) := bsq hS0 (balloc _ _)
      generalize wE.drew.heap.size = XB at *
      generalize wE.drew.alloc (gdO 0 0 0) = ug at *
      refine ⟨hS3, ?_⟩
      refine wpAnyH_all (rs := [3]) (by kernel_rfl) (by simp) (fun k hk => ?_)
      obtain rfl : k = 3 := by simpa using hk
      refine o_call 16 #[.int .i64 4, .int .i64 ad, .int .i64 0, .int .i64 0] rfl rfl (by simp [execOp, go_sem, Act.put, hsz, s1, s2, s8]) ((asked_any 4 ad 0 0 (by omega) _).mono ?_)
      rintro e ua ⟨rfl, hba⟩
      have hS1 : Below wE.heap.size wE ua := bsq hS3 hba
      have hX := keep hX hba
      refine ⟨_, rfl, hS1, ?_⟩
      refine wpAnyH_all (rs := [4]) (by kernel_rfl) (by simp) (fun k hk => ?_)
      obtain rfl : k = 4 := by simpa using hk
      refine o_call 11 #[shV d c (.slice fa fn fcp) (.slice ta tn tcp), gdV B.s B.a B.h, .string (wrT 4 ad 0 0)] rfl rfl (by simp [execOp, go_sem, Act.put, hsz, s1, s2, s8]) ((HCF.out _ (bsq HBwE.out hS1)).mono ?_)
      rintro e ub ⟨rfl, hbb⟩
      have hS2 : Below wE.heap.size wE ub := bsq hS1 hbb
      have hX := keep hX hbb
      refine ⟨_, rfl, hS2, ?_⟩
      refine h_take (i := 5) (ansV F) rfl (by kernel_rfl) (by kernel_rfl) (by kernel_rfl) (fun _ _ _ h => h) rfl hS2 (fun W hW => by simp [execOp, go_sem, Act.put, hsz, s1, s2, s8]) ?_
      refine h_take (i := 6) (gdV F.s F.a F.h) rfl (by kernel_rfl) (by kernel_rfl) (by kernel_rfl) (fun _ _ _ h => h) rfl hS2 (fun W hW => by simp [execOp, go_sem, Act.put, hsz, s1, s2, s8]) ?_
      refine h_take (i := 7) (.string F.t) rfl (by kernel_rfl) (by kernel_rfl) (by kernel_rfl) (fun _ _ _ h => h) rfl hS2 (fun W hW => by simp [execOp, go_sem, Act.put, hsz, s1, s2, s8]) ?_
      refine h_take (i := 8) (.int .i64 F.e) rfl (by kernel_rfl) (by kernel_rfl) (by kernel_rfl) (fun _ _ _ h => h) rfl hS2 (fun W hW => by simp [execOp, go_sem, Act.put, hsz, s1, s2, s8]) ?_
      obtain ⟨⟨zz, q0, q1, q2⟩, f0, f1, f2⟩ := gd_box hX
      obtain ⟨uf, huf, hXf, hBf⟩ := gd_put ub XB 0 0 0 F.s F.a F.h hX
      have hSf : Below wE.heap.size wE uf := hBf _ _ hX0 hS2
      refine h_skip (i := 10) (w' := uf) rfl (by kernel_rfl) rfl (by rw [← huf]; simp [execOp, go_sem, Act.put, hsz, s1, s2, s8, zz, q0, q1, q2, f0, f1, f2]) hSf ?_
      refine h_value (i := 11) (w' := uf) (.string F.t) rfl (by kernel_rfl) rfl (by simp [execOp, go_sem, Act.put, hsz, s1, s2, s8]) hSf ?_
      refine h_value (i := 12) (w' := uf) (.int .i64 F.e) rfl (by kernel_rfl) rfl (by simp [execOp, go_sem, Act.put, hsz, s1, s2, s8]) hSf ?_
      refine wpAnyH_done (by kernel_rfl) ?_ _
      generalize XB = XX at *
      subst ha0
      clear hsz s1 s2 s8
      clear huf hBf zz q0 q1 q2 f0 f1 f2
      go_simp
      go_wp2_with fail
      go_meet
      case rel => exact ⟨XX, rfl, rfl, rfl, hSf, hXf⟩
  case rest =>
  rename World => wF
  obtain ⟨XF, rfl, rfl, rfl, HX⟩ := hcut
  have HBwF : Hid (Below w2.heap.size w2 wF) := bsq HBwE.out HX.out.1
  have HwEwF : Hid (Below wE.heap.size wE wF) := HX.out.1
  have FXF : Hid (∀ W : World, Below wF.heap.size wF W → W.heap[XF]? = some (gdO F.s F.a F.h)) := fun W hW => keep HX.out.2 hW
  clear HX
  have bEF := HwEwF.out
  have bDF := bsq HwDwE.out bEF
  have bCF := bsq HwCwD.out bDF
  have bBF := bsq HwBwC.out bCF
  have bAF := bsq HwAwB.out bBF
  obtain ⟨⟨k0, g0, g1, g2⟩, _⟩ := gd_box (FXG.out wF bAF)
  obtain ⟨⟨k1, h0, h1, h2⟩, _⟩ := gd_box (FXH.out wF bBF)
  obtain ⟨⟨k2, i0, i1, i2⟩, _⟩ := gd_box (FXI.out wF bDF)
  obtain ⟨⟨k3, j0, j1, j2⟩, _⟩ := gd_box (FXJ.out wF bEF)
  have sc := (ShC.of (HS.out wF HBwF.out)).c12
  rw [FA.out] at g0 g1 g2
  rw [FB.out] at h0 h1 h2
  rw [FD.out] at i0 i1 i2
  rw [FE.out] at j0 j1 j2
  rw [FA.out, FB.out, FC.out, FD.out, FE.out, FF.out]
  simp only [bad] at *
  have q1 := eql_gd 1 ad 0 1 ad 0
  have q2 := eql_gd 2 ad 0 2 ad 0
  have q3 := eql_gd 0 0 0 0 0 0
  rw [same_self] at q1 q2 q3
  obtain ⟨va1, va2⟩ := HVA.out
  have hcv := conv_new wF [c.va]
  have hmod : c.va % 256 = c.va := by omega
  obtain ⟨wG, hwG⟩ : ∃ wG, wF.alloc (.cells (([c.va] : List Int).map (Value.int .u8)).toArray 5) = wG := ⟨_, rfl⟩
  have HBG : Hid (Below wF.heap.size wF wG) := by show Below _ _ _; rw [← hwG]; exact balloc _ _
  have HBF : Hid (Below w2.heap.size w2 wF) := HBwF.out
  obtain ⟨_, y0, y1, y2⟩ := (gd_box (keep (FXG.out wF bAF) HBG.out)).1
  obtain ⟨_, t0, t1, t2⟩ := (gd_box (keep (FXI.out wF bDF) HBG.out)).1
  obtain ⟨_, r0, r1, r2⟩ := (gd_box (keep (FXJ.out wF bEF) HBG.out)).1
  rw [FA.out] at y0 y1 y2
  rw [FD.out] at t0 t1 t2
  rw [FE.out] at r0 r1 r2
  rw [hwG] at hcv
  simp at hcv hwG
  generalize strOfNums [c.va] = V at *
  clear bEF bDF bCF bBF bAF FXG FXH FXC FXI FXJ FXF HS HL HCk HCA HCB HCC HCD HCE HCF FA FB FC FD FE FF
  go_wp2
  go_ret
  exact ⟨rfl, bsq HB2.out (bsq HBF.out HBG.out)⟩
end Go.Proofs.Ytebaepkghbihkaa.gadgetPath
