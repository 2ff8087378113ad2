/- HostCalm: once a controller and a driver go on in turn, all that was taken is done and told, and there is room again. -/
import Derived.Test.YthjmcopknkemnaaHstU
import Derived.Test.YthjmcopknkemnaaHstO
namespace Go.Proofs.Ythjmcopknkemnaa.hostCalm
open Go Go.RowKit
open Go.Proofs.Ythjmcopknkemnaa Go.Proofs.Ythjmcopknkemnaa.host
open Go.Proofs.Ythjmcopknkemnaa.slots (Row row_cmd Chg ag bsq InB Wf)
open Go.Proofs.Ythjmcopknkemnaa.ring (Rcs)
set_option linter.unusedVariables false
set_option linter.unusedSimpArgs false
set_option maxRecDepth 100000

theorem iv_nums {p q : Nat} {s : Ps} (h : Iv p q s) : s.g ≤ s.E.length ∧ s.E.length ≤ s.C.length ∧ 2 ≤ p ∧ p ≤ 63 ∧ 2 ≤ q ∧ q ≤ 63 ∧ s.C.length + 1 ≤ s.g + p := by
  have h1 := h.c.sg
  have h2 := h.c.ga
  have h3 := h.c.room
  rw [List.length_map] at h2 h3
  exact ⟨h1, h2, h.c.p2, h.c.p63, h.e.p2, h.e.p63, h3⟩
/-- one round: work once, reap once -/
def cal (p q : Nat) (s : Ps) : Ps := rsV (wrS p q s 1)
theorem wr_one {p q : Nat} (s : Ps) : wrS p q s 1 = if wsB q s = true then wsV p s else s := by
  unfold wrS
  rw [if_pos (by decide)]
  show wkS p q 1 s = _
  unfold wkS
  rfl
theorem cal_b {p q : Nat} {s : Ps} (h : Iv p q s) : rsB (wrS p q s 1) = decide (s.g < s.C.length) := by
  obtain ⟨h1, h2, h3, h4, h5, h6, h7⟩ := iv_nums h
  rw [wr_one]
  unfold rsB
  by_cases hb : wsB q s = true
  · rw [if_pos hb]
    unfold wsB at hb
    simp only [Bool.and_eq_true, decide_eq_true_eq] at hb
    show decide (s.g < (s.E ++ [wsE p s]).length) = _
    rw [List.length_append, List.length_singleton, decide_eq_true (by omega), decide_eq_true (by omega)]
  · rw [if_neg hb]
    unfold wsB at hb
    simp only [Bool.and_eq_true, decide_eq_true_eq] at hb
    rw [Bool.eq_iff_iff, decide_eq_true_eq, decide_eq_true_eq]
    omega
theorem cal_g {p q : Nat} {s : Ps} (h : Iv p q s) : (cal p q s).C = s.C ∧ (cal p q s).g = (if s.g < s.C.length then s.g + 1 else s.g) ∧ Iv p q (cal p q s) := by
  refine ⟨by unfold cal; rw [rs_c, wr_c], ?_, (h.wr 1).2.rp.2.2.2⟩
  unfold cal rsV
  rw [cal_b h]
  by_cases hl : s.g < s.C.length
  · rw [if_pos (by simpa using hl), if_pos hl]
    show (wrS p q s 1).g + 1 = _
    rw [wr_g]
  · rw [if_neg (by simpa using hl), if_neg hl, wr_g]
structure Cal (w wr : World) (xm : Nat) (p q : Nat) (C : List Cm) (k n : Nat) (s : Ps) : Prop where
  mv : ∃ b vc ve, Mv w wr [(xm, 43, mvl vc ve (mcs p q s))] [(b, vc, (mcs p q s).c.C), (b, ve, (mcs p q s).e.C)]
  iv : Iv p q s
  cs : s.C = C
  gs : s.g = n
  ks : k ≤ n ∨ n = C.length
structure Sub (w wr : World) (xm : Nat) (p q : Nat) (L k : Nat) (s : Ps) : Prop where
  mv : ∃ b vc ve, Mv w wr [(xm, 43, mvl vc ve (mcs p q s))] [(b, vc, (mcs p q s).c.C), (b, ve, (mcs p q s).e.C)]
  iv : Iv p q s
  cs : s.C.length = L + k
  gs : s.g = L
set_option maxHeartbeats 16000000 in
theorem walk0 (cc ee : Int) (v : Value) (T : List Dd) (w : World) (hv : Rds 8 w v (T.map ddL)) : Calls Try.prog 8 #[.int .i64 cc, .int .i64 ee, v] w fun r w' => r = .returned (.bool true) ∧ Below w.heap.size w w' := by
  have HR : Hid (Rds 8 w v (T.map ddL)) := hv
  have HPL : Hid (∀ u, Below w.heap.size w u → Calls Try.prog 20 #[.int .i64 cc, .int .i64 ee, v] u fun r w' => ∃ vc ve gv tv, r = .returned (.tuple #[agv (mvl vc ve (plM cc ee T)), gv, tv, .int .i64 (plC cc ee T)]) ∧ Tl u vc ve (plM cc ee T) w' ∧ Rds 3 w' gv ((plE cc ee T).map evL) ∧ Rds 1 w' tv ((plX cc ee T).map one1)) := fun u hb => play_any cc ee v T u (hv.below hb)
  have HLV : Hid (∀ u, Calls Try.prog 26 #[] u fun e w' => e = .returned (.bool true) ∧ Below u.heap.size u w') := lives_any
  have HZ : Hid (zl.length = 606) := zl_vs.len
  obtain ⟨va, vl, vcp, rfl⟩ : ∃ a n c, v = .slice a n c := by obtain ⟨a, c, h, _⟩ := hv.form; exact ⟨_, _, _, h⟩
  have hM := Mv.nil w
  clear hv
  by_cases hc : ¬ plC cc ee T = 0
  · have e1 : (plC cc ee T != 0) = true := by simpa using hc
    have HM : Hid (plM cc ee T = zM) := by unfold plM; exact if_neg hc
    rw [HM.out] at HPL
    generalize plC cc ee T = pc at *
    clear hc HM
    go_enter Try.func8, Try.ntmps8
    repeat' (first | go_values | go_skip | go_guarded | go_step | go_upon | (simp only [Int.not_lt, Int.not_le] at *; go_simp))
    refine (HPL.out _ hM.below).mono ?_
    rintro r u1 ⟨vc, ve, gv, tv, rfl, ht, hg, ho⟩
    have H3 : Hid (Vs (mvl vc ve zM) 606) := mvl_vs (rcs_one ht.c.rcs) (rcs_one ht.e.rcs) slots.zB_wf
    replace hM := hM.call ht.below
    clear ht hg ho
    repeat' (first | (go_big_may; first | (refine v_alloc rfl zer_mach rfl ?_; intro u xm hN; replace hM := hM.new hN (by decide); clear hN) | (refine v_fill rfl rfl row_mach rfl rfl hM.at0 H3.out HZ.out ?_; intro u hv hc; replace hM := hM.put0 hc hv; clear hv hc)) | go_values | go_skip | go_guarded | go_step | go_upon | (simp only [Int.not_lt, Int.not_le] at *; go_simp))
    refine (HLV.out _).mono ?_
    rintro r u2 ⟨rfl, hv⟩
    replace hM := hM.call hv
    clear hv
    repeat' (first | go_values | go_skip | go_guarded | go_step | go_upon | (simp only [Int.not_lt, Int.not_le] at *; go_simp))
    refine (HLV.out _).mono ?_
    rintro r u3 ⟨rfl, hv⟩
    replace hM := hM.call hv
    clear hv
    repeat' (first | go_values | go_skip | go_guarded | go_step | go_upon | (simp only [Int.not_lt, Int.not_le] at *; go_simp))
    go_ret
    exact ⟨rfl, hM.below⟩
  have hc : plC cc ee T = 0 := Classical.not_not.1 hc
  obtain ⟨hnb, hT⟩ : nmB cc ee = true ∧ T.length ≤ 200 := by
    unfold plC at hc
    split at hc
    · omega
    · rename_i q
      split at hc
      · omega
      · exact ⟨by simpa using q, by omega⟩
  unfold nmB at hnb
  rw [Bool.and_eq_true, ring.cn_iff, ring.cn_iff] at hnb
  obtain ⟨p, hp⟩ : ∃ p, cc.toNat - 1 = p := ⟨_, rfl⟩
  obtain ⟨q, hq⟩ : ∃ q, ee.toNat - 1 = q := ⟨_, rfl⟩
  have HCP : Hid (cc = (p : Int) + 1) := by show _ = _; omega
  obtain ⟨s0, hs0⟩ : ∃ s0, pls p q ps0 T = s0 := ⟨_, rfl⟩
  have e1 : plM cc ee T = mcs p q s0 := by unfold plM ply; rw [if_pos hc, hp, hq, hs0]
  have e2 : plE cc ee T = rpd s0 := by unfold plE ply; rw [if_pos hc, hp, hq, hs0]
  have e3 : plX cc ee T = plt p q ps0 T := by unfold plX; rw [if_pos hc, hp, hq]
  have hI : Iv p q s0 := by rw [← hs0]; exact Iv.pls (Iv.zero (by omega) (by omega) (by omega) (by omega))
  have HI : Hid (Iv p q s0) := hI
  rw [e1, e2, e3, hc] at HPL
  have HTK : Hid (∀ tv u, Below w.heap.size w u → Rds 1 u tv ((plt p q ps0 T).map one1) → Calls Try.prog 29 #[.slice va vl vcp, tv] u fun r w' => ∃ lv, r = .returned (.tuple #[lv, .bool true]) ∧ Rds 4 w' lv (s0.C.map cm4) ∧ Below u.heap.size u w') := fun tv u hb h => by
    have := taken_any p q (.slice va vl vcp) tv T u (HR.out.below hb) h hT
    rw [hs0] at this
    exact this
  have HWK : Hid (∀ (s : Ps) vc ve u, Iv p q s → Rcs u vc (mcs p q s).c.C → Rcs u ve (mcs p q s).e.C → Calls Try.prog 16 #[agv (mvl vc ve (mcs p q s)), .int .i64 1] u fun e w' => ∃ vc' ve' k, e = .returned (.tuple #[agv (mvl vc' ve' (mcs p q (wrS p q s 1))), .int .i64 k]) ∧ Tl u vc' ve' (mcs p q (wrS p q s 1)) w') := fun s vc ve u hi h1 h2 => by
    have := work_any vc ve (mcs p q s) 1 u (hi.inn h1 h2)
    rw [(hi.wr 1).1] at this
    refine this.mono ?_
    rintro e w' ⟨x, y, h1, h2⟩
    exact ⟨x, y, _, h1, h2⟩
  have HRP : Hid (∀ (s : Ps) vc ve u, Iv p q s → Rcs u vc (mcs p q (wrS p q s 1)).c.C → Rcs u ve (mcs p q (wrS p q s 1)).e.C → Calls Try.prog 18 #[agv (mvl vc ve (mcs p q (wrS p q s 1)))] u fun e w' => ∃ vc' ve' x, e = .returned (.tuple #[agv (mvl vc' ve' (mcs p q (cal p q s))), x, .bool (decide (s.g < s.C.length))]) ∧ Tl u vc' ve' (mcs p q (cal p q s)) w') := fun s vc ve u hi h1 h2 => by
    have := reap_any vc ve (mcs p q (wrS p q s 1)) u ((hi.wr 1).2.inn h1 h2)
    obtain ⟨r1, r2, r3, r4⟩ := (hi.wr 1).2.rp
    rw [r1, r2, cal_b hi] at this
    refine this.mono ?_
    rintro e w' ⟨x, y, h1, h2⟩
    exact ⟨x, y, _, h1, h2⟩
  have HSM : Hid (∀ (s : Ps) vc ve u, Iv p q s → Rcs u vc (mcs p q s).c.C → Rcs u ve (mcs p q s).e.C → Calls Try.prog 13 #[agv (mvl vc ve (mcs p q s)), agv (ivs [1, 0, 0, 0])] u fun e w' => ∃ vc' ve', e = .returned (.tuple #[agv (mvl vc' ve' (mcs p q (sbS p s (1, 0, 0, 0)))), .int .i64 (sbT p s (1, 0, 0, 0))]) ∧ Tl u vc' ve' (mcs p q (sbS p s (1, 0, 0, 0))) w') := fun s vc ve u hi h1 h2 => by
    have := submit_any vc ve (mcs p q s) (1, 0, 0, 0) u (hi.inn h1 h2)
    rw [(hi.sb _).1, (hi.sb _).2.1] at this
    exact this
  obtain ⟨g1, g2, g3, g4, g5, g6, g7⟩ := iv_nums hI
  have HGL : Hid ((rpd s0).length = s0.g) := by show _ = _; unfold rpd; simp; omega
  obtain ⟨L, hL⟩ : ∃ L, s0.C.length = L := ⟨_, rfl⟩
  have HLL : Hid (s0.C.length = L) := hL
  have hLB : L ≤ 300 := by
    have h := plt_len T ps0 (p := p) (q := q)
    have : ∀ (T : List Dd) (s : Ps), (pls p q s T).C.length ≤ s.C.length + T.length := fun T => by
      induction T with
      | nil => intro s; exact Nat.le_refl _
      | cons d r ih =>
        intro s
        have h1 := ih (stp p q s d)
        have h2 : (stp p q s d).C.length ≤ s.C.length + 1 := by
          by_cases hd : d.1 = 1
          · unfold stp
            rw [if_pos hd]
            unfold sbS
            split
            · simp
            · omega
          · rw [(stp_c s d hd).1]; omega
        show (pls p q (stp p q s d) r).C.length ≤ _
        rw [List.length_cons]
        omega
    have h2 := this T ps0
    rw [hs0, hL] at h2
    simp [ps0] at h2
    omega
  obtain ⟨G, hG⟩ : ∃ G, s0.g = G := ⟨_, rfl⟩
  have HGG : Hid (s0.g = G) := hG
  have hGL : G ≤ L := by omega
  have hb1 := bld_c1 1
  have HC4 : Hid (Vs (ivs [1, 0, 0, 0]) 4) := ivs_vs rfl
  clear hc hnb hT hp hq e1 e2 e3 g1 g2 g5 g6 g7 hs0 hL hG
  go_enter Try.func8, Try.ntmps8
  repeat' (first | go_values | go_skip | go_guarded | go_step | go_upon | (simp only [Int.not_lt, Int.not_le] at *; go_simp))
  refine (HPL.out _ hM.below).mono ?_
  rintro r u1 ⟨vc, ve, gv, tv, rfl, ht, hg, ho⟩
  have H3 : Hid (Vs (mvl vc ve (mcs p q s0)) 606) := mvl_vs (rcs_one ht.c.rcs) (rcs_one ht.e.rcs) hI.w
  have HU1 : Hid (Below w.heap.size w u1) := (hM.call ht.below).below
  clear hM
  have hM : Mv u1 u1 [] [(false, vc, (mcs p q s0).c.C), (false, ve, (mcs p q s0).e.C)] := ((Mv.nil u1).old ht.e.rcs).old ht.c.rcs
  obtain ⟨ga, gc, hgv, _, hgm⟩ := hg.form
  rw [List.length_map, HGL.out, HGG.out] at hgv
  subst hgv
  have HO : Hid (∀ W, Below u1.heap.size u1 W → Rds 1 W tv ((plt p q ps0 T).map one1)) := fun W hW => ho.below hW
  obtain ⟨ta, tl, tc, rfl⟩ : ∃ a n c, tv = .slice a n c := by obtain ⟨a, c, h, _⟩ := ho.form; exact ⟨_, _, _, h⟩
  clear ht hg ho hI
  repeat' (first | (go_big_may; first | (refine v_alloc rfl zer_mach rfl ?_; intro u xm hN; replace hM := hM.new hN (by decide); clear hN) | (refine v_fill rfl rfl row_mach rfl rfl hM.at0 H3.out HZ.out ?_; intro u hv hc; replace hM := hM.put0 hc hv; clear hv hc)) | go_values | go_skip | go_guarded | go_step | go_upon | (simp only [Int.not_lt, Int.not_le] at *; go_simp))
  refine (HLV.out _).mono ?_
  rintro r u2 ⟨rfl, hv⟩
  replace hM := hM.call hv
  clear hv
  repeat' (first | go_values | go_skip | go_guarded | go_step | go_upon | (simp only [Int.not_lt, Int.not_le] at *; go_simp))
  refine (HTK.out _ _ (bsq HU1.out hM.below) (HO.out _ hM.below)).mono ?_
  rintro r u3 ⟨lv, rfl, hl4, hb⟩
  replace hM := hM.call hb
  obtain ⟨la, lc, hlv, hl5, hl6⟩ := hl4.form
  rw [List.length_map, HLL.out] at hlv hl5
  subst hlv
  unfold maxLen at hl6 hgm
  clear hb hl4
  repeat' (first | go_values | go_skip | go_guarded | go_step | go_upon | (simp only [Int.not_lt, Int.not_le] at *; go_simp))
  have HC0 : Hid (Cal u1 u3 xm p q s0.C 0 G s0) := ⟨⟨false, vc, ve, hM⟩, HI.out, rfl, HGG.out, .inl (Nat.zero_le _)⟩
  clear hM H3
  go_loopw [13, 14, 42] (fun nv okv i wr => ∃ k n : Nat, k ≤ L + 2 ∧ n ≤ L ∧ i = .int .i64 (k : Int) ∧ nv = .int .i64 (n : Int) ∧ Hid (∃ s, Cal u1 wr xm p q s0.C k n s)) (fun _ _ i _ => L + 2 - (intOf i).toNat)
  case atStart => exact ⟨0, G, Nat.zero_le _, hGL, rfl, rfl, s0, HC0.out⟩
  case round =>
    obtain ⟨k, n, hk, hn, rfl, rfl, HA⟩ := hrel
    obtain ⟨s, hP⟩ := HA.out
    obtain ⟨⟨b, vc1, ve1, hM⟩, hIs, hcs, hgs, hks⟩ := hP
    have HIs : Hid (Iv p q s) := hIs
    have H4 : Hid (Vs (mvl vc1 ve1 (mcs p q s)) 606) := mvl_vs (rcs_one (hM.read (b := b) (x := vc1) (C := (mcs p q s).c.C) (by simp))) (rcs_one (hM.read (b := b) (x := ve1) (C := (mcs p q s).e.C) (by simp))) hIs.w
    have HL4 : Hid (0 + 606 ≤ (mvl vc1 ve1 (mcs p q s)).length) := by show _ ≤ _; rw [H4.out.len]; exact Nat.le_refl _
    have HA4 : Hid (cv (mvl vc1 ve1 (mcs p q s)) 0 606 = mvl vc1 ve1 (mcs p q s)) := cv_all H4.out.len
    have HCS : Hid (s.C = s0.C ∧ s.g = n ∧ (k ≤ n ∨ n = s0.C.length)) := ⟨hcs, hgs, hks⟩
    by_cases hlt : ¬ k < L + 2
    · have hnL : n = L := by
        have := HLL.out
        rcases hks with h | h <;> omega
      subst hnL
      have e3 : decide ((k : Int) < (n : Int) + 2) = false := by simp; omega
      have e4 : ((n : Int) != (n : Int)) = false := by simp
      have hsn : (mcs p q s).c.sn = (mcs p q s).c.pa := by
        show ((s.g % p : Nat) : Int) = (((s.C.map pkW).length % p : Nat) : Int)
        rw [List.length_map, hgs, hcs, HLL.out]
      have Q5 : Hid ((mvl vc1 ve1 (mcs p q s))[5]? = some (.int .i64 (mcs p q s).c.sn)) := rfl
      have Q1 : Hid ((mvl vc1 ve1 (mcs p q s))[1]? = some (.int .i64 (mcs p q s).c.sn)) := by show _ = _; rw [hsn]; rfl
      have e5 : ((mcs p q s).c.sn != (mcs p q s).c.sn) = false := by simp
      generalize (mcs p q s).c.sn = sn at *
      obtain ⟨P, hP⟩ : ∃ P : Int, cc - 2 = P := ⟨_, rfl⟩
      have HPP : Hid (P = (p : Int) - 1) := by have := HCP.out; show _ = _; omega
      have hcb : 3 ≤ cc := by have := HCP.out; omega
      have hcb2 : cc ≤ 64 := by have := HCP.out; omega
      have HB0 : Hid (Sub u1 wr xm p q n 0 s) := ⟨⟨b, vc1, ve1, hM⟩, hIs, by rw [hcs, HLL.out]; rfl, hgs⟩
      clear hcs hgs hks hIs HA HC0 hsn hlt
      repeat' (first | (go_big_may; first | (refine v_get rfl rfl (.inl rfl) rfl hM.at0 Q5.out ?_) | (refine v_get rfl rfl (.inl rfl) rfl hM.at0 Q1.out ?_)) | go_values | go_skip | go_guarded | go_step | go_upon | (simp only [Int.not_lt, Int.not_le] at *; go_simp))
      clear hM
      go_loopw [10, 75] (fun cd i wr => ∃ k : Nat, k ≤ p - 1 ∧ i = .int .i64 (k : Int) ∧ Hid (∃ s, Sub u1 wr xm p q n k s)) (fun _ i _ => p - 1 - (intOf i).toNat)
      case atStart => exact ⟨0, Nat.zero_le _, rfl, s, HB0.out⟩
      case round =>
        obtain ⟨k2, hk2, rfl, HA2⟩ := hrel
        obtain ⟨s2, hP2⟩ := HA2.out
        obtain ⟨⟨b2, vc2, ve2, hM⟩, hIs2, hcs2, hgs2⟩ := hP2
        have HIs2 : Hid (Iv p q s2) := hIs2
        have H5 : Hid (Vs (mvl vc2 ve2 (mcs p q s2)) 606) := mvl_vs (rcs_one (hM.read (b := b2) (x := vc2) (C := (mcs p q s2).c.C) (by simp))) (rcs_one (hM.read (b := b2) (x := ve2) (C := (mcs p q s2).e.C) (by simp))) hIs2.w
        have HL5 : Hid (0 + 606 ≤ (mvl vc2 ve2 (mcs p q s2)).length) := by show _ ≤ _; rw [H5.out.len]; exact Nat.le_refl _
        have HA5 : Hid (cv (mvl vc2 ve2 (mcs p q s2)) 0 606 = mvl vc2 ve2 (mcs p q s2)) := cv_all H5.out.len
        have HSU : Hid (∀ u, Rcs u vc2 (mcs p q s2).c.C → Rcs u ve2 (mcs p q s2).e.C → Calls Try.prog 13 #[agv (mvl vc2 ve2 (mcs p q s2)), agv (ivs [1, 0, 0, 0])] u fun e w' => ∃ vc' ve', e = .returned (.tuple #[agv (mvl vc' ve' (mcs p q (sbS p s2 (1, 0, 0, 0)))), .int .i64 (sbT p s2 (1, 0, 0, 0))]) ∧ Tl u vc' ve' (mcs p q (sbS p s2 (1, 0, 0, 0))) w') := fun u h1 h2 => HSM.out s2 vc2 ve2 u HIs2.out h1 h2
        have hpk : pkB (1, 0, 0, 0) = true := by decide
        by_cases hlt2 : ¬ k2 < p - 1
        · have hsb : sbT p s2 (1, 0, 0, 0) = 11 := by
            unfold sbT rmB
            rw [hpk, decide_eq_false (by omega)]
            rfl
          rw [hsb] at HSU
          have e6 : decide ((k2 : Int) < P) = false := by have := HPP.out; simp; omega
          clear hlt2 hsb HA2 hcs2 hgs2 hIs2 HB0
          repeat' (first | (go_big_may; first | (refine v_load rfl rfl row_mach rfl hM.at0 HL5.out HA5.out ?_) | (refine v_build rfl rfl hb1 ?hbv ?_; (case hbv => simp [Act.eval, Act.put]))) | go_values | go_skip | go_guarded | go_step | go_upon | (simp only [Int.not_lt, Int.not_le] at *; go_simp))
          refine (HSU.out _ (hM.read (b := b2) (by simp)) (hM.read (b := b2) (by simp))).mono ?_
          rintro r u6 ⟨x1, x2, rfl, ht⟩
          replace hM := hM.call ht.below
          clear ht
          repeat' (first | go_values | go_skip | go_guarded | go_step | go_upon | (simp only [Int.not_lt, Int.not_le] at *; go_simp))
          go_ret
          exact ⟨rfl, bsq HU1.out hM.below⟩
        · have hlt2 : k2 < p - 1 := by omega
          have hrm : rmB p s2 = true := by unfold rmB; rw [decide_eq_true (by omega)]
          have hsb : sbT p s2 (1, 0, 0, 0) = 0 := by unfold sbT; rw [hpk, hrm]; rfl
          have hsv : sbS p s2 (1, 0, 0, 0) = ⟨s2.C ++ [(1, 0, 0, 0)], s2.E, s2.g, s2.B⟩ := by unfold sbS; rw [if_pos ⟨hpk, hrm⟩]
          have HNX : Hid (Iv p q (sbS p s2 (1, 0, 0, 0)) ∧ (sbS p s2 (1, 0, 0, 0)).C.length = n + (k2 + 1) ∧ (sbS p s2 (1, 0, 0, 0)).g = n) := ⟨(hIs2.sb _).2.2, by rw [hsv]; show (s2.C ++ [(1, 0, 0, 0)]).length = _; rw [List.length_append, hcs2]; rfl, by rw [hsv]; exact hgs2⟩
          rw [hsb] at HSU
          have e6 : decide ((k2 : Int) < P) = true := by have := HPP.out; simp; omega
          clear hsb hsv hrm HA2 hcs2 hgs2 hIs2 HB0
          generalize hS2 : sbS p s2 (1, 0, 0, 0) = S2 at *
          clear hS2
          repeat' (first | (go_big_may; first | (refine v_load rfl rfl row_mach rfl hM.at0 HL5.out HA5.out ?_) | (refine v_build rfl rfl hb1 ?hbv ?_; (case hbv => simp [Act.eval, Act.put]))) | go_values | go_skip | go_guarded | go_step | go_upon | (simp only [Int.not_lt, Int.not_le] at *; go_simp))
          refine (HSU.out _ (hM.read (b := b2) (by simp)) (hM.read (b := b2) (by simp))).mono ?_
          rintro r u6 ⟨x1, x2, rfl, ht⟩
          have H6 : Hid (Vs (mvl x1 x2 (mcs p q S2)) 606) := mvl_vs (rcs_one ht.c.rcs) (rcs_one ht.e.rcs) HNX.out.1.w
          replace hM := ((hM.call ht.below).add (b := true) (ht.e.mono hM.below.size)).add (b := true) (ht.c.mono hM.below.size)
          clear ht
          repeat' (first | (go_big_may; first | (refine v_fill rfl rfl row_mach rfl rfl hM.at0 H6.out H5.out.len ?_; intro u hv hc; replace hM := hM.put0 hc hv; clear hv hc)) | go_values | go_skip | go_guarded | go_step | go_upon | (simp only [Int.not_lt, Int.not_le] at *; go_simp))
          go_roundw
          case rel => exact ⟨k2 + 1, by omega, by go_num, S2, ⟨true, x1, x2, hM.sub (List.Sublist.refl _) (by simp)⟩, HNX.out.1, HNX.out.2.1, HNX.out.2.2⟩
          case measure => simp [intOf]; omega
    have hlt : k < L + 2 := by omega
    have e3 : decide ((k : Int) < (L : Int) + 2) = true := by simp; omega
    obtain ⟨k1, k2, k3⟩ := cal_g hIs
    have HCA : Hid ((cal p q s).C = s0.C ∧ (cal p q s).g = (if s.g < s.C.length then s.g + 1 else s.g) ∧ Iv p q (cal p q s)) := ⟨k1.trans hcs, k2, k3⟩
    have HWW : Hid (Wf (mcs p q (wrS p q s 1)).B) := (hIs.wr 1).2.w
    have HW1 : Hid (∀ u, Rcs u vc1 (mcs p q s).c.C → Rcs u ve1 (mcs p q s).e.C → Calls Try.prog 16 #[agv (mvl vc1 ve1 (mcs p q s)), .int .i64 1] u fun e w' => ∃ vc' ve' k, e = .returned (.tuple #[agv (mvl vc' ve' (mcs p q (wrS p q s 1))), .int .i64 k]) ∧ Tl u vc' ve' (mcs p q (wrS p q s 1)) w') := fun u h1 h2 => HWK.out s vc1 ve1 u HIs.out h1 h2
    have HR1 : Hid (∀ vc ve u, Rcs u vc (mcs p q (wrS p q s 1)).c.C → Rcs u ve (mcs p q (wrS p q s 1)).e.C → Calls Try.prog 18 #[agv (mvl vc ve (mcs p q (wrS p q s 1)))] u fun e w' => ∃ vc' ve' x, e = .returned (.tuple #[agv (mvl vc' ve' (mcs p q (cal p q s))), x, .bool (decide (s.g < s.C.length))]) ∧ Tl u vc' ve' (mcs p q (cal p q s)) w') := fun vc ve u h1 h2 => HRP.out s vc ve u HIs.out h1 h2
    clear k1 k2 k3 hcs hgs hks hIs HA HC0
    generalize hc2 : cal p q s = S2 at *
    generalize hc1 : wrS p q s 1 = S1 at *
    clear hc1 hc2
    by_cases hg : s.g < s.C.length
    · rw [decide_eq_true hg] at HR1
      have hgn : n < L := by have h := HCS.out; rw [h.1, HLL.out, h.2.1] at hg; exact hg
      have HN : Hid (S2.C = s0.C ∧ S2.g = n + 1 ∧ Iv p q S2) := by
        have h := HCA.out
        rw [if_pos hg] at h
        exact ⟨h.1, by rw [h.2.1, HCS.out.2.1], h.2.2⟩
      clear hg HCA
      repeat' (first | (go_big_may; first | (refine v_load rfl rfl row_mach rfl hM.at0 HL4.out HA4.out ?_)) | go_values | go_skip | go_guarded | go_step | go_upon | (simp only [Int.not_lt, Int.not_le] at *; go_simp))
      refine (HW1.out _ (hM.read (b := b) (by simp)) (hM.read (b := b) (by simp))).mono ?_
      rintro r u6 ⟨x1, x2, kk, rfl, ht⟩
      have H6 : Hid (Vs (mvl x1 x2 (mcs p q S1)) 606) := mvl_vs (rcs_one ht.c.rcs) (rcs_one ht.e.rcs) HWW.out
      have HL6 : Hid (0 + 606 ≤ (mvl x1 x2 (mcs p q S1)).length) := by show _ ≤ _; rw [H6.out.len]; exact Nat.le_refl _
      have HA6 : Hid (cv (mvl x1 x2 (mcs p q S1)) 0 606 = mvl x1 x2 (mcs p q S1)) := cv_all H6.out.len
      replace hM := ((hM.call ht.below).add (b := true) (ht.e.mono hM.below.size)).add (b := true) (ht.c.mono hM.below.size)
      clear ht
      repeat' (first | (go_big_may; first | (refine v_fill rfl rfl row_mach rfl rfl hM.at0 H6.out H4.out.len ?_; intro u hv hc; replace hM := hM.put0 hc hv; clear hv hc) | (refine v_load rfl rfl row_mach rfl hM.at0 HL6.out HA6.out ?_)) | go_values | go_skip | go_guarded | go_step | go_upon | (simp only [Int.not_lt, Int.not_le] at *; go_simp))
      refine (HR1.out x1 x2 _ (hM.read (b := true) (by simp)) (hM.read (b := true) (by simp))).mono ?_
      rintro r u7 ⟨y1, y2, yx, rfl, ht⟩
      have H7 : Hid (Vs (mvl y1 y2 (mcs p q S2)) 606) := mvl_vs (rcs_one ht.c.rcs) (rcs_one ht.e.rcs) HN.out.2.2.w
      replace hM := ((hM.call ht.below).add (b := true) (ht.e.mono hM.below.size)).add (b := true) (ht.c.mono hM.below.size)
      clear ht
      repeat' (first | (go_big_may; first | (refine v_fill rfl rfl row_mach rfl rfl hM.at0 H7.out H6.out.len ?_; intro u hv hc; replace hM := hM.put0 hc hv; clear hv hc)) | go_values | go_skip | go_guarded | go_step | go_upon | (simp only [Int.not_lt, Int.not_le] at *; go_simp))
      go_roundw
      case rel => exact ⟨k + 1, n + 1, by omega, by omega, by go_num, by go_num, S2, ⟨true, y1, y2, hM.sub (List.Sublist.refl _) (by simp)⟩, HN.out.2.2, HN.out.1, HN.out.2.1, by have h := HCS.out.2.2; have := HLL.out; omega⟩
      case measure => simp [intOf]; omega
    · rw [decide_eq_false hg] at HR1
      have hgn : n = L := by have h := HCS.out; rw [h.1, HLL.out, h.2.1] at hg; omega
      have HN : Hid (S2.C = s0.C ∧ S2.g = n ∧ Iv p q S2) := by
        have h := HCA.out
        rw [if_neg hg] at h
        exact ⟨h.1, by rw [h.2.1, HCS.out.2.1], h.2.2⟩
      have HNL : Hid (n = L) := hgn
      clear hg HCA hgn
      repeat' (first | (go_big_may; first | (refine v_load rfl rfl row_mach rfl hM.at0 HL4.out HA4.out ?_)) | go_values | go_skip | go_guarded | go_step | go_upon | (simp only [Int.not_lt, Int.not_le] at *; go_simp))
      refine (HW1.out _ (hM.read (b := b) (by simp)) (hM.read (b := b) (by simp))).mono ?_
      rintro r u6 ⟨x1, x2, kk, rfl, ht⟩
      have H6 : Hid (Vs (mvl x1 x2 (mcs p q S1)) 606) := mvl_vs (rcs_one ht.c.rcs) (rcs_one ht.e.rcs) HWW.out
      have HL6 : Hid (0 + 606 ≤ (mvl x1 x2 (mcs p q S1)).length) := by show _ ≤ _; rw [H6.out.len]; exact Nat.le_refl _
      have HA6 : Hid (cv (mvl x1 x2 (mcs p q S1)) 0 606 = mvl x1 x2 (mcs p q S1)) := cv_all H6.out.len
      replace hM := ((hM.call ht.below).add (b := true) (ht.e.mono hM.below.size)).add (b := true) (ht.c.mono hM.below.size)
      clear ht
      repeat' (first | (go_big_may; first | (refine v_fill rfl rfl row_mach rfl rfl hM.at0 H6.out H4.out.len ?_; intro u hv hc; replace hM := hM.put0 hc hv; clear hv hc) | (refine v_load rfl rfl row_mach rfl hM.at0 HL6.out HA6.out ?_)) | go_values | go_skip | go_guarded | go_step | go_upon | (simp only [Int.not_lt, Int.not_le] at *; go_simp))
      refine (HR1.out x1 x2 _ (hM.read (b := true) (by simp)) (hM.read (b := true) (by simp))).mono ?_
      rintro r u7 ⟨y1, y2, yx, rfl, ht⟩
      have H7 : Hid (Vs (mvl y1 y2 (mcs p q S2)) 606) := mvl_vs (rcs_one ht.c.rcs) (rcs_one ht.e.rcs) HN.out.2.2.w
      replace hM := ((hM.call ht.below).add (b := true) (ht.e.mono hM.below.size)).add (b := true) (ht.c.mono hM.below.size)
      clear ht
      repeat' (first | (go_big_may; first | (refine v_fill rfl rfl row_mach rfl rfl hM.at0 H7.out H6.out.len ?_; intro u hv hc; replace hM := hM.put0 hc hv; clear hv hc)) | go_values | go_skip | go_guarded | go_step | go_upon | (simp only [Int.not_lt, Int.not_le] at *; go_simp))
      go_roundw
      case rel => exact ⟨k + 1, n, by omega, by omega, by go_num, rfl, S2, ⟨true, y1, y2, hM.sub (List.Sublist.refl _) (by simp)⟩, HN.out.2.2, HN.out.1, HN.out.2.1, .inr (by rw [HNL.out]; exact HLL.out.symm)⟩
      case measure => simp [intOf]; omega
theorem walk (cc ee : Int) (v : Value) (T : List Dd) (wc : (Lit.int .i64 cc).wf = true) (we : (Lit.int .i64 ee).wf = true) (w : World) (hv : Rds 8 w v (T.map ddL)) : Calls Try.prog 8 #[.int .i64 cc, .int .i64 ee, v] w fun r w' => r = .returned (.bool true) ∧ Below w.heap.size w w' := walk0 cc ee v T w hv
end Go.Proofs.Ythjmcopknkemnaa.hostCalm
