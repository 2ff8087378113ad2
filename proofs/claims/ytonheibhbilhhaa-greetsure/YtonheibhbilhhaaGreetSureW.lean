/- GreetSure: the walk. -/
import Derived.Test.YtonheibhbilhhaaGreL
import Derived.Test.YtonheibhbilhhaaGreO
import Derived.Test.YtonheibhbilhhaaDescCo
namespace Go.Proofs.Ytonheibhbilhhaa.greetSure
open Go Go.RowKit Go.PlainAid Go.Proofs.Ytonheibhbilhhaa.lane Go.Proofs.Ytonheibhbilhhaa.desc Go.Proofs.Ytonheibhbilhhaa.greet
set_option linter.unusedVariables false
set_option linter.unusedSimpArgs false
set_option maxRecDepth 100000

/-- what was told of the device, and of its configuration -/
structure Sur (g : Gr) (dv cv : ByteArray) : Prop where
  ok : okG g = true
  wt : Wt g.c
  d : 4 ≤ g.st → g.st ≤ 8 → devOk g.d = true ∧ strOfNums (devL g.d) = dv ∧ g.d.cf = 1
  c : 6 ≤ g.st → g.st ≤ 8 → chkC g.c = 0 ∧ strOfNums (confL g.c) = cv
theorem Sur.step {g : Gr} {dv cv : ByteArray} (h : Sur g dv cv) (hn : nxE g = 0) (s : ByteArray) :
    Sur (tlG g s 0) (if g.st = 3 ∧ (tlG g s 0).st = 4 then s else dv) (if g.st = 5 ∧ 5 < (tlG g s 0).st ∧ (tlG g s 0).st < 9 then s else cv) := by
  obtain ⟨h1, h8⟩ := nx_ok.1 hn
  have hg := (okG_iff g).1 h1
  refine ⟨ok_tl hn s 0, wt_tl h.wt s 0, ?_, ?_⟩
  · rcases tl_cases hn s 0 with ⟨z, hz, q, _⟩ | ⟨_, k, hk, q⟩
    · rw [q]
      intro a1 a2
      have hst : (missG g z).st = g.st := by
        unfold missG at a1 a2 ⊢
        split
        · rename_i e; rw [if_pos e] at a2; exact absurd (show (9 : Int) ≤ 8 from a2) (by omega)
        · rfl
      have hd : (missG g z).d = g.d := by unfold missG; split <;> rfl
      rw [hst] at a1 a2
      rw [hst, hd, if_neg (by omega)]
      exact h.d a1 a2
    · rw [q]
      intro a1 a2
      have hst : ({ k with tr := 0, st := stepB k } : Gr).st = stepB k := rfl
      rw [hst] at a1 a2
      rw [hst]
      show devOk k.d = true ∧ strOfNums (devL k.d) = _ ∧ k.d.cf = 1
      obtain ⟨p1, _, _, _, _, p2, _⟩ := keep_parts hk
      have hsb : stepB k = 7 ∧ k.st = 5 ∨ stepB k = k.st + 1 := by
        unfold stepB
        split
        · left; exact ⟨rfl, by omega⟩
        · right; rfl
      by_cases h3 : g.st = 3
      · rw [if_pos (by omega)]
        unfold keepV at hk
        rw [if_neg (by omega), if_pos h3] at hk
        split at hk
        · rename_i ho
          injection hk with hk
          subst hk
          unfold okD at ho
          simp only [Bool.and_eq_true, beq_iff_eq] at ho
          obtain ⟨r1, r2, r3⟩ := rd_ok ho.1
          show devOk (rdD s) = true ∧ strOfNums (devL (rdD s)) = s ∧ (rdD s).cf = 1
          exact ⟨by rw [r1]; exact r2, by rw [r1]; exact r3, ho.2.2⟩
        · cases hk
      · rw [if_neg (by omega)]
        rcases p2 with p2 | ⟨p2, _⟩
        · rw [p2]; exact h.d (by omega) (by omega)
        · omega
  · rcases tl_cases hn s 0 with ⟨z, hz, q, _⟩ | ⟨_, k, hk, q⟩
    · rw [q]
      intro a1 a2
      have hst : (missG g z).st = g.st := by
        unfold missG at a1 a2 ⊢
        split
        · rename_i e; rw [if_pos e] at a2; exact absurd (show (9 : Int) ≤ 8 from a2) (by omega)
        · rfl
      rw [hst] at a1 a2
      rw [hst, miss_c, if_neg (by omega)]
      exact h.c a1 a2
    · rw [q]
      intro a1 a2
      have hst : ({ k with tr := 0, st := stepB k } : Gr).st = stepB k := rfl
      rw [hst] at a1 a2
      rw [hst]
      show chkC k.c = 0 ∧ strOfNums (confL k.c) = _
      obtain ⟨p1, _, _, _, _, _, p2⟩ := keep_parts hk
      have hsb : stepB k = 7 ∧ k.st = 5 ∨ stepB k = k.st + 1 := by
        unfold stepB
        split
        · left; exact ⟨rfl, by omega⟩
        · right; rfl
      by_cases h5 : g.st = 5
      · rw [if_pos (by omega)]
        unfold keepV at hk
        rw [if_neg (by omega), if_neg (by omega), if_neg (by omega), if_pos h5] at hk
        split at hk
        · rename_i c hc
          split at hk
          · injection hk with hk
            subst hk
            obtain ⟨_, r1, r2⟩ := rcO_is hc
            show chkC c = 0 ∧ strOfNums (confL c) = s
            exact ⟨r1, by rw [r2]; exact str_nums s⟩
          · cases hk
        · cases hk
      · rw [if_neg (by omega)]
        rcases p2 with p2 | ⟨p2, _⟩
        · rw [p2]; exact h.c (by omega) (by omega)
        · omega
theorem Sur.new {a : Int} (h : adB a = true) : Sur (nwG a) ⟨#[]⟩ ⟨#[]⟩ :=
  ⟨ok_new h, ⟨Nat.zero_le _, fun f hf => by cases hf⟩, fun q => absurd (show (4 : Int) ≤ 1 from q) (by omega), fun q => absurd (show (6 : Int) ≤ 1 from q) (by omega)⟩
theorem Sur.last {g : Gr} {dv cv : ByteArray} (h : Sur g dv cv) (h8 : g.st = 8) : wdT g.d = dv ∧ wdC g.d = 0 ∧ wcT g.c = cv ∧ chkC g.c = 0 ∧ g.d.cf = 1 := by
  obtain ⟨a1, a2, a3⟩ := h.d (by omega) (by omega)
  obtain ⟨b1, b2⟩ := h.c (by omega) (by omega)
  exact ⟨by unfold wdT; rw [if_pos a1]; exact a2, by unfold wdC; rw [if_pos a1], by unfold wcT; rw [if_pos b1]; exact b2, b1, a3⟩
set_option maxHeartbeats 16000000 in
theorem walk (a : Int) (v1 : Value) (T : List (List Int)) (wa : (Lit.int .i64 a).wf = true) (w : World) (hp1 : Rts w v1 T ∧ BB T ∧ ∀ q ∈ T, q.length ≤ maxLen) :
    Calls Try.prog 6 #[.int .i64 a, v1] w fun e w' => e = .returned (.bool true) ∧ Below w.heap.size w w' := by
  have HLV : Hid (∀ u, Calls Try.prog 16 #[] u fun e w' => e = .returned (.bool true) ∧ Below u.heap.size u w') := fun u => lives_any coAll u
  have HN : Hid (∀ u, Calls Try.prog 8 #[.int .i64 a] u fun e w' => e = .returned (.tuple #[grV (if adB a = true then nwG a else noGr) nilS, .int .i64 (if adB a = true then 0 else 1)]) ∧ Below u.heap.size u w') := fun u => new_any a u
  have HTl : Hid (∀ (g : Gr) uv D s e u, Rc u uv g.c D → Wt g.c → s.size ≤ maxLen → Calls Try.prog 14 #[grV g uv, .string s, .int .i64 e] u (TlP g s e u)) := fun g uv D s e u hc hw hs => tell_any coAll g uv D s e u hc hw hs
  have HWD : Hid (∀ d u, Calls Try.prog 17 #[ag (dvl d)] u fun e w' => e = .returned (.tuple #[.string (wdT d), .int .i64 (wdC d)]) ∧ Below u.heap.size u w') := fun d u => writeDevice_any d u
  have HWC : Hid (∀ c v L u, Rc u v c L → Calls Try.prog 18 #[ag (cfl c v)] u fun e w' => e = .returned (.tuple #[.string (wcT c), .int .i64 (chkC c)]) ∧ Below u.heap.size u w') := fun c v L u h => writeConfig_any c v L u h
  have HT : Hid (∀ u, Below w.heap.size w u → Rts u v1 T) := fun u hu => hp1.1.below hu
  have HTz : Hid (∀ q ∈ T, q.length ≤ maxLen) := hp1.2.2
  obtain ⟨ta, tc, hv1, ht1, ht2, _⟩ := hp1.1.cell
  subst hv1
  obtain ⟨tn, htn⟩ : ∃ n, T.length = n := ⟨_, rfl⟩
  have HTn : Hid (T.length = tn) := htn
  rw [htn] at HT ⊢
  have hM := Mo.nil w
  unfold maxLen at ht2
  rw [htn] at ht1
  clear hp1 htn wa
  cases hz : adB a
  · rw [hz] at HN
    simp only [Bool.false_eq_true, if_false] at HN
    go_enter Try.func6, Try.ntmps6
    repeat' (first | go_values | go_skip | go_guarded | go_step | go_upon | (simp only [Int.not_lt, Int.not_le] at *; go_simp))
    refine (HN.out _).mono ?_
    rintro e u1 ⟨rfl, hb⟩
    replace hM := hM.call hb
    clear hb
    repeat' (first | (go_big_may; first | (refine v_alloc rfl zer_greeting rfl ?_; intro u zg hN; replace hM := hM.new hN; clear hN) | (refine v_fill rfl rfl row_greeting rfl rfl hM.at0 (grl_vs _ rfl) rfl ?_; intro u hv hc; replace hM := hM.put0 hc hv; clear hv hc)) | go_values | go_skip | go_guarded | go_step | go_upon | (simp only [Int.not_lt, Int.not_le] at *; go_simp))
    refine (HLV.out _).mono ?_
    rintro e u2 ⟨rfl, hb⟩
    replace hM := hM.call hb
    clear hb
    repeat' (first | go_values | go_skip | go_guarded | go_step | go_upon | (simp only [Int.not_lt, Int.not_le] at *; go_simp))
    refine (HLV.out _).mono ?_
    rintro e u2 ⟨rfl, hb⟩
    replace hM := hM.call hb
    clear hb
    repeat' (first | go_values | go_skip | go_guarded | go_step | go_upon | (simp only [Int.not_lt, Int.not_le] at *; go_simp))
    go_ret
    exact ⟨rfl, hM.below⟩
  have HA0 : Hid (Sur (nwG a) ⟨#[]⟩ ⟨#[]⟩) := Sur.new hz
  rw [hz] at HN
  simp only [if_true] at HN
  clear hz
  go_enter Try.func6, Try.ntmps6
  repeat' (first | go_values | go_skip | go_guarded | go_step | go_upon | (simp only [Int.not_lt, Int.not_le] at *; go_simp))
  refine (HN.out _).mono ?_
  rintro e u1 ⟨rfl, hb⟩
  replace hM := hM.call hb
  clear hb
  repeat' (first | (go_big_may; first | (refine v_alloc rfl zer_greeting rfl ?_; intro u zg hN; replace hM := hM.new hN; clear hN) | (refine v_fill rfl rfl row_greeting rfl rfl hM.at0 (grl_vs _ rfl) rfl ?_; intro u hv hc; replace hM := hM.put0 hc hv; clear hv hc)) | go_values | go_skip | go_guarded | go_step | go_upon | (simp only [Int.not_lt, Int.not_le] at *; go_simp))
  refine (HLV.out _).mono ?_
  rintro e u2 ⟨rfl, hb⟩
  replace hM := hM.call hb
  clear hb HN HLV
  repeat' (first | go_values | go_skip | go_guarded | go_step | go_upon | (simp only [Int.not_lt, Int.not_le] at *; go_simp))
  go_loopw [7, 8, 10, 11, 12, 30] (fun s7 s8 _ _ _ i wr => ∃ (k : Nat) (g : Gr) (vf : Value) (D : FL) (dv cv : ByteArray), k ≤ tn ∧ i = .int .i64 (k : Int) ∧ s7 = .string dv ∧ s8 = .string cv ∧ Hid (Mo w wr [(zg, 29, grl g vf)] vf D ∧ D.map Prod.fst = g.c.fs ∧ Sur g dv cv)) (fun _ _ _ _ _ i _ => tn - (intOf i).toNat)
  case atStart => exact ⟨0, nwG a, nilS, [], ⟨#[]⟩, ⟨#[]⟩, Nat.zero_le _, rfl, rfl, rfl, hM, rfl, HA0.out⟩
  case round =>
    clear hM
    obtain ⟨k, g, vf, D, dv, cv, hk, rfl, rfl, rfl, HA⟩ := hrel
    have hM := HA.out.1
    have HD : Hid (D.map Prod.fst = g.c.fs) := HA.out.2.1
    have HSu : Hid (Sur g dv cv) := HA.out.2.2
    have HWt : Hid (Wt g.c) := HSu.out.wt
    have HV : Hid (vf.oneCell' = true) := hM.own.one
    clear HA
    by_cases hlt : ¬ k < tn
    · by_cases h8 : g.st = 8
      case neg =>
        have e8 : (g.st != 8) = true := by simpa using h8
        clear h8
        repeat' (first | (go_big_may; first | (refine v_get rfl rfl (by first | exact lod_int | exact lod_str | exact lod_fcs | exact lod_err) rfl hM.at0 rfl ?_)) | go_values | go_skip | go_guarded | go_step | go_upon | (simp only [Int.not_lt, Int.not_le] at *; go_simp))
        go_ret
        exact ⟨rfl, hM.below⟩
      obtain ⟨HX1, HX2, HX3, HX4, HX5⟩ : Hid (wdT g.d = dv) ∧ Hid (wdC g.d = 0) ∧ Hid (wcT g.c = cv) ∧ Hid (chkC g.c = 0) ∧ Hid (g.d.cf = 1) := HSu.out.last h8
      have H8 : Hid (g.st = 8) := h8
      clear h8
      repeat' (first | (go_big_may; first | (refine v_get rfl rfl lod_int rfl hM.at0 (v := .int .i64 8) (j := 0) (by rw [← H8.out]; rfl) ?_) | (refine v_load rfl rfl row_device rfl hM.at0 (of_decide_eq_true rfl) (show _ = dvl g.d from rfl) ?_)) | go_values | go_skip | go_guarded | go_step | go_upon | (simp only [Int.not_lt, Int.not_le] at *; go_simp))
      refine (HWD.out _ _).mono ?_
      rintro e4 u4 ⟨rfl, hb⟩
      rw [HX1.out, HX2.out]
      replace hM := hM.call hb
      clear hb
      repeat' (first | (go_big_may; first | (refine v_load rfl rfl row_config rfl hM.at0 (of_decide_eq_true rfl) (show _ = cfl g.c vf from rfl) ?_)) | go_values | go_skip | go_guarded | go_step | go_upon | (simp only [Int.not_lt, Int.not_le] at *; go_simp))
      refine (HWC.out _ _ _ _ (hM.own.rc HD.out)).mono ?_
      rintro e5 u5 ⟨rfl, hb⟩
      rw [HX3.out, HX4.out]
      replace hM := hM.call hb
      clear hb
      repeat' (first | (go_big_may; first | (refine v_get rfl rfl lod_int rfl hM.at0 (v := .int .i64 1) (j := 16) (by rw [← HX5.out]; rfl) ?_)) | go_values | go_skip | go_guarded | go_step | go_upon | (simp only [Int.not_lt, Int.not_le] at *; go_simp))
      go_ret
      exact ⟨rfl, hM.below⟩
    have hlt : k < tn := by omega
    obtain ⟨q, hq⟩ : ∃ q, T[k]? = some q := ⟨T[k]'(by rw [HTn.out]; exact hlt), List.getElem?_eq_getElem _⟩
    obtain ⟨a', c', e', _, _, hcell⟩ := (HT.out _ hM.below).cell
    injection e' with e' e2 e3
    clear e2 e3
    subst e'
    obtain ⟨tg, toff, hta, hcq⟩ := hcell k q hq
    subst hta
    have HSz : Hid ((strOfNums q).size ≤ maxLen) := by show _ ≤ _; rw [str_size]; exact HTz.out q (List.mem_of_getElem? hq)
    clear hcell hq
    obtain ⟨s, hs⟩ : ∃ s, strOfNums q = s := ⟨_, rfl⟩
    rw [hs] at hcq HSz
    clear hs
    repeat' (first | (go_big_may; first | (refine v_load rfl rfl row_greeting rfl hM.at0 (Nat.le_refl _) (cut_all rfl) ?_)) | go_values | go_skip | go_guarded | go_step | go_upon | (simp only [Int.not_lt, Int.not_le] at *; go_simp))
    refine (HTl.out g vf D s 0 _ (hM.own.rc HD.out) HWt.out HSz.out).mono ?_
    rintro e3 u3 ⟨u', L', rfl, ho, hD', hb⟩
    clear hcq
    by_cases hn : nxE g = 0
    case neg =>
      have e1 : (nxE g != 0) = true := by simpa using hn
      have HTG : Hid (tlG g s 0 = g) := tl_no hn
      rw [HTG.out]
      have hg := (okG_iff g).1 HSu.out.ok
      have e3 : (g.st == 3) = false := by
        cases z : (g.st == 3) with
        | false => rfl
        | true =>
          exfalso
          apply hn
          rw [beq_iff_eq] at z
          exact nx_ok.2 ⟨HSu.out.ok, by omega⟩
      have e5 : (g.st == 5) = false := by
        cases z : (g.st == 5) with
        | false => rfl
        | true =>
          exfalso
          apply hn
          rw [beq_iff_eq] at z
          exact nx_ok.2 ⟨HSu.out.ok, by omega⟩
      have HO : Hid (u'.oneCell' = true) := ho.one
      replace hM := hM.call hb
      clear hb ho hD' hg hn
      by_cases h8 : g.st = 8
      case neg =>
        have e8 : (g.st != 8) = true := by simpa using h8
        clear h8
        repeat' (first | (go_big_may; first | (refine v_alloc rfl zer_greeting rfl ?_; intro u zh hN; replace hM := hM.new hN; clear hN) | (refine v_fill rfl rfl row_greeting rfl rfl hM.at0 (grl_vs _ HO.out) rfl ?_; intro u hv hc; replace hM := hM.put0 hc hv; clear hv hc) | (refine v_get rfl rfl (by first | exact lod_int | exact lod_str | exact lod_fcs | exact lod_err) rfl hM.at1 rfl ?_)) | go_values | go_skip | go_guarded | go_step | go_upon | (simp only [Int.not_lt, Int.not_le] at *; go_simp))
        go_ret
        exact ⟨rfl, hM.below⟩
      obtain ⟨HX1, HX2, HX3, HX4, HX5⟩ : Hid (wdT g.d = dv) ∧ Hid (wdC g.d = 0) ∧ Hid (wcT g.c = cv) ∧ Hid (chkC g.c = 0) ∧ Hid (g.d.cf = 1) := HSu.out.last h8
      have H8 : Hid (g.st = 8) := h8
      clear h8
      repeat' (first | (go_big_may; first | (refine v_alloc rfl zer_greeting rfl ?_; intro u zh hN; replace hM := hM.new hN; clear hN) | (refine v_fill rfl rfl row_greeting rfl rfl hM.at0 (grl_vs _ HO.out) rfl ?_; intro u hv hc; replace hM := hM.put0 hc hv; clear hv hc) | (refine v_get rfl rfl lod_int rfl hM.at1 (v := .int .i64 8) (j := 0) (by rw [← H8.out]; rfl) ?_) | (refine v_load rfl rfl row_device rfl hM.at1 (of_decide_eq_true rfl) (show _ = dvl g.d from rfl) ?_)) | go_values | go_skip | go_guarded | go_step | go_upon | (simp only [Int.not_lt, Int.not_le] at *; go_simp))
      refine (HWD.out _ _).mono ?_
      rintro e4 u4 ⟨rfl, hb⟩
      rw [HX1.out, HX2.out]
      replace hM := hM.call hb
      clear hb
      repeat' (first | (go_big_may; first | (refine v_load rfl rfl row_config rfl hM.at1 (of_decide_eq_true rfl) (show _ = cfl g.c vf from rfl) ?_)) | go_values | go_skip | go_guarded | go_step | go_upon | (simp only [Int.not_lt, Int.not_le] at *; go_simp))
      refine (HWC.out _ _ _ _ (hM.own.rc HD.out)).mono ?_
      rintro e5 u5 ⟨rfl, hb⟩
      rw [HX3.out, HX4.out]
      replace hM := hM.call hb
      clear hb
      repeat' (first | (go_big_may; first | (refine v_get rfl rfl lod_int rfl hM.at1 (v := .int .i64 1) (j := 16) (by rw [← HX5.out]; rfl) ?_)) | go_values | go_skip | go_guarded | go_step | go_upon | (simp only [Int.not_lt, Int.not_le] at *; go_simp))
      go_ret
      exact ⟨rfl, hM.below⟩
    have HN0 : Hid (nxE g = 0) := hn
    rw [hn]
    have HSt := HSu.out.step hn s
    obtain ⟨h, hh⟩ : ∃ h, tlG g s 0 = h := ⟨_, rfl⟩
    rw [hh] at hD' HSt ⊢
    have HO : Hid (u'.oneCell' = true) := ho.one
    have HDD : Hid (L'.map Prod.fst = h.c.fs) := hD'
    replace hM := hM.take hb ho
    clear hb ho hD' hn hh
    by_cases h3 : g.st = 3
    · have h5 : ¬ g.st = 5 := by omega
      by_cases h4 : h.st = 4
      · have HSn : Hid (Sur h s cv) := by
          have := HSt
          rwa [if_pos (by omega), if_neg (by omega)] at this
        have b0 : (g.st == 3) = true := by simpa using h3
        have b1 : (g.st == 5) = false := by simpa using h5
        have b2 : (h.st == 4) = true := by simpa using h4
        clear HSt h3 h5 h4
        repeat' (first | (go_big_may; first | (refine v_alloc rfl zer_greeting rfl ?_; intro u zh hN; replace hM := hM.new hN; clear hN) | (refine v_fill rfl rfl row_greeting rfl rfl hM.at0 (grl_vs _ HO.out) rfl ?_; intro u hv hc; replace hM := hM.put0 hc hv; clear hv hc) | (refine v_get rfl rfl (by first | exact lod_int | exact lod_str | exact lod_fcs | exact lod_err) rfl hM.at0 rfl ?_) | (refine v_get rfl rfl (by first | exact lod_int | exact lod_str | exact lod_fcs | exact lod_err) rfl hM.at1 rfl ?_) | (refine v_load rfl rfl row_greeting rfl hM.at0 (Nat.le_refl _) (cut_all rfl) ?_) | (refine v_fill rfl rfl row_greeting rfl rfl hM.at1 (grl_vs _ HO.out) rfl ?_; intro u hv hc; replace hM := hM.put1 hc hv; clear hv hc)) | go_values | go_skip | go_guarded | go_step | go_upon | (simp only [Int.not_lt, Int.not_le] at *; go_simp))
        go_roundw
        case rel => exact ⟨k + 1, h, u', L', _, _, by omega, by go_num, rfl, rfl, hM.tail, HDD.out, HSn.out⟩
        case measure => simp [intOf]; omega
      · have HSn : Hid (Sur h dv cv) := by
          have := HSt
          rwa [if_neg (by omega), if_neg (by omega)] at this
        have b0 : (g.st == 3) = true := by simpa using h3
        have b1 : (g.st == 5) = false := by simpa using h5
        have b2 : (h.st == 4) = false := by simpa using h4
        clear HSt h3 h5 h4
        repeat' (first | (go_big_may; first | (refine v_alloc rfl zer_greeting rfl ?_; intro u zh hN; replace hM := hM.new hN; clear hN) | (refine v_fill rfl rfl row_greeting rfl rfl hM.at0 (grl_vs _ HO.out) rfl ?_; intro u hv hc; replace hM := hM.put0 hc hv; clear hv hc) | (refine v_get rfl rfl (by first | exact lod_int | exact lod_str | exact lod_fcs | exact lod_err) rfl hM.at0 rfl ?_) | (refine v_get rfl rfl (by first | exact lod_int | exact lod_str | exact lod_fcs | exact lod_err) rfl hM.at1 rfl ?_) | (refine v_load rfl rfl row_greeting rfl hM.at0 (Nat.le_refl _) (cut_all rfl) ?_) | (refine v_fill rfl rfl row_greeting rfl rfl hM.at1 (grl_vs _ HO.out) rfl ?_; intro u hv hc; replace hM := hM.put1 hc hv; clear hv hc)) | go_values | go_skip | go_guarded | go_step | go_upon | (simp only [Int.not_lt, Int.not_le] at *; go_simp))
        go_roundw
        case rel => exact ⟨k + 1, h, u', L', _, _, by omega, by go_num, rfl, rfl, hM.tail, HDD.out, HSn.out⟩
        case measure => simp [intOf]; omega
    by_cases h5 : g.st = 5
    · by_cases h6 : 5 < h.st
      · by_cases h9 : h.st < 9
        · have HSn : Hid (Sur h dv s) := by
            have := HSt
            rwa [if_neg (by omega), if_pos (by omega)] at this
          have b0 : (g.st == 3) = false := by simpa using h3
          have b1 : (g.st == 5) = true := by simpa using h5
          have b2 : decide (h.st > 5) = true := by simpa using h6
          have b3 : decide (h.st < 9) = true := by simpa using h9
          clear HSt h3 h5 h6 h9
          repeat' (first | (go_big_may; first | (refine v_alloc rfl zer_greeting rfl ?_; intro u zh hN; replace hM := hM.new hN; clear hN) | (refine v_fill rfl rfl row_greeting rfl rfl hM.at0 (grl_vs _ HO.out) rfl ?_; intro u hv hc; replace hM := hM.put0 hc hv; clear hv hc) | (refine v_get rfl rfl (by first | exact lod_int | exact lod_str | exact lod_fcs | exact lod_err) rfl hM.at0 rfl ?_) | (refine v_get rfl rfl (by first | exact lod_int | exact lod_str | exact lod_fcs | exact lod_err) rfl hM.at1 rfl ?_) | (refine v_load rfl rfl row_greeting rfl hM.at0 (Nat.le_refl _) (cut_all rfl) ?_) | (refine v_fill rfl rfl row_greeting rfl rfl hM.at1 (grl_vs _ HO.out) rfl ?_; intro u hv hc; replace hM := hM.put1 hc hv; clear hv hc)) | go_values | go_skip | go_guarded | go_step | go_upon | (simp only [Int.not_lt, Int.not_le] at *; go_simp))
          go_roundw
          case rel => exact ⟨k + 1, h, u', L', _, _, by omega, by go_num, rfl, rfl, hM.tail, HDD.out, HSn.out⟩
          case measure => simp [intOf]; omega
        · have HSn : Hid (Sur h dv cv) := by
            have := HSt
            rwa [if_neg (by omega), if_neg (by omega)] at this
          have b0 : (g.st == 3) = false := by simpa using h3
          have b1 : (g.st == 5) = true := by simpa using h5
          have b2 : decide (h.st > 5) = true := by simpa using h6
          have b3 : decide (h.st < 9) = false := by simpa using h9
          clear HSt h3 h5 h6 h9
          repeat' (first | (go_big_may; first | (refine v_alloc rfl zer_greeting rfl ?_; intro u zh hN; replace hM := hM.new hN; clear hN) | (refine v_fill rfl rfl row_greeting rfl rfl hM.at0 (grl_vs _ HO.out) rfl ?_; intro u hv hc; replace hM := hM.put0 hc hv; clear hv hc) | (refine v_get rfl rfl (by first | exact lod_int | exact lod_str | exact lod_fcs | exact lod_err) rfl hM.at0 rfl ?_) | (refine v_get rfl rfl (by first | exact lod_int | exact lod_str | exact lod_fcs | exact lod_err) rfl hM.at1 rfl ?_) | (refine v_load rfl rfl row_greeting rfl hM.at0 (Nat.le_refl _) (cut_all rfl) ?_) | (refine v_fill rfl rfl row_greeting rfl rfl hM.at1 (grl_vs _ HO.out) rfl ?_; intro u hv hc; replace hM := hM.put1 hc hv; clear hv hc)) | go_values | go_skip | go_guarded | go_step | go_upon | (simp only [Int.not_lt, Int.not_le] at *; go_simp))
          go_roundw
          case rel => exact ⟨k + 1, h, u', L', _, _, by omega, by go_num, rfl, rfl, hM.tail, HDD.out, HSn.out⟩
          case measure => simp [intOf]; omega
      · have HSn : Hid (Sur h dv cv) := by
          have := HSt
          rwa [if_neg (by omega), if_neg (by omega)] at this
        have b0 : (g.st == 3) = false := by simpa using h3
        have b1 : (g.st == 5) = true := by simpa using h5
        have b2 : decide (h.st > 5) = false := by simpa using h6
        clear HSt h3 h5 h6
        repeat' (first | (go_big_may; first | (refine v_alloc rfl zer_greeting rfl ?_; intro u zh hN; replace hM := hM.new hN; clear hN) | (refine v_fill rfl rfl row_greeting rfl rfl hM.at0 (grl_vs _ HO.out) rfl ?_; intro u hv hc; replace hM := hM.put0 hc hv; clear hv hc) | (refine v_get rfl rfl (by first | exact lod_int | exact lod_str | exact lod_fcs | exact lod_err) rfl hM.at0 rfl ?_) | (refine v_get rfl rfl (by first | exact lod_int | exact lod_str | exact lod_fcs | exact lod_err) rfl hM.at1 rfl ?_) | (refine v_load rfl rfl row_greeting rfl hM.at0 (Nat.le_refl _) (cut_all rfl) ?_) | (refine v_fill rfl rfl row_greeting rfl rfl hM.at1 (grl_vs _ HO.out) rfl ?_; intro u hv hc; replace hM := hM.put1 hc hv; clear hv hc)) | go_values | go_skip | go_guarded | go_step | go_upon | (simp only [Int.not_lt, Int.not_le] at *; go_simp))
        go_roundw
        case rel => exact ⟨k + 1, h, u', L', _, _, by omega, by go_num, rfl, rfl, hM.tail, HDD.out, HSn.out⟩
        case measure => simp [intOf]; omega
    have HSn : Hid (Sur h dv cv) := by
      have := HSt
      rwa [if_neg (by omega), if_neg (by omega)] at this
    have b0 : (g.st == 3) = false := by simpa using h3
    have b1 : (g.st == 5) = false := by simpa using h5
    clear HSt h3 h5
    repeat' (first | (go_big_may; first | (refine v_alloc rfl zer_greeting rfl ?_; intro u zh hN; replace hM := hM.new hN; clear hN) | (refine v_fill rfl rfl row_greeting rfl rfl hM.at0 (grl_vs _ HO.out) rfl ?_; intro u hv hc; replace hM := hM.put0 hc hv; clear hv hc) | (refine v_get rfl rfl (by first | exact lod_int | exact lod_str | exact lod_fcs | exact lod_err) rfl hM.at0 rfl ?_) | (refine v_get rfl rfl (by first | exact lod_int | exact lod_str | exact lod_fcs | exact lod_err) rfl hM.at1 rfl ?_) | (refine v_load rfl rfl row_greeting rfl hM.at0 (Nat.le_refl _) (cut_all rfl) ?_) | (refine v_fill rfl rfl row_greeting rfl rfl hM.at1 (grl_vs _ HO.out) rfl ?_; intro u hv hc; replace hM := hM.put1 hc hv; clear hv hc)) | go_values | go_skip | go_guarded | go_step | go_upon | (simp only [Int.not_lt, Int.not_le] at *; go_simp))
    go_roundw
    case rel => exact ⟨k + 1, h, u', L', _, _, by omega, by go_num, rfl, rfl, hM.tail, HDD.out, HSn.out⟩
    case measure => simp [intOf]; omega
end Go.Proofs.Ytonheibhbilhhaa.greetSure
