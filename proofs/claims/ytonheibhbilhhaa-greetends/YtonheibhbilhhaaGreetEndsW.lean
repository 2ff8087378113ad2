/- GreetEnds: the walk. -/
import Derived.Test.YtonheibhbilhhaaGreL
import Derived.Test.YtonheibhbilhhaaGreO
import Derived.Test.YtonheibhbilhhaaDescCo
namespace Go.Proofs.Ytonheibhbilhhaa.greetEnds
open Go Go.RowKit Go.PlainAid Go.Proofs.Ytonheibhbilhhaa.lane Go.Proofs.Ytonheibhbilhhaa.desc Go.Proofs.Ytonheibhbilhhaa.greet
set_option linter.unusedVariables false
set_option linter.unusedSimpArgs false
set_option maxRecDepth 100000

/-- how far a greeting has come -/
structure At (g : Gr) (k : Nat) : Prop where
  ok : okG g = true
  far : 8 ≤ g.st ∨ (k : Int) ≤ 3 * (g.st - 1) + g.tr
  er : (g.st = 9 ∧ g.er ≠ 0) ∨ (g.st ≠ 9 ∧ g.er = 0)
  wt : Wt g.c
theorem At.next {g : Gr} {k : Nat} (h : At g k) (hn : nxE g = 0) (s : ByteArray) (e : Int) : At (tlG g s e) (k + 1) := by
  obtain ⟨h1, h8⟩ := nx_ok.1 hn
  have hg := (okG_iff g).1 h1
  have hf : (k : Int) ≤ 3 * (g.st - 1) + g.tr := h.far.resolve_left h8
  have he : g.er = 0 := by
    rcases h.er with ⟨q, _⟩ | ⟨_, q⟩
    · omega
    · exact q
  refine ⟨ok_tl hn s e, ?_, ?_, wt_tl h.wt s e⟩
  · rcases tl_cases hn s e with ⟨z, hz, q, _⟩ | ⟨_, x, hx, q⟩
    · rw [q]; unfold missG
      by_cases h2 : g.tr = 2
      · rw [if_pos h2]; left; show (8 : Int) ≤ 9; omega
      · rw [if_neg h2]; right; show ((k + 1 : Nat) : Int) ≤ 3 * (g.st - 1) + (g.tr + 1); omega
    · rw [q]
      have hp := (keep_parts hx).1
      have hs : stepB x = 7 ∧ x.st = 5 ∨ stepB x = x.st + 1 := by
        unfold stepB
        split
        · left; exact ⟨rfl, by omega⟩
        · right; rfl
      right
      show ((k + 1 : Nat) : Int) ≤ 3 * (stepB x - 1) + 0
      omega
  · rcases tl_cases hn s e with ⟨z, hz, q, _⟩ | ⟨_, x, hx, q⟩
    · rw [q]; unfold missG
      by_cases h2 : g.tr = 2
      · rw [if_pos h2]; left; exact ⟨rfl, hz⟩
      · rw [if_neg h2]; right; exact ⟨by show g.st ≠ 9; omega, he⟩
    · rw [q]
      have hp := (keep_parts hx).1
      have hr := (keep_parts hx).2.2.2.1
      have hs : stepB x = 7 ∨ stepB x = x.st + 1 := by unfold stepB; split <;> simp
      right
      exact ⟨by show stepB x ≠ 9; omega, by show x.er = 0; omega⟩
theorem At.done {g : Gr} {k : Nat} (h : At g k) (hk : 21 ≤ k) : ¬ nxE g = 0 := by
  intro hn
  obtain ⟨h1, h8⟩ := nx_ok.1 hn
  have hg := (okG_iff g).1 h1
  rcases h.far with q | q
  · exact h8 q
  · omega
theorem At.last {g : Gr} {k : Nat} (h : At g k) (hn : ¬ nxE g = 0) : nxE g = 12 ∧ (g.st = 8 ∨ g.st = 9) := by
  have hg := (okG_iff g).1 h.ok
  have h8 : 8 ≤ g.st := by
    apply Classical.byContradiction
    intro q
    exact hn (nx_ok.2 ⟨h.ok, q⟩)
  refine ⟨?_, by omega⟩
  unfold nxE
  rw [if_neg (by rw [h.ok]; decide), if_pos h8]
theorem at_new {a : Int} (h : adB a = true) : At (nwG a) 0 := ⟨ok_new h, .inr (by show ((0 : Nat) : Int) ≤ 3 * (1 - 1) + 0; omega), .inr ⟨by show (1 : Int) ≠ 9; omega, rfl⟩, ⟨Nat.zero_le _, fun f hf => by cases hf⟩⟩
set_option maxHeartbeats 16000000 in
theorem walk (a : Int) (v1 : Value) (T : List (List Int)) (v2 : Value) (C : List Int) (wa : (Lit.int .i64 a).wf = true) (w : World) (hp1 : Rts w v1 T ∧ BB T ∧ ∀ q ∈ T, q.length ≤ maxLen) (hp2 : Ris w v2 C) :
    Calls Try.prog 5 #[.int .i64 a, v1, v2] w fun e w' => e = .returned (.bool true) ∧ Below w.heap.size w w' := by
  have HLV : Hid (∀ u, Calls Try.prog 16 #[] u fun e w' => e = .returned (.bool true) ∧ Below u.heap.size u w') := fun u => lives_any coAll u
  have HN : Hid (∀ u, Calls Try.prog 8 #[.int .i64 a] u fun e w' => e = .returned (.tuple #[grV (if adB a = true then nwG a else noGr) nilS, .int .i64 (if adB a = true then 0 else 1)]) ∧ Below u.heap.size u w') := fun u => new_any a u
  have HNx : Hid (∀ g v u, Calls Try.prog 10 #[grV g v] u fun e w' => e = .returned (.tuple #[.string (nxT g), .int .i64 (nxE g)]) ∧ Below u.heap.size u w') := fun g v u => next_any g v u
  have HTl : Hid (∀ (g : Gr) uv D s e u, Rc u uv g.c D → Wt g.c → s.size ≤ maxLen → Calls Try.prog 14 #[grV g uv, .string s, .int .i64 e] u (TlP g s e u)) := fun g uv D s e u hc hw hs => tell_any coAll g uv D s e u hc hw hs
  have HS : Hid (∀ (g : Gr) u1 u2 L1 L2 u, Rc u u1 g.c L1 → Rc u u2 g.c L2 → Calls Try.prog 13 #[grV g u1, grV g u2] u fun e w' => e = .returned (.bool true) ∧ Below u.heap.size u w') := fun g u1 u2 L1 L2 u h1 h2 => sameGr_any g u1 u2 L1 L2 u h1 h2
  have HT : Hid (∀ u, Below w.heap.size w u → Rts u v1 T) := fun u hu => hp1.1.below hu
  have HTz : Hid (∀ q ∈ T, q.length ≤ maxLen) := hp1.2.2
  have HC : Hid (∀ u, Below w.heap.size w u → Ris u v2 C) := fun u hu => hp2.below hu
  obtain ⟨ta, tc, hv1, ht1, ht2, _⟩ := hp1.1.cell
  obtain ⟨ca, cc, hv2, hc1, hc2, _⟩ := hp2
  subst hv1 hv2
  obtain ⟨tn, htn⟩ : ∃ n, T.length = n := ⟨_, rfl⟩
  obtain ⟨cn, hcn⟩ : ∃ n, C.length = n := ⟨_, rfl⟩
  have HTn : Hid (T.length = tn) := htn
  have HCn : Hid (C.length = cn) := hcn
  rw [htn] at HT ⊢
  rw [hcn] at HC ⊢
  have hM := Mo.nil w
  unfold maxLen at ht2 hc2
  rw [htn] at ht1
  rw [hcn] at hc1
  clear hp1 htn hcn wa
  cases hz : adB a
  · rw [hz] at HN
    simp only [Bool.false_eq_true, if_false] at HN
    go_enter Try.func5, Try.ntmps5
    repeat' (first | go_values | go_skip | go_guarded | go_step | go_upon | (simp only [Int.not_lt, Int.not_le] at *; go_simp))
    refine (HN.out _).mono ?_
    rintro e u1 ⟨rfl, hb⟩
    replace hM := hM.call hb
    clear hb
    repeat' (first | (go_big_may; first | (refine v_alloc rfl zer_greeting rfl ?_; intro u zg hN; replace hM := hM.new hN; clear hN) | (refine v_fill rfl rfl row_greeting rfl rfl hM.at0 (grl_vs _ rfl) rfl ?_; intro u hv hc; replace hM := hM.put0 hc hv; clear hv hc)) | go_values | go_skip | go_guarded | go_step | go_upon | (simp only [Int.not_lt, Int.not_le] at *; go_simp))
    refine (HLV.out _).mono ?_
    rintro e u2 ⟨rfl, hb⟩
    replace hM := hM.call hb
    clear hb
    repeat' (first | go_values | go_skip | go_guarded | go_step | go_upon | (simp only [Int.not_lt, Int.not_le] at *; go_simp))
    refine (HLV.out _).mono ?_
    rintro e u2 ⟨rfl, hb⟩
    replace hM := hM.call hb
    clear hb
    repeat' (first | go_values | go_skip | go_guarded | go_step | go_upon | (simp only [Int.not_lt, Int.not_le] at *; go_simp))
    go_ret
    exact ⟨rfl, hM.below⟩
  have HA0 : Hid (At (nwG a) 0) := at_new hz
  rw [hz] at HN
  simp only [if_true] at HN
  clear hz
  go_enter Try.func5, Try.ntmps5
  repeat' (first | go_values | go_skip | go_guarded | go_step | go_upon | (simp only [Int.not_lt, Int.not_le] at *; go_simp))
  refine (HN.out _).mono ?_
  rintro e u1 ⟨rfl, hb⟩
  replace hM := hM.call hb
  clear hb
  repeat' (first | (go_big_may; first | (refine v_alloc rfl zer_greeting rfl ?_; intro u zg hN; replace hM := hM.new hN; clear hN) | (refine v_fill rfl rfl row_greeting rfl rfl hM.at0 (grl_vs _ rfl) rfl ?_; intro u hv hc; replace hM := hM.put0 hc hv; clear hv hc)) | go_values | go_skip | go_guarded | go_step | go_upon | (simp only [Int.not_lt, Int.not_le] at *; go_simp))
  refine (HLV.out _).mono ?_
  rintro e u2 ⟨rfl, hb⟩
  replace hM := hM.call hb
  clear hb HN HLV
  repeat' (first | go_values | go_skip | go_guarded | go_step | go_upon | (simp only [Int.not_lt, Int.not_le] at *; go_simp))
  go_loopw [8, 9, 10, 11, 30] (fun _ _ _ _ i wr => ∃ (k : Nat) (g : Gr) (vf : Value) (D : FL), k ≤ 21 ∧ i = .int .i64 (k : Int) ∧ Hid (Mo w wr [(zg, 29, grl g vf)] vf D ∧ D.map Prod.fst = g.c.fs ∧ At g k)) (fun _ _ _ _ i _ => 21 - (intOf i).toNat)
  case atStart => exact ⟨0, nwG a, nilS, [], by omega, rfl, hM, rfl, HA0.out⟩
  case round =>
    clear hM
    obtain ⟨k, g, vf, D, hk, rfl, HA⟩ := hrel
    have hM := HA.out.1
    have HD : Hid (D.map Prod.fst = g.c.fs) := HA.out.2.1
    have hAt := HA.out.2.2
    have HWt : Hid (Wt g.c) := hAt.wt
    have HV : Hid (vf.oneCell' = true) := hM.own.one
    clear HA
    by_cases hlt : ¬ k < 21
    · have hn := hAt.done (by omega)
      obtain ⟨hl, h89⟩ := hAt.last hn
      have HL : Hid (nxE g = 12) := hl
      have HTG : Hid (tlG g ⟨#[]⟩ 0 = g) := tl_no hn
      have HER : Hid ((g.st = 9 ∧ g.er ≠ 0) ∨ (g.st ≠ 9 ∧ g.er = 0)) := hAt.er
      clear hl hn hAt
      repeat' (first | (go_big_may; first | (refine v_load rfl rfl row_greeting rfl hM.at0 (Nat.le_refl _) (cut_all rfl) ?_)) | go_values | go_skip | go_guarded | go_step | go_upon | (simp only [Int.not_lt, Int.not_le] at *; go_simp))
      refine (HNx.out g vf _).mono ?_
      rintro e2 u2 ⟨rfl, hb⟩
      rw [HL.out]
      replace hM := hM.call hb
      clear hb
      repeat' (first | (go_big_may; first | (refine v_load rfl rfl row_greeting rfl hM.at0 (Nat.le_refl _) (cut_all rfl) ?_)) | go_values | go_skip | go_guarded | go_step | go_upon | (simp only [Int.not_lt, Int.not_le] at *; go_simp))
      refine (HTl.out g vf D ⟨#[]⟩ 0 _ (hM.own.rc HD.out) HWt.out (Nat.zero_le _)).mono ?_
      rintro e3 u3 ⟨u', L', rfl, ho, hD', hb⟩
      rw [HTG.out] at hD'
      rw [HTG.out, HL.out]
      have HRv : Hid (∀ u, Below u3.heap.size u3 u → Rc u vf g.c D) := fun u hu => ((hM.own.rc HD.out).below hb).below hu
      have HRw : Hid (∀ u, Below u3.heap.size u3 u → Rc u u' g.c L') := fun u hu => (ho.rc hD').below hu
      have HO : Hid (u'.oneCell' = true) := ho.one
      replace hM := hM.call hb
      have hbw := Below.refl u3.heap.size u3
      clear hb ho hD'
      rcases h89 with h89 | h89
      · have HST : Hid (g.st = 8) := h89
        have HEZ : Hid (g.er = 0) := by
          show _ = _
          rcases HER.out with ⟨q, _⟩ | ⟨_, q⟩
          · omega
          · exact q
        clear h89
        repeat' (first | (go_big_may; first | (refine v_alloc rfl zer_greeting rfl ?_; intro u zh hN; have hzh : Hid (u3.heap.size ≤ zh) := (by show _ ≤ _; rw [hN.at']; exact hbw.size); replace hbw := bsq hbw hN.below; replace hM := hM.new hN; clear hN) | (refine v_fill rfl rfl row_greeting rfl rfl hM.at0 (grl_vs _ HO.out) rfl ?_; intro u hv hc; replace hbw := hc.below _ _ hzh.out hbw; replace hM := hM.put0 hc hv; clear hv hc) | (refine v_load rfl rfl row_greeting rfl hM.at0 (Nat.le_refl _) (cut_all rfl) ?_) | (refine v_load rfl rfl row_greeting rfl hM.at1 (Nat.le_refl _) (cut_all rfl) ?_) | (refine v_get rfl rfl lod_int rfl hM.at1 (v := .int .i64 8) (j := 0) (by rw [← HST.out]; rfl) ?_) | (refine v_get rfl rfl lod_err rfl hM.at1 (v := .int .i64 0) (j := 23) (by rw [← HEZ.out]; rfl) ?_)) | go_values | go_skip | go_guarded | go_step | go_upon | (simp only [Int.not_lt, Int.not_le] at *; go_simp))
        refine (HS.out g vf u' D L' _ (HRv.out _ hbw) (HRw.out _ hbw)).mono ?_
        rintro e4 u4 ⟨rfl, hb⟩
        replace hM := hM.call hb
        clear hb hbw
        repeat' (first | (go_big_may; first | (refine v_get rfl rfl lod_int rfl hM.at1 (v := .int .i64 8) (j := 0) (by rw [← HST.out]; rfl) ?_) | (refine v_get rfl rfl lod_err rfl hM.at1 (v := .int .i64 0) (j := 23) (by rw [← HEZ.out]; rfl) ?_)) | go_values | go_skip | go_guarded | go_step | go_upon | (simp only [Int.not_lt, Int.not_le] at *; go_simp))
        go_ret
        exact ⟨rfl, hM.below⟩
      skip
      have HST : Hid (g.st = 9) := h89
      have hez : (g.er != 0) = true := by
        rcases HER.out with ⟨_, q⟩ | ⟨q, _⟩
        · simpa using q
        · omega
      clear h89
      repeat' (first | (go_big_may; first | (refine v_alloc rfl zer_greeting rfl ?_; intro u zh hN; have hzh : Hid (u3.heap.size ≤ zh) := (by show _ ≤ _; rw [hN.at']; exact hbw.size); replace hbw := bsq hbw hN.below; replace hM := hM.new hN; clear hN) | (refine v_fill rfl rfl row_greeting rfl rfl hM.at0 (grl_vs _ HO.out) rfl ?_; intro u hv hc; replace hbw := hc.below _ _ hzh.out hbw; replace hM := hM.put0 hc hv; clear hv hc) | (refine v_load rfl rfl row_greeting rfl hM.at0 (Nat.le_refl _) (cut_all rfl) ?_) | (refine v_load rfl rfl row_greeting rfl hM.at1 (Nat.le_refl _) (cut_all rfl) ?_) | (refine v_get rfl rfl lod_int rfl hM.at1 (v := .int .i64 9) (j := 0) (by rw [← HST.out]; rfl) ?_) | (refine v_get rfl rfl lod_err rfl hM.at1 (v := .int .i64 g.er) (j := 23) rfl ?_)) | go_values | go_skip | go_guarded | go_step | go_upon | (simp only [Int.not_lt, Int.not_le] at *; go_simp))
      refine (HS.out g vf u' D L' _ (HRv.out _ hbw) (HRw.out _ hbw)).mono ?_
      rintro e4 u4 ⟨rfl, hb⟩
      replace hM := hM.call hb
      clear hb hbw
      repeat' (first | (go_big_may; first | (refine v_get rfl rfl lod_int rfl hM.at1 (v := .int .i64 9) (j := 0) (by rw [← HST.out]; rfl) ?_) | (refine v_get rfl rfl lod_err rfl hM.at1 (v := .int .i64 g.er) (j := 23) rfl ?_)) | go_values | go_skip | go_guarded | go_step | go_upon | (simp only [Int.not_lt, Int.not_le] at *; go_simp))
      go_ret
      exact ⟨rfl, hM.below⟩
    have hlt : k < 21 := by omega
    have HAt : Hid (At g k) := hAt
    repeat' (first | (go_big_may; first | (refine v_load rfl rfl row_greeting rfl hM.at0 (Nat.le_refl _) (cut_all rfl) ?_)) | go_values | go_skip | go_guarded | go_step | go_upon | (simp only [Int.not_lt, Int.not_le] at *; go_simp))
    refine (HNx.out g vf _).mono ?_
    rintro e2 u2 ⟨rfl, hb⟩
    replace hM := hM.call hb
    clear hb
    by_cases hn : nxE g = 0
    case neg =>
      have e1 : (nxE g != 0) = true := by simpa using hn
      obtain ⟨hl, h89⟩ := hAt.last hn
      have HL : Hid (nxE g = 12) := hl
      have HTG : Hid (tlG g ⟨#[]⟩ 0 = g) := tl_no hn
      have HER : Hid ((g.st = 9 ∧ g.er ≠ 0) ∨ (g.st ≠ 9 ∧ g.er = 0)) := hAt.er
      clear hl hn hAt
      repeat' (first | (go_big_may; first | (refine v_load rfl rfl row_greeting rfl hM.at0 (Nat.le_refl _) (cut_all rfl) ?_)) | go_values | go_skip | go_guarded | go_step | go_upon | (simp only [Int.not_lt, Int.not_le] at *; go_simp))
      refine (HNx.out g vf _).mono ?_
      rintro e2 u2 ⟨rfl, hb⟩
      rw [HL.out]
      replace hM := hM.call hb
      clear hb
      repeat' (first | (go_big_may; first | (refine v_load rfl rfl row_greeting rfl hM.at0 (Nat.le_refl _) (cut_all rfl) ?_)) | go_values | go_skip | go_guarded | go_step | go_upon | (simp only [Int.not_lt, Int.not_le] at *; go_simp))
      refine (HTl.out g vf D ⟨#[]⟩ 0 _ (hM.own.rc HD.out) HWt.out (Nat.zero_le _)).mono ?_
      rintro e3 u3 ⟨u', L', rfl, ho, hD', hb⟩
      rw [HTG.out] at hD'
      rw [HTG.out, HL.out]
      have HRv : Hid (∀ u, Below u3.heap.size u3 u → Rc u vf g.c D) := fun u hu => ((hM.own.rc HD.out).below hb).below hu
      have HRw : Hid (∀ u, Below u3.heap.size u3 u → Rc u u' g.c L') := fun u hu => (ho.rc hD').below hu
      have HO : Hid (u'.oneCell' = true) := ho.one
      replace hM := hM.call hb
      have hbw := Below.refl u3.heap.size u3
      clear hb ho hD'
      rcases h89 with h89 | h89
      · have HST : Hid (g.st = 8) := h89
        have HEZ : Hid (g.er = 0) := by
          show _ = _
          rcases HER.out with ⟨q, _⟩ | ⟨_, q⟩
          · omega
          · exact q
        clear h89
        repeat' (first | (go_big_may; first | (refine v_alloc rfl zer_greeting rfl ?_; intro u zh hN; have hzh : Hid (u3.heap.size ≤ zh) := (by show _ ≤ _; rw [hN.at']; exact hbw.size); replace hbw := bsq hbw hN.below; replace hM := hM.new hN; clear hN) | (refine v_fill rfl rfl row_greeting rfl rfl hM.at0 (grl_vs _ HO.out) rfl ?_; intro u hv hc; replace hbw := hc.below _ _ hzh.out hbw; replace hM := hM.put0 hc hv; clear hv hc) | (refine v_load rfl rfl row_greeting rfl hM.at0 (Nat.le_refl _) (cut_all rfl) ?_) | (refine v_load rfl rfl row_greeting rfl hM.at1 (Nat.le_refl _) (cut_all rfl) ?_) | (refine v_get rfl rfl lod_int rfl hM.at1 (v := .int .i64 8) (j := 0) (by rw [← HST.out]; rfl) ?_) | (refine v_get rfl rfl lod_err rfl hM.at1 (v := .int .i64 0) (j := 23) (by rw [← HEZ.out]; rfl) ?_)) | go_values | go_skip | go_guarded | go_step | go_upon | (simp only [Int.not_lt, Int.not_le] at *; go_simp))
        refine (HS.out g vf u' D L' _ (HRv.out _ hbw) (HRw.out _ hbw)).mono ?_
        rintro e4 u4 ⟨rfl, hb⟩
        replace hM := hM.call hb
        clear hb hbw
        repeat' (first | (go_big_may; first | (refine v_get rfl rfl lod_int rfl hM.at1 (v := .int .i64 8) (j := 0) (by rw [← HST.out]; rfl) ?_) | (refine v_get rfl rfl lod_err rfl hM.at1 (v := .int .i64 0) (j := 23) (by rw [← HEZ.out]; rfl) ?_)) | go_values | go_skip | go_guarded | go_step | go_upon | (simp only [Int.not_lt, Int.not_le] at *; go_simp))
        go_ret
        exact ⟨rfl, hM.below⟩
      skip
      have HST : Hid (g.st = 9) := h89
      have hez : (g.er != 0) = true := by
        rcases HER.out with ⟨_, q⟩ | ⟨q, _⟩
        · simpa using q
        · omega
      clear h89
      repeat' (first | (go_big_may; first | (refine v_alloc rfl zer_greeting rfl ?_; intro u zh hN; have hzh : Hid (u3.heap.size ≤ zh) := (by show _ ≤ _; rw [hN.at']; exact hbw.size); replace hbw := bsq hbw hN.below; replace hM := hM.new hN; clear hN) | (refine v_fill rfl rfl row_greeting rfl rfl hM.at0 (grl_vs _ HO.out) rfl ?_; intro u hv hc; replace hbw := hc.below _ _ hzh.out hbw; replace hM := hM.put0 hc hv; clear hv hc) | (refine v_load rfl rfl row_greeting rfl hM.at0 (Nat.le_refl _) (cut_all rfl) ?_) | (refine v_load rfl rfl row_greeting rfl hM.at1 (Nat.le_refl _) (cut_all rfl) ?_) | (refine v_get rfl rfl lod_int rfl hM.at1 (v := .int .i64 9) (j := 0) (by rw [← HST.out]; rfl) ?_) | (refine v_get rfl rfl lod_err rfl hM.at1 (v := .int .i64 g.er) (j := 23) rfl ?_)) | go_values | go_skip | go_guarded | go_step | go_upon | (simp only [Int.not_lt, Int.not_le] at *; go_simp))
      refine (HS.out g vf u' D L' _ (HRv.out _ hbw) (HRw.out _ hbw)).mono ?_
      rintro e4 u4 ⟨rfl, hb⟩
      replace hM := hM.call hb
      clear hb hbw
      repeat' (first | (go_big_may; first | (refine v_get rfl rfl lod_int rfl hM.at1 (v := .int .i64 9) (j := 0) (by rw [← HST.out]; rfl) ?_) | (refine v_get rfl rfl lod_err rfl hM.at1 (v := .int .i64 g.er) (j := 23) rfl ?_)) | go_values | go_skip | go_guarded | go_step | go_upon | (simp only [Int.not_lt, Int.not_le] at *; go_simp))
      go_ret
      exact ⟨rfl, hM.below⟩
    have HN0 : Hid (nxE g = 0) := hn
    have e1 : (nxE g != 0) = false := by simpa using hn
    clear hn hAt
    by_cases ht : k < tn
    · by_cases hc : k < cn
      · obtain ⟨q, hq⟩ : ∃ q, T[k]? = some q := ⟨T[k]'(by rw [HTn.out]; exact ht), List.getElem?_eq_getElem _⟩
        obtain ⟨a', c', e', _, _, hcell⟩ := (HT.out _ hM.below).cell
        injection e' with e' e2 e3
        clear e2 e3
        subst e'
        obtain ⟨tg, toff, hta, hcq⟩ := hcell k q hq
        subst hta
        have HSz : Hid ((strOfNums q).size ≤ maxLen) := by show _ ≤ _; rw [str_size]; exact HTz.out q (List.mem_of_getElem? hq)
        clear hcell hq
        obtain ⟨f, hf⟩ : ∃ f, C[k]? = some f := ⟨C[k]'(by rw [HCn.out]; exact hc), List.getElem?_eq_getElem _⟩
        obtain ⟨cg, coff, hca, hcc⟩ := (HC.out _ hM.below).at k f hf
        subst hca
        have cF := hcc _ (Below.refl _ _)
        clear hcc hf
        repeat' (first | (go_big_may; first | (refine v_load rfl rfl row_greeting rfl hM.at0 (Nat.le_refl _) (cut_all rfl) ?_)) | go_values | go_skip | go_guarded | go_step | go_upon | (simp only [Int.not_lt, Int.not_le] at *; go_simp))
        refine (HTl.out g vf D (strOfNums q) f _ (hM.own.rc HD.out) HWt.out HSz.out).mono ?_
        rintro e3 u3 ⟨u', L', rfl, ho, hD', hb⟩
        rw [HN0.out]
        have HO : Hid (u'.oneCell' = true) := ho.one
        have HDD : Hid (L'.map Prod.fst = (tlG g (strOfNums q) f).c.fs) := hD'
        replace hM := hM.take hb ho
        clear hb ho hD'
        repeat' (first | (go_big_may; first | (refine v_fill rfl rfl row_greeting rfl rfl hM.at0 (grl_vs _ HO.out) rfl ?_; intro u hv hc; replace hM := hM.put0 hc hv; clear hv hc)) | go_values | go_skip | go_guarded | go_step | go_upon | (simp only [Int.not_lt, Int.not_le] at *; go_simp))
        go_roundw
        case rel => exact ⟨k + 1, tlG g (strOfNums q) f, u', L', by omega, by go_num, hM, HDD.out, HAt.out.next HN0.out _ _⟩
        case measure => simp [intOf]; omega
      · obtain ⟨q, hq⟩ : ∃ q, T[k]? = some q := ⟨T[k]'(by rw [HTn.out]; exact ht), List.getElem?_eq_getElem _⟩
        obtain ⟨a', c', e', _, _, hcell⟩ := (HT.out _ hM.below).cell
        injection e' with e' e2 e3
        clear e2 e3
        subst e'
        obtain ⟨tg, toff, hta, hcq⟩ := hcell k q hq
        subst hta
        have HSz : Hid ((strOfNums q).size ≤ maxLen) := by show _ ≤ _; rw [str_size]; exact HTz.out q (List.mem_of_getElem? hq)
        clear hcell hq
        repeat' (first | (go_big_may; first | (refine v_load rfl rfl row_greeting rfl hM.at0 (Nat.le_refl _) (cut_all rfl) ?_)) | go_values | go_skip | go_guarded | go_step | go_upon | (simp only [Int.not_lt, Int.not_le] at *; go_simp))
        refine (HTl.out g vf D (strOfNums q) 9 _ (hM.own.rc HD.out) HWt.out HSz.out).mono ?_
        rintro e3 u3 ⟨u', L', rfl, ho, hD', hb⟩
        rw [HN0.out]
        have HO : Hid (u'.oneCell' = true) := ho.one
        have HDD : Hid (L'.map Prod.fst = (tlG g (strOfNums q) 9).c.fs) := hD'
        replace hM := hM.take hb ho
        clear hb ho hD'
        repeat' (first | (go_big_may; first | (refine v_fill rfl rfl row_greeting rfl rfl hM.at0 (grl_vs _ HO.out) rfl ?_; intro u hv hc; replace hM := hM.put0 hc hv; clear hv hc)) | go_values | go_skip | go_guarded | go_step | go_upon | (simp only [Int.not_lt, Int.not_le] at *; go_simp))
        go_roundw
        case rel => exact ⟨k + 1, tlG g (strOfNums q) 9, u', L', by omega, by go_num, hM, HDD.out, HAt.out.next HN0.out _ _⟩
        case measure => simp [intOf]; omega
    · by_cases hc : k < cn
      · obtain ⟨f, hf⟩ : ∃ f, C[k]? = some f := ⟨C[k]'(by rw [HCn.out]; exact hc), List.getElem?_eq_getElem _⟩
        obtain ⟨cg, coff, hca, hcc⟩ := (HC.out _ hM.below).at k f hf
        subst hca
        have cF := hcc _ (Below.refl _ _)
        clear hcc hf
        repeat' (first | (go_big_may; first | (refine v_load rfl rfl row_greeting rfl hM.at0 (Nat.le_refl _) (cut_all rfl) ?_)) | go_values | go_skip | go_guarded | go_step | go_upon | (simp only [Int.not_lt, Int.not_le] at *; go_simp))
        refine (HTl.out g vf D ⟨#[]⟩ f _ (hM.own.rc HD.out) HWt.out (Nat.zero_le _)).mono ?_
        rintro e3 u3 ⟨u', L', rfl, ho, hD', hb⟩
        rw [HN0.out]
        have HO : Hid (u'.oneCell' = true) := ho.one
        have HDD : Hid (L'.map Prod.fst = (tlG g ⟨#[]⟩ f).c.fs) := hD'
        replace hM := hM.take hb ho
        clear hb ho hD'
        repeat' (first | (go_big_may; first | (refine v_fill rfl rfl row_greeting rfl rfl hM.at0 (grl_vs _ HO.out) rfl ?_; intro u hv hc; replace hM := hM.put0 hc hv; clear hv hc)) | go_values | go_skip | go_guarded | go_step | go_upon | (simp only [Int.not_lt, Int.not_le] at *; go_simp))
        go_roundw
        case rel => exact ⟨k + 1, tlG g ⟨#[]⟩ f, u', L', by omega, by go_num, hM, HDD.out, HAt.out.next HN0.out _ _⟩
        case measure => simp [intOf]; omega
      · repeat' (first | (go_big_may; first | (refine v_load rfl rfl row_greeting rfl hM.at0 (Nat.le_refl _) (cut_all rfl) ?_)) | go_values | go_skip | go_guarded | go_step | go_upon | (simp only [Int.not_lt, Int.not_le] at *; go_simp))
        refine (HTl.out g vf D ⟨#[]⟩ 9 _ (hM.own.rc HD.out) HWt.out (Nat.zero_le _)).mono ?_
        rintro e3 u3 ⟨u', L', rfl, ho, hD', hb⟩
        rw [HN0.out]
        have HO : Hid (u'.oneCell' = true) := ho.one
        have HDD : Hid (L'.map Prod.fst = (tlG g ⟨#[]⟩ 9).c.fs) := hD'
        replace hM := hM.take hb ho
        clear hb ho hD'
        repeat' (first | (go_big_may; first | (refine v_fill rfl rfl row_greeting rfl rfl hM.at0 (grl_vs _ HO.out) rfl ?_; intro u hv hc; replace hM := hM.put0 hc hv; clear hv hc)) | go_values | go_skip | go_guarded | go_step | go_upon | (simp only [Int.not_lt, Int.not_le] at *; go_simp))
        go_roundw
        case rel => exact ⟨k + 1, tlG g ⟨#[]⟩ 9, u', L', by omega, by go_num, hM, HDD.out, HAt.out.next HN0.out _ _⟩
        case measure => simp [intOf]; omega
end Go.Proofs.Ytonheibhbilhhaa.greetEnds
