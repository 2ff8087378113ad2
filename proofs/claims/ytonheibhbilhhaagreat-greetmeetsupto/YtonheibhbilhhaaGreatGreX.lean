/- plugref: how a device is met. -/
import Derived.Test.YtonheibhbilhhaaGreatZMb
import Derived.Test.YtonheibhbilhhaaGreatZMc
import Derived.Test.YtonheibhbilhhaaGreatZMd
import Derived.Test.YtonheibhbilhhaaGreatZBj
import Derived.Test.YtonheibhbilhhaaGreatZBo
namespace Go.Proofs.YtonheibhbilhhaaGreat.greet
open Go Go.RowKit Go.PlainAid Go.Proofs.YtonheibhbilhhaaGreat.lane Go.Proofs.YtonheibhbilhhaaGreat.desc Go.Proofs.YtonheibhbilhhaaGreat.gadget
set_option linter.unusedVariables false
set_option linter.unusedSimpArgs false
set_option maxRecDepth 100000
theorem met2_any (f : Int) (w : World) : Calls Tryz.prog 15 #[.int .i64 f] w fun e w' => e = .returned (.bool (!fateB f)) ∧ w = w' := by
 have H : Hid (Calls Tryz.prog 16 #[.int .i64 f] w fun e w' => e = .returned (.bool (fateB f)) ∧ w = w') := refFate_any f w
 cases h : fateB f
 all_goals
  rw [h] at H
  go_enter Tryz.func15, Tryz.ntmps15
  go_wp2_with fail
  refine (H.out).mono ?_
  rintro e u ⟨rfl, rfl⟩
  go_wp2
  go_ret
  exact ⟨rfl, rfl⟩
theorem met1_any (x : Int) (w : World) : Calls Tryz.prog 11 #[.int .i64 x] w fun e w' => e = .returned (.tuple #[grV noGr nilS, ag (gdl 0 0 0), .int .i64 0, .int .i64 x]) ∧ Below w.heap.size w w' := by
 have hM := Mm.nil w
 go_enter Tryz.func11, Tryz.ntmps11
 repeat' (first | (go_big_may; first | (refine v_alloc rfl zer_greeting rfl ?_; intro u za hN; replace hM := hM.new hN; clear hN) | (refine v_alloc rfl zer_gadget rfl ?_; intro u zb hN; replace hM := hM.new hN; clear hN) | (refine v_build rfl rfl bld_gr0 ?hbv ?_; (case hbv => simp [Act.eval, Act.put])) | (refine v_build rfl rfl bld_gd0 ?hbv ?_; (case hbv => simp [Act.eval, Act.put])) | (refine v_fill rfl rfl row_greeting rfl rfl hM.at1 (grl_vs noGr rfl) rfl ?_; intro u hv hc; replace hM := hM.put1 hc hv; clear hv hc) | (refine v_fill rfl rfl row_gadget rfl rfl hM.at0 (gdl_vs 0 0 0) rfl ?_; intro u hv hc; replace hM := hM.put0 hc hv; clear hv hc)) | go_values | go_skip | go_guarded | go_step | go_upon | (simp only [Int.not_lt, Int.not_le] at *; go_simp))
 exact bodyPost_ret (ret_cctt rfl rfl (ld_var row_greeting hM.at1 rfl) rfl (ld_var row_gadget hM.at0 rfl) rfl rfl) rfl ⟨rfl, hM.below⟩
set_option maxHeartbeats 2000000 in
theorem badF_at (v : Value) (l : List Int) (w : World) (hv : Ris w v l) (hl : l.length ≤ 1000) : Calls Tryz.prog 35 #[v, .func (.func 15) #[] #[]] w fun e w' => (∃ r : Int, e = .returned (.int .i64 r) ∧ decide (0 ≤ r) = !l.all fateB) ∧ w = w' := by
 have HR : Hid (Ris w v l) := hv
 obtain ⟨a, c, rfl, hlc, hcm, _⟩ := hv
 obtain ⟨n, hn⟩ : ∃ n, l.length = n := ⟨_, rfl⟩
 have HN : Hid (l.length = n) := hn
 rw [hn] at HR hlc hl ⊢
 have HP : Hid ((l.drop 0).all fateB = l.all fateB) := rfl
 obtain ⟨P, hP⟩ : ∃ P, l.all fateB = P := ⟨_, rfl⟩
 rw [hP] at HP ⊢
 unfold maxLen at hcm
 clear hn hP
 go_enter Tryz.func35, Tryz.ntmps35
 go_wp2
 go_loopw [5, 8] (fun _ i wr => ∃ k : Nat, k ≤ n ∧ i = .int .i64 (k : Int) ∧ w = wr ∧ Hid ((l.drop k).all fateB = P)) (fun _ i _ => n - (intOf i).toNat)
 case atStart => exact ⟨0, Nat.zero_le _, rfl, rfl, HP.out⟩
 case round =>
  clear HP
  obtain ⟨k, hk, rfl, rfl, HA⟩ := hrel
  by_cases hlt : ¬ k < n
  ·have HQ : Hid (P = true) := by
    have := HA.out
    rw [List.drop_eq_nil_of_le (by have := HN.out; omega)] at this
    exact this.symm
   clear HA
   go_wp2
   go_ret
   exact ⟨⟨_, rfl, by rw [HQ.out]; rfl⟩, rfl⟩
  have hlt : k < n := by omega
  have hkl : k < l.length := by have := HN.out; omega
  obtain ⟨y, hy⟩ : ∃ y, l[k]? = some y := ⟨l[k], List.getElem?_eq_getElem hkl⟩
  have hyk : l[k] = y := (List.getElem?_eq_some_iff.1 hy).2
  obtain ⟨g, off, rfl, hcell⟩ := HR.out.at k y hy
  have hcell' := hcell w (Below.refl _ _)
  have HA2 : Hid ((fateB y && (l.drop (k + 1)).all fateB) = P) := by have := HA.out; rw [all_drop hkl, hyk] at this; exact this
  clear HA hy hyk hkl hcell
  go_wp2_with fail
  refine (met2_any y w).mono ?_
  rintro e u ⟨rfl, rfl⟩
  cases hno : fateB y with
  | false =>
   have HQ : Hid (P = false) := by have := HA2.out; rw [hno] at this; exact this.symm
   clear HA2
   go_wp2
   go_ret
   exact ⟨⟨_, rfl, by rw [HQ.out]; exact decide_eq_true (by omega)⟩, rfl⟩
  | true =>
   have HQ : Hid ((l.drop (k + 1)).all fateB = P) := by have := HA2.out; rw [hno] at this; exact this
   clear HA2
   go_wp2
   go_roundw
   case rel => exact ⟨k + 1, by omega, by go_num, trivial, HQ.out⟩
   case measure => simp [intOf]; omega
theorem badF_any (v : Value) (l : List Int) (w : World) (hv : Ris w v l) (hl : l.length ≤ 1000) : Calls Tryz.prog 14 #[v, .func (.func 15) #[] #[]] w fun e w' => e = .returned (.bool (!l.all fateB)) ∧ w = w' := by
 have HI : Hid (Calls Tryz.prog 35 #[v, .func (.func 15) #[] #[]] w fun e w' => (∃ r : Int, e = .returned (.int .i64 r) ∧ decide (0 ≤ r) = !l.all fateB) ∧ w = w') := badF_at v l w hv hl
 obtain ⟨d, hd⟩ : ∃ d, (!l.all fateB) = d := ⟨_, rfl⟩
 rw [hd] at HI ⊢
 clear hv hl hd
 go_enter Tryz.func14, Tryz.ntmps14
 go_wp2_with fail
 refine (HI.out).mono ?_
 rintro e u ⟨⟨r, rfl, hr⟩, rfl⟩
 go_wp2
 go_ret
 rw [← hr]
 exact ⟨by congr, rfl⟩
theorem r_bs {ops : Array Oper} {Q : Exit → Act → World → Prop} {i : Nat} {o : Oper} {K : Act → World → Prop} {a : Act} {W : World} (hi : ops[i]? = some o) (hg : Region.wanted o (yielded ops a.tmps) = true)
  {t e : TypeId} {n : Nat} {ps : Array (Nat × Operand)} (ho : o.op = .buildSlice t n ps) {vs : Array (Nat × Value)} {V : List Value}
  (hb : ∀ w, (Instr.buildSlice t n vs).run Tryz.prog w = .ok (.slice (some ⟨w.heap.size, 0, none⟩) n n) (w.alloc (bx e V))) (hv : ps.map (fun q => (q.1, a.eval q.2)) = vs)
  (h : ∀ u B, New W u B e V → K (a.put o.dst (.slice (some ⟨B, 0, none⟩) n n)) u) : wpOp Tryz.prog ops Q i K a W := by
 subst hv
 refine reg.r_value _ hi hg ?_ (h _ _ (New.alloc W e V))
 unfold execOp
 simp only [ho, Sem.run_bind, hb, Result.andThen_ok, Sem.run_pure]
def ercs : List Value := [.int .i64 0, .int .i64 0, .int .i64 9, .int .i64 9, .int .i64 10, .int .i64 8]
theorem bs_erc (w : World) : (Instr.buildSlice 55 6 #[(0, .int .i64 0), (1, .int .i64 0), (2, .int .i64 9), (3, .int .i64 9), (4, .int .i64 10), (5, .int .i64 8)]).run Tryz.prog w = .ok (.slice (some ⟨w.heap.size, 0, none⟩) 6 6) (w.alloc (bx 31 ercs)) := by kernel_rfl
section
variable (d : Dv) (c : Cf) (T : List (List Int)) (s a h : Int) (q : ByteArray)
theorem try1 : tryV d c T s a h q 1 = ctl d c T s a h q := by simp [tryV]
theorem try2 : tryV d c T s a h q 2 = ⟨s, a, h, ⟨#[]⟩, 9⟩ := by simp [tryV, noT]
theorem try3 : tryV d c T s a h q 3 = ⟨(ctl d c T s a h q).s, (ctl d c T s a h q).a, (ctl d c T s a h q).h, ⟨#[]⟩, 9⟩ := by simp [tryV, noT]
theorem try4 : tryV d c T s a h q 4 = ⟨s, a, h, ⟨#[]⟩, 10⟩ := by simp [tryV, noT]
theorem try5 : tryV d c T s a h q 5 = ⟨s, a, h, ⟨#[]⟩, 8⟩ := by simp [tryV, noT]
theorem stp_of {m : Sm} {f : Int} {X : Ans} (hX : tryV d c T m.s m.a m.h (nxT m.g) f = X) : stpM d c T m f = ⟨tlG m.g X.t X.e, X.s, X.a, X.h, m.n + 1⟩ := by unfold stpM; rw [hX]
end
set_option maxHeartbeats 16000000 in
theorem met_any (hrr : descReads.RrAll) (d : Dv) (c : Cf) (L : FL) (v : Value) (T : List (List Int)) (tv : Value) (x : Int) (vF : Value) (F : List Int) (w : World) (hs : Shr w c L v T tv) (hbig : ∀ t ∈ T, t.length ≤ 17000000000000) (hF : Ris w vF F) :
  Calls Tryz.prog 5 #[ag (shl d c v tv), .int .i64 x, vF] w (MtP d c T x F w) := by
 have HSh : Hid (∀ u, Below w.heap.size w u → Calls Tryz.prog 12 #[ag (shl d c v tv)] u fun e w' => e = .returned (.int .i64 (chkS d c T)) ∧ Below u.heap.size u w') := fun u hu => rsheet_any d c L v T tv u (hs.below hu) hbig
 have HCt : Hid (∀ s a h (g : Gr) u, Below w.heap.size w u → Calls Tryz.prog 18 #[ag (shl d c v tv), ag (gdl s a h), .string (nxT g)] u fun e w' => e = .returned (anV (ctl d c T s a h (nxT g))) ∧ Below u.heap.size u w') := fun s a h g u hu => rcontrol_any d c L v T tv s a h _ u (hs.below hu) (nx_small g) hbig
 have HAk : Hid (∀ (g : Gr) v u, okG g = true → Calls Tryz.prog 17 #[grV g v] u fun e w' => e = .returned (.tuple #[.string (nxT g), .bool (decide (g.st < 8))]) ∧ Below u.heap.size u w') := fun g v u h => rAskAt_any g v u h
 have HTd : Hid (∀ (g : Gr) uv D s e u, Rc u uv g.c D → s.size ≤ maxLen → Calls Tryz.prog 19 #[grV g uv, .string s, .int .i64 e] u (TrP g uv s e u)) := fun g uv D s e u hc hm => told_any hrr g uv D s e u hc hm
 have HBt : Hid (∀ u, Calls Tryz.prog 13 #[.int .i64 x, .int .i64 1, .int .i64 127] u fun e w' => e = .returned (.bool (adB x)) ∧ u = w') := fun u => by
  have := between_any x 1 127 u
  exact this
 have HFt : Hid (F.length ≤ 1000 → ∀ u, Below w.heap.size w u → Calls Tryz.prog 14 #[vF, .func (.func 15) #[] #[]] u fun e w' => e = .returned (.bool (!F.all fateB)) ∧ u = w') := fun hl u hu => badF_any vF F u (hF.below hu) hl
 have HSm : Hid (∀ s a h (g : Gr), (ctl d c T s a h (nxT g)).t.size ≤ maxLen) := fun s a h g => ctl_small ..
 have HRF : Hid (∀ u, Below w.heap.size w u → Ris u vF F) := fun u hu => hF.below hu
 obtain ⟨fa, fc, hvf, hfc1, hfc2, _⟩ := hF
 have hM := Mo.nil w
 clear hs hrr hbig
 subst hvf
 unfold maxLen at hfc2
 obtain ⟨n, hn⟩ : ∃ n, F.length = n := ⟨_, rfl⟩
 have HN : Hid (F.length = n) := hn
 rw [hn] at HFt HRF hfc1 ⊢
 by_cases h1 : chkS d c T = 0
 case neg =>
  have HE : Hid (begE d c T x F = chkS d c T) := by show _ = _; unfold begE; rw [if_pos h1]
  have HZ : Hid (¬ chkS d c T = 0) := h1
  have HM : Hid (metM d c T x F = ⟨noGr, 0, 0, 0, 0⟩) := by show _ = _; unfold metM; rw [if_pos (by rw [HE.out]; exact HZ.out)]
  unfold MtP
  rw [HM.out, HE.out]
  have e1 : (chkS d c T != 0) = true := by simpa using h1
  clear h1 hn HCt HAk HTd HBt HFt HSm HRF
  clear HM HE HZ
  generalize chkS d c T = z at *
  go_enter Tryz.func5, Tryz.ntmps5
  repeat' (first | (go_big_may; first | (refine v_box rfl rfl rfl ?_; intro u zs hN; replace hM := hM.new hN; clear hN) | (refine v_alloc rfl zer_greeting rfl ?_; intro u za hN; replace hM := hM.new hN; clear hN) | (refine v_alloc rfl zer_gadget rfl ?_; intro u zb hN; replace hM := hM.new hN; clear hN) | (refine v_load rfl rfl row_sheet rfl hM.at2 (Nat.le_refl _) (cut_all rfl) ?_)) | go_values | go_skip | go_guarded | go_step | go_upon | (simp only [Int.not_lt, Int.not_le] at *; go_simp))
  refine (HSh.out _ hM.below).mono ?_
  rintro e u1 ⟨rfl, hb⟩
  replace hM := hM.call hb
  clear hb
  repeat' (first | go_values | go_skip | go_guarded | go_step | go_upon | (simp only [Int.not_lt, Int.not_le] at *; go_simp))
  refine (met1_any _ _).mono ?_
  rintro e u2 ⟨rfl, hb⟩
  replace hM := hM.call hb
  clear hb
  repeat' (first | (go_big_may; first | (refine v_fill rfl rfl row_greeting rfl rfl hM.at1 (grl_vs noGr rfl) rfl ?_; intro u hv hc; replace hM := hM.put1 hc hv; clear hv hc) | (refine v_fill rfl rfl row_gadget rfl rfl hM.at0 (gdl_vs 0 0 0) rfl ?_; intro u hv hc; replace hM := hM.put0 hc hv; clear hv hc)) | go_values | go_skip | go_guarded | go_step | go_upon | (simp only [Int.not_lt, Int.not_le] at *; go_simp))
  exact bodyPost_ret (ret_cctt rfl rfl (ld_var row_greeting hM.at1 rfl) rfl (ld_var row_gadget hM.at0 rfl) rfl rfl) rfl ⟨nilS, [], rfl, hM.own, rfl, hM.below⟩
 rw [h1] at HSh
 cases h2 : adB x
 case false =>
  have HE : Hid (begE d c T x F = 1) := by show _ = _; unfold begE; rw [if_neg (fun q => q h1), if_pos h2]
  have HZ : Hid (¬ (1 : Int) = 0) := by show ¬ _; decide
  have HM : Hid (metM d c T x F = ⟨noGr, 0, 0, 0, 0⟩) := by show _ = _; unfold metM; rw [if_pos (by rw [HE.out]; exact HZ.out)]
  unfold MtP
  rw [HM.out, HE.out]
  rw [h2] at HBt
  clear h1 hn HCt HAk HTd HFt HSm HRF HM HE HZ
  go_enter Tryz.func5, Tryz.ntmps5
  repeat' (first | (go_big_may; first | (refine v_box rfl rfl rfl ?_; intro u zs hN; replace hM := hM.new hN; clear hN) | (refine v_alloc rfl zer_greeting rfl ?_; intro u za hN; replace hM := hM.new hN; clear hN) | (refine v_alloc rfl zer_gadget rfl ?_; intro u zb hN; replace hM := hM.new hN; clear hN) | (refine v_load rfl rfl row_sheet rfl hM.at2 (Nat.le_refl _) (cut_all rfl) ?_)) | go_values | go_skip | go_guarded | go_step | go_upon | (simp only [Int.not_lt, Int.not_le] at *; go_simp))
  refine (HSh.out _ hM.below).mono ?_
  rintro e u1 ⟨rfl, hb⟩
  replace hM := hM.call hb
  clear hb
  repeat' (first | go_values | go_skip | go_guarded | go_step | go_upon | (simp only [Int.not_lt, Int.not_le] at *; go_simp))
  refine (HBt.out _).mono ?_
  rintro e u1 ⟨rfl, rfl⟩
  repeat' (first | go_values | go_skip | go_guarded | go_step | go_upon | (simp only [Int.not_lt, Int.not_le] at *; go_simp))
  refine (met1_any _ _).mono ?_
  rintro e u2 ⟨rfl, hb⟩
  replace hM := hM.call hb
  clear hb
  repeat' (first | (go_big_may; first | (refine v_fill rfl rfl row_greeting rfl rfl hM.at1 (grl_vs noGr rfl) rfl ?_; intro u hv hc; replace hM := hM.put1 hc hv; clear hv hc) | (refine v_fill rfl rfl row_gadget rfl rfl hM.at0 (gdl_vs 0 0 0) rfl ?_; intro u hv hc; replace hM := hM.put0 hc hv; clear hv hc)) | go_values | go_skip | go_guarded | go_step | go_upon | (simp only [Int.not_lt, Int.not_le] at *; go_simp))
  exact bodyPost_ret (ret_cctt rfl rfl (ld_var row_greeting hM.at1 rfl) rfl (ld_var row_gadget hM.at0 rfl) rfl rfl) rfl ⟨nilS, [], rfl, hM.own, rfl, hM.below⟩
 rw [h2] at HBt
 by_cases h3 : 1000 < n
 ·have HE : Hid (begE d c T x F = 2) := by show _ = _; unfold begE ckF; rw [if_neg (fun q => q h1), if_neg (by rw [h2]; decide), if_pos (by omega)]
  have HZ : Hid (¬ (2 : Int) = 0) := by show ¬ _; decide
  have HM : Hid (metM d c T x F = ⟨noGr, 0, 0, 0, 0⟩) := by show _ = _; unfold metM; rw [if_pos (by rw [HE.out]; exact HZ.out)]
  unfold MtP
  rw [HM.out, HE.out]
  clear h1 h2 hn HCt HAk HTd HFt HSm HRF HM HE HZ
  go_enter Tryz.func5, Tryz.ntmps5
  repeat' (first | (go_big_may; first | (refine v_box rfl rfl rfl ?_; intro u zs hN; replace hM := hM.new hN; clear hN) | (refine v_alloc rfl zer_greeting rfl ?_; intro u za hN; replace hM := hM.new hN; clear hN) | (refine v_alloc rfl zer_gadget rfl ?_; intro u zb hN; replace hM := hM.new hN; clear hN) | (refine v_load rfl rfl row_sheet rfl hM.at2 (Nat.le_refl _) (cut_all rfl) ?_)) | go_values | go_skip | go_guarded | go_step | go_upon | (simp only [Int.not_lt, Int.not_le] at *; go_simp))
  refine (HSh.out _ hM.below).mono ?_
  rintro e u1 ⟨rfl, hb⟩
  replace hM := hM.call hb
  clear hb
  repeat' (first | go_values | go_skip | go_guarded | go_step | go_upon | (simp only [Int.not_lt, Int.not_le] at *; go_simp))
  refine (HBt.out _).mono ?_
  rintro e u1 ⟨rfl, rfl⟩
  repeat' (first | go_values | go_skip | go_guarded | go_step | go_upon | (simp only [Int.not_lt, Int.not_le] at *; go_simp))
  refine (met1_any _ _).mono ?_
  rintro e u2 ⟨rfl, hb⟩
  replace hM := hM.call hb
  clear hb
  repeat' (first | (go_big_may; first | (refine v_fill rfl rfl row_greeting rfl rfl hM.at1 (grl_vs noGr rfl) rfl ?_; intro u hv hc; replace hM := hM.put1 hc hv; clear hv hc) | (refine v_fill rfl rfl row_gadget rfl rfl hM.at0 (gdl_vs 0 0 0) rfl ?_; intro u hv hc; replace hM := hM.put0 hc hv; clear hv hc)) | go_values | go_skip | go_guarded | go_step | go_upon | (simp only [Int.not_lt, Int.not_le] at *; go_simp))
  exact bodyPost_ret (ret_cctt rfl rfl (ld_var row_greeting hM.at1 rfl) rfl (ld_var row_gadget hM.at0 rfl) rfl rfl) rfl ⟨nilS, [], rfl, hM.own, rfl, hM.below⟩
 have hnb : n ≤ 1000 := by omega
 have HFT := HFt.out (by have := HN.out; omega)
 clear HFt h3
 have HFt : Hid (∀ u, Below w.heap.size w u → Calls Tryz.prog 14 #[.slice fa n fc, .func (.func 15) #[] #[]] u fun e w' => e = .returned (.bool (!F.all fateB)) ∧ u = w') := HFT
 clear HFT
 cases h4 : F.all fateB
 case false =>
  have HE : Hid (begE d c T x F = 1) := by show _ = _; unfold begE ckF; rw [if_neg (fun q => q h1), if_neg (by rw [h2]; decide), if_neg (by omega), if_pos h4]
  have HZ : Hid (¬ (1 : Int) = 0) := by show ¬ _; decide
  have HM : Hid (metM d c T x F = ⟨noGr, 0, 0, 0, 0⟩) := by show _ = _; unfold metM; rw [if_pos (by rw [HE.out]; exact HZ.out)]
  unfold MtP
  rw [HM.out, HE.out]
  rw [h4] at HFt
  simp only [Bool.not_false] at HFt
  clear h1 h2 h4 hn HCt HAk HTd HSm HRF HM HE HZ
  go_enter Tryz.func5, Tryz.ntmps5
  repeat' (first | (go_big_may; first | (refine v_box rfl rfl rfl ?_; intro u zs hN; replace hM := hM.new hN; clear hN) | (refine v_alloc rfl zer_greeting rfl ?_; intro u za hN; replace hM := hM.new hN; clear hN) | (refine v_alloc rfl zer_gadget rfl ?_; intro u zb hN; replace hM := hM.new hN; clear hN) | (refine v_load rfl rfl row_sheet rfl hM.at2 (Nat.le_refl _) (cut_all rfl) ?_)) | go_values | go_skip | go_guarded | go_step | go_upon | (simp only [Int.not_lt, Int.not_le] at *; go_simp))
  refine (HSh.out _ hM.below).mono ?_
  rintro e u1 ⟨rfl, hb⟩
  replace hM := hM.call hb
  clear hb
  repeat' (first | go_values | go_skip | go_guarded | go_step | go_upon | (simp only [Int.not_lt, Int.not_le] at *; go_simp))
  refine (HBt.out _).mono ?_
  rintro e u1 ⟨rfl, rfl⟩
  repeat' (first | go_values | go_skip | go_guarded | go_step | go_upon | (simp only [Int.not_lt, Int.not_le] at *; go_simp))
  refine (HFt.out _ hM.below).mono ?_
  rintro e u1 ⟨rfl, rfl⟩
  repeat' (first | go_values | go_skip | go_guarded | go_step | go_upon | (simp only [Int.not_lt, Int.not_le] at *; go_simp))
  refine (met1_any _ _).mono ?_
  rintro e u2 ⟨rfl, hb⟩
  replace hM := hM.call hb
  clear hb
  repeat' (first | (go_big_may; first | (refine v_fill rfl rfl row_greeting rfl rfl hM.at1 (grl_vs noGr rfl) rfl ?_; intro u hv hc; replace hM := hM.put1 hc hv; clear hv hc) | (refine v_fill rfl rfl row_gadget rfl rfl hM.at0 (gdl_vs 0 0 0) rfl ?_; intro u hv hc; replace hM := hM.put0 hc hv; clear hv hc)) | go_values | go_skip | go_guarded | go_step | go_upon | (simp only [Int.not_lt, Int.not_le] at *; go_simp))
  exact bodyPost_ret (ret_cctt rfl rfl (ld_var row_greeting hM.at1 rfl) rfl (ld_var row_gadget hM.at0 rfl) rfl rfl) rfl ⟨nilS, [], rfl, hM.own, rfl, hM.below⟩
 rw [h4] at HFt
 simp only [Bool.not_true] at HFt
 have HE : begE d c T x F = 0 := by unfold begE ckF; rw [if_neg (fun q => q h1), if_neg (by rw [h2]; decide), if_neg (by omega), if_neg (by rw [h4]; decide)]
 have HM : Hid (metM d c T x F = runM d c T F ⟨nwG x, 0, 0, 0, 0⟩) := by show _ = _; unfold metM; rw [if_neg (fun q => q HE)]
 unfold MtP
 rw [HM.out, HE]
 have HAll : Hid (∀ f ∈ F, fateB f = true) := fun f hf => List.all_eq_true.1 h4 f hf
 have hM0 : Mt d c T F ⟨nwG x, 0, 0, 0, 0⟩ ⟨nwG x, 0, 0, 0, 0⟩ 0 [] := ⟨rfl, ⟨Nat.zero_le _, fun f hf => by cases hf⟩, ok_new h2, rfl, rfl⟩
 obtain ⟨m0, hm0⟩ : ∃ m0 : Sm, (⟨nwG x, 0, 0, 0, 0⟩ : Sm) = m0 := ⟨_, rfl⟩
 have HM0 : Hid (Mt d c T F m0 ⟨nwG x, 0, 0, 0, 0⟩ 0 []) := by rw [← hm0]; exact hM0
 rw [hm0]
 obtain ⟨MM, hMM⟩ : ∃ MM, runM d c T F m0 = MM := ⟨_, rfl⟩
 have HMM : Hid (runM d c T F m0 = MM) := hMM
 rw [hMM]
 clear HM h1 h2 h4 hn hM0 hm0 hMM HE
 go_enter Tryz.func5, Tryz.ntmps5
 repeat' (first | (go_big_may; first | (refine v_box rfl rfl rfl ?_; intro u zs hN; replace hM := hM.new hN; clear hN) | (refine v_alloc rfl zer_greeting rfl ?_; intro u za hN; replace hM := hM.new hN; clear hN) | (refine v_alloc rfl zer_gadget rfl ?_; intro u zb hN; replace hM := hM.new hN; clear hN) | (refine v_load rfl rfl row_sheet rfl hM.at2 (Nat.le_refl _) (cut_all rfl) ?_)) | go_values | go_skip | go_guarded | go_step | go_upon | (simp only [Int.not_lt, Int.not_le] at *; go_simp))
 refine (HSh.out _ hM.below).mono ?_
 rintro e u1 ⟨rfl, hb⟩
 replace hM := hM.call hb
 clear hb
 repeat' (first | go_values | go_skip | go_guarded | go_step | go_upon | (simp only [Int.not_lt, Int.not_le] at *; go_simp))
 refine (HBt.out _).mono ?_
 rintro e u1 ⟨rfl, rfl⟩
 repeat' (first | go_values | go_skip | go_guarded | go_step | go_upon | (simp only [Int.not_lt, Int.not_le] at *; go_simp))
 refine (HFt.out _ hM.below).mono ?_
 rintro e u1 ⟨rfl, rfl⟩
 repeat' (first | (go_big_may; first | (refine v_build rfl rfl (bld_grn x) ?hbv ?_; (case hbv => simp [Act.eval, Act.put])) | (refine v_build rfl rfl bld_gd0 ?hbv ?_; (case hbv => simp [Act.eval, Act.put])) | (refine v_alloc rfl zer_greeting rfl ?_; intro u zc hN; replace hM := hM.new hN; clear hN) | (refine v_alloc rfl zer_gadget rfl ?_; intro u zd hN; replace hM := hM.new hN; clear hN) | (refine v_fill rfl rfl row_greeting rfl rfl hM.at1 (grl_vs _ rfl) rfl ?_; intro u hv hc; replace hM := hM.put1 hc hv; clear hv hc) | (refine v_fill rfl rfl row_gadget rfl rfl hM.at0 (gdl_vs 0 0 0) rfl ?_; intro u hv hc; replace hM := hM.put0 hc hv; clear hv hc)) | go_values | go_skip | go_guarded | go_step | go_upon | (simp only [Int.not_lt, Int.not_le] at *; go_simp))
 clear HSh HBt HFt
 go_loopw [14, 15, 16, 17, 18, 19, 20] (fun i _ _ _ _ _ _ wr => ∃ (k : Nat) (m : Sm) (vf : Value) (D : FL), k ≤ n ∧ i = .int .i64 (k : Int) ∧ Hid (Mo w wr [(zd, 35, gdl m.s m.a m.h), (zc, 33, grl m.g vf), (zb, 35, gdl 0 0 0), (za, 33, grl noGr nilS), (zs, 29, shl d c v tv)] vf D ∧ Mt d c T F m0 m k D)) (fun i _ _ _ _ _ _ _ => n - (intOf i).toNat)
 case atStart => exact ⟨0, _, nilS, [], Nat.zero_le _, rfl, hM, HM0.out⟩
 case round =>
  clear hM
  obtain ⟨k, m, vf, D, hk, rfl, HA⟩ := hrel
  have hM := HA.out.1
  have HMt : Hid (Mt d c T F m0 m k D) := HA.out.2
  have HV : Hid (vf.oneCell' = true) := hM.own.one
  have HG : Hid (Vs (grl m.g vf) 24) := grl_vs _ HV.out
  have HD : Hid (Vs (gdl m.s m.a m.h) 3) := gdl_vs _ _ _
  have HL : Hid (0 + 24 ≤ (grl m.g vf).length) := Nat.le_refl _
  have HC : Hid (cut (grl m.g vf) 0 24 = grl m.g vf) := cut_all rfl
  have HL3 : Hid (0 + 3 ≤ (gdl m.s m.a m.h).length) := Nat.le_refl _
  have HC3 : Hid (cut (gdl m.s m.a m.h) 0 3 = gdl m.s m.a m.h) := cut_all rfl
  have HOk : Hid (okG m.g = true) := HMt.out.ok
  clear HA
  have HK : Hid (m.n = k) := HMt.out.n
  by_cases hn : nxE m.g = 0
  case neg =>
   have h8 : decide (m.g.st < 8) = false := by
    rw [decide_eq_false_iff_not]
    intro q
    exact hn (nx_ok.2 ⟨HOk.out, by omega⟩)
   have HR : Hid (MM = m) := by
    by_cases hlt : k < n
    ·exact HMM.out.symm.trans (HMt.out.stop (List.getElem?_eq_getElem (by rw [HN.out]; exact hlt)) hn)
    ·exact HMM.out.symm.trans (HMt.out.end (by rw [HN.out]; omega))
   clear hn
   repeat' (first | (go_big_may; first | (refine v_get rfl rfl (by first | exact lod_int | exact lod_str | exact lod_fcs | exact lod_err) rfl hM.at1 rfl ?_)) | go_values | go_skip | go_guarded | go_step | go_upon | (simp only [Int.not_lt, Int.not_le] at *; go_simp))
   go_upto_region 22 with (fail)
   refine reg.wp_abs (fun a0 => a0.tmps.size = 112 ∧ (∀ h, a0.tmps[6]'h = .pointer (some ⟨za, 0, none⟩)) ∧ (∀ h, a0.tmps[7]'h = .pointer (some ⟨zb, 0, none⟩)) ∧ (∀ h, a0.tmps[12]'h = .pointer (some ⟨zc, 0, none⟩)) ∧ (∀ h, a0.tmps[13]'h = .pointer (some ⟨zd, 0, none⟩)) ∧ (∀ h, a0.tmps[14]'h = .int .i64 (k : Int))) ⟨rfl, fun _ => rfl, fun _ => rfl, fun _ => rfl, fun _ => rfl, fun _ => rfl⟩ ?_
   rintro a0 ⟨hsz, s6, s7, s12, s13, s14⟩ ha0
   refine reg.wp_region_E (S := fun W => Ls W [(zd, 35, (gdl m.s m.a m.h)), (zc, 33, (grl m.g vf))]) (E := fun _ => false) (by kernel_rfl) ?_
   replace hM := hM.drew
   refine reg.e_take (i := 0) (ag ((grl m.g vf))) rfl (by kernel_rfl) (by kernel_rfl) (by kernel_rfl) (by kernel_rfl) (fun _ _ _ h => h) (reg.wanted_none rfl) (hM.ls (by simp)) (fun W hW => ex_load rfl row_greeting (by simp [go_sem, Act.put, hsz, s6, s7, s12, s13, s14]) hW.at1 HL.out HC.out) ?_
   refine reg.e_take (i := 1) (ag ((gdl m.s m.a m.h))) rfl (by kernel_rfl) (by kernel_rfl) (by kernel_rfl) (by kernel_rfl) (fun _ _ _ h => h) (reg.wanted_none rfl) (hM.ls (by simp)) (fun W hW => ex_load rfl row_gadget (by simp [go_sem, Act.put, hsz, s6, s7, s12, s13, s14]) hW.at0 HL3.out HC3.out) ?_
   refine reg.e_take (i := 2) (.int .i64 (k : Int)) rfl (by kernel_rfl) (by kernel_rfl) (by kernel_rfl) (by kernel_rfl) (fun _ _ _ h => h) (reg.wanted_none rfl) (hM.ls (by simp)) (fun W hW => by simp [execOp, go_sem, Act.put, hsz, s6, s7, s12, s13, s14]) ?_
   refine reg.e_one 3 (by kernel_rfl) rfl ?_
   refine r_fill (i := 3) rfl (reg.wanted_none rfl) rfl row_greeting (by simp [go_sem, Act.put, hsz, s6, s7, s12, s13, s14]) (by simp [go_sem, Act.put, hsz, s6, s7, s12, s13, s14]) hM.at3 HG.out rfl ?_
   intro ru1 rhv rhc
   replace hM := hM.put3 rhc rhv
   clear rhc rhv
   refine ⟨hM.ls (by simp), ?_⟩
   refine reg.e_one 4 (by kernel_rfl) rfl ?_
   refine r_fill (i := 4) rfl (reg.wanted_none rfl) rfl row_gadget (by simp [go_sem, Act.put, hsz, s6, s7, s12, s13, s14]) (by simp [go_sem, Act.put, hsz, s6, s7, s12, s13, s14]) hM.at2 HD.out rfl ?_
   intro ru2 rhv rhc
   replace hM := hM.put2 rhc rhv
   clear rhc rhv
   refine ⟨hM.ls (by simp), ?_⟩
   refine reg.e_take (i := 5) (.int .i64 (k : Int)) rfl (by kernel_rfl) (by kernel_rfl) (by kernel_rfl) (by kernel_rfl) (fun _ _ _ h => h) (reg.wanted_none rfl) (hM.ls (by simp)) (fun W hW => by simp [execOp, go_sem, Act.put, hsz, s6, s7, s12, s13, s14]) ?_
   refine reg.e_take (i := 6) (.int .i64 0) rfl (by kernel_rfl) (by kernel_rfl) (by kernel_rfl) (by kernel_rfl) (fun _ _ _ h => h) (reg.wanted_none rfl) (hM.ls (by simp)) (fun W hW => by simp [execOp, go_sem, Act.put, hsz, s6, s7, s12, s13, s14]) ?_
   refine reg.e_done (by kernel_rfl) ?_ _
   subst ha0
   clear hsz s6 s7 s12 s13 s14
   go_simp
   repeat' (first | go_values | go_skip | go_guarded | go_step | go_upon | (simp only [Int.not_lt, Int.not_le] at *; go_simp))
   exact bodyPost_ret (ret_cctt rfl rfl (ld_var row_greeting hM.at3 HG.out.len) rfl (ld_var row_gadget hM.at2 HD.out.len) rfl rfl) rfl ⟨vf, D, by rw [HR.out, ← HK.out]; rfl, hM.own, by rw [HR.out]; exact HMt.out.fs, hM.below⟩
  have HX : Hid (nxE m.g = 0) := hn
  have h8 : decide (m.g.st < 8) = true := by
   rw [decide_eq_true_eq]
   have := (nx_ok.1 hn).2
   omega
  clear hn
  by_cases hlt : ¬ k < n
  ·have HR : Hid (MM = m) := HMM.out.symm.trans (HMt.out.end (by rw [HN.out]; omega))
   repeat' (first | (go_big_may; first | (refine v_get rfl rfl (by first | exact lod_int | exact lod_str | exact lod_fcs | exact lod_err) rfl hM.at1 rfl ?_)) | go_values | go_skip | go_guarded | go_step | go_upon | (simp only [Int.not_lt, Int.not_le] at *; go_simp))
   go_upto_region 22 with (fail)
   refine reg.wp_abs (fun a0 => a0.tmps.size = 112 ∧ (∀ h, a0.tmps[6]'h = .pointer (some ⟨za, 0, none⟩)) ∧ (∀ h, a0.tmps[7]'h = .pointer (some ⟨zb, 0, none⟩)) ∧ (∀ h, a0.tmps[12]'h = .pointer (some ⟨zc, 0, none⟩)) ∧ (∀ h, a0.tmps[13]'h = .pointer (some ⟨zd, 0, none⟩)) ∧ (∀ h, a0.tmps[14]'h = .int .i64 (k : Int))) ⟨rfl, fun _ => rfl, fun _ => rfl, fun _ => rfl, fun _ => rfl, fun _ => rfl⟩ ?_
   rintro a0 ⟨hsz, s6, s7, s12, s13, s14⟩ ha0
   refine reg.wp_region_E (S := fun W => Ls W [(zd, 35, (gdl m.s m.a m.h)), (zc, 33, (grl m.g vf))]) (E := fun _ => false) (by kernel_rfl) ?_
   replace hM := hM.drew
   refine reg.e_take (i := 0) (ag ((grl m.g vf))) rfl (by kernel_rfl) (by kernel_rfl) (by kernel_rfl) (by kernel_rfl) (fun _ _ _ h => h) (reg.wanted_none rfl) (hM.ls (by simp)) (fun W hW => ex_load rfl row_greeting (by simp [go_sem, Act.put, hsz, s6, s7, s12, s13, s14]) hW.at1 HL.out HC.out) ?_
   refine reg.e_take (i := 1) (ag ((gdl m.s m.a m.h))) rfl (by kernel_rfl) (by kernel_rfl) (by kernel_rfl) (by kernel_rfl) (fun _ _ _ h => h) (reg.wanted_none rfl) (hM.ls (by simp)) (fun W hW => ex_load rfl row_gadget (by simp [go_sem, Act.put, hsz, s6, s7, s12, s13, s14]) hW.at0 HL3.out HC3.out) ?_
   refine reg.e_take (i := 2) (.int .i64 (k : Int)) rfl (by kernel_rfl) (by kernel_rfl) (by kernel_rfl) (by kernel_rfl) (fun _ _ _ h => h) (reg.wanted_none rfl) (hM.ls (by simp)) (fun W hW => by simp [execOp, go_sem, Act.put, hsz, s6, s7, s12, s13, s14]) ?_
   refine reg.e_one 3 (by kernel_rfl) rfl ?_
   refine r_fill (i := 3) rfl (reg.wanted_none rfl) rfl row_greeting (by simp [go_sem, Act.put, hsz, s6, s7, s12, s13, s14]) (by simp [go_sem, Act.put, hsz, s6, s7, s12, s13, s14]) hM.at3 HG.out rfl ?_
   intro ru1 rhv rhc
   replace hM := hM.put3 rhc rhv
   clear rhc rhv
   refine ⟨hM.ls (by simp), ?_⟩
   refine reg.e_one 4 (by kernel_rfl) rfl ?_
   refine r_fill (i := 4) rfl (reg.wanted_none rfl) rfl row_gadget (by simp [go_sem, Act.put, hsz, s6, s7, s12, s13, s14]) (by simp [go_sem, Act.put, hsz, s6, s7, s12, s13, s14]) hM.at2 HD.out rfl ?_
   intro ru2 rhv rhc
   replace hM := hM.put2 rhc rhv
   clear rhc rhv
   refine ⟨hM.ls (by simp), ?_⟩
   refine reg.e_take (i := 5) (.int .i64 (k : Int)) rfl (by kernel_rfl) (by kernel_rfl) (by kernel_rfl) (by kernel_rfl) (fun _ _ _ h => h) (reg.wanted_none rfl) (hM.ls (by simp)) (fun W hW => by simp [execOp, go_sem, Act.put, hsz, s6, s7, s12, s13, s14]) ?_
   refine reg.e_take (i := 6) (.int .i64 0) rfl (by kernel_rfl) (by kernel_rfl) (by kernel_rfl) (by kernel_rfl) (fun _ _ _ h => h) (reg.wanted_none rfl) (hM.ls (by simp)) (fun W hW => by simp [execOp, go_sem, Act.put, hsz, s6, s7, s12, s13, s14]) ?_
   refine reg.e_done (by kernel_rfl) ?_ _
   subst ha0
   clear hsz s6 s7 s12 s13 s14
   go_simp
   repeat' (first | go_values | go_skip | go_guarded | go_step | go_upon | (simp only [Int.not_lt, Int.not_le] at *; go_simp))
   exact bodyPost_ret (ret_cctt rfl rfl (ld_var row_greeting hM.at3 HG.out.len) rfl (ld_var row_gadget hM.at2 HD.out.len) rfl rfl) rfl ⟨vf, D, by rw [HR.out, ← HK.out]; rfl, hM.own, by rw [HR.out]; exact HMt.out.fs, hM.below⟩
  have hlt : k < n := by omega
  obtain ⟨f, hf⟩ : ∃ f, F[k]? = some f := ⟨F[k]'(by rw [HN.out]; exact hlt), List.getElem?_eq_getElem _⟩
  obtain ⟨fg, off, hfa, hcell⟩ := (HRF.out w (Below.refl _ _)).at k f hf
  subst hfa
  have cF := hcell wr hM.below
  have HF : Hid (F[k]? = some f) := hf
  have hff : 1 ≤ f ∧ f ≤ 5 := (fate_iff f).1 (HAll.out f (List.mem_of_getElem? hf))
  clear hcell hf
  repeat' (first | (go_big_may; first | (refine v_get rfl rfl (by first | exact lod_int | exact lod_str | exact lod_fcs | exact lod_err) rfl hM.at1 rfl ?_) | (refine v_load rfl rfl row_greeting rfl hM.at1 (Nat.le_refl _) (cut_all rfl) ?_)) | go_values | go_skip | go_guarded | go_step | go_upon | (simp only [Int.not_lt, Int.not_le] at *; go_simp))
  refine (HAk.out _ _ _ HOk.out).mono ?_
  rintro e u2 ⟨rfl, hb⟩
  replace hM := hM.call hb
  clear hb cF
  repeat' (first | (go_big_may; first | (refine v_load rfl rfl row_sheet rfl hM.at4 (Nat.le_refl _) (cut_all rfl) ?_) | (refine v_load rfl rfl row_gadget rfl hM.at0 (Nat.le_refl _) (cut_all rfl) ?_)) | go_values | go_skip | go_guarded | go_step | go_upon | (simp only [Int.not_lt, Int.not_le] at *; go_simp))
  refine (HCt.out m.s m.a m.h m.g _ hM.below).mono ?_
  rintro e u3 ⟨rfl, hb⟩
  replace hM := hM.call hb
  clear hb
  have hf5 : f = 1 ∨ f = 2 ∨ f = 3 ∨ f = 4 ∨ f = 5 := by omega
  clear hff
  obtain ⟨X, hX⟩ : ∃ X, ctl d c T m.s m.a m.h (nxT m.g) = X := ⟨_, rfl⟩
  have HXX : Hid (ctl d c T m.s m.a m.h (nxT m.g) = X) := hX
  have HXs : Hid (X.t.size ≤ maxLen) := by show _ ≤ _; rw [← hX]; exact HSm.out ..
  rw [hX]
  clear hX
  rcases hf5 with rfl | rfl | rfl | rfl | rfl
  ·have HSt : Hid (stpM d c T m 1 = ⟨tlG m.g X.t X.e, X.s, X.a, X.h, m.n + 1⟩) := stp_of d c T (X := X) (by rw [try1, HXX.out])
   repeat' (first | (go_big_may; first | (refine v_alloc rfl zer_gadget rfl ?_; intro u zn hN; replace hM := hM.new hN; clear hN) | (refine v_fill rfl rfl row_gadget rfl rfl hM.at0 (gdl_vs _ _ _) rfl ?_; intro u hv hc; replace hM := hM.put0 hc hv; clear hv hc) | (refine v_load rfl rfl row_gadget rfl hM.at0 (Nat.le_refl _) (cut_all rfl) ?_) | (refine v_fill rfl rfl row_gadget rfl rfl hM.at1 (gdl_vs _ _ _) rfl ?_; intro u hv hc; replace hM := hM.put1 hc hv; clear hv hc) | (refine v_load rfl rfl row_greeting rfl hM.at2 (Nat.le_refl _) (cut_all rfl) ?_)) | go_values | go_skip | go_guarded | go_step | go_upon | (simp only [Int.not_lt, Int.not_le] at *; go_simp))
   refine (HTd.out m.g vf D X.t X.e _ (hM.own.rc HMt.out.fs) HXs.out).mono ?_
   rintro e u4 ⟨u', M, rfl, hr, hb, hcase⟩
   have hY : ∃ D2, Mo w u4 [(zd, 35, gdl X.s X.a X.h), (zc, 33, grl m.g vf), (zb, 35, gdl 0 0 0), (za, 33, grl noGr nilS), (zs, 29, shl d c v tv)] u' D2 ∧ D2.map Prod.fst = (tlG m.g X.t X.e).c.fs := by
    rcases hcase with ⟨rfl, h3⟩ | ⟨M', ho, h3⟩
    ·exact ⟨D, (hM.call hb).tail, by rw [h3]; exact HMt.out.fs⟩
    ·exact ⟨M', (hM.take hb ho).tail, h3⟩
   obtain ⟨D2, hM2, hD2⟩ := hY
   have HDD : Hid (D2.map Prod.fst = (stpM d c T m 1).g.c.fs) := by show _ = _; rw [HSt.out]; exact hD2
   have HO : Hid (u'.oneCell' = true) := hM2.own.one
   clear hM
   have hM := hM2
   clear hb hr hcase hD2 hM2
   repeat' (first | (go_big_may; first | (refine v_fill rfl rfl row_greeting rfl rfl hM.at1 (grl_vs _ HO.out) rfl ?_; intro u hv hc; replace hM := hM.put1 hc hv; clear hv hc)) | go_values | go_skip | go_guarded | go_step | go_upon | (simp only [Int.not_lt, Int.not_le] at *; go_simp))
   go_roundw
   case rel => exact ⟨k + 1, ⟨tlG m.g X.t X.e, X.s, X.a, X.h, m.n + 1⟩, u', D2, by omega, by go_num, hM, by rw [← HSt.out]; exact HMt.out.step HF.out HX.out HDD.out⟩
   case measure => simp [intOf]; omega
  ·have HSt : Hid (stpM d c T m 2 = ⟨tlG m.g ⟨#[]⟩ 9, m.s, m.a, m.h, m.n + 1⟩) := stp_of d c T (X := ⟨m.s, m.a, m.h, ⟨#[]⟩, 9⟩) (by rw [try2])
   repeat' (first | (go_big_may; first | (refine v_alloc rfl zer_gadget rfl ?_; intro u zn hN; replace hM := hM.new hN; clear hN) | (refine v_fill rfl rfl row_gadget rfl rfl hM.at0 (gdl_vs _ _ _) rfl ?_; intro u hv hc; replace hM := hM.put0 hc hv; clear hv hc)) | go_values | go_skip | go_guarded | go_step | go_upon | (simp only [Int.not_lt, Int.not_le] at *; go_simp))
   go_upto_region 19 with (fail)
   refine reg.wp_abs (fun a0 => a0.tmps.size = 112 ∧ (∀ h, a0.tmps[15]'h = .int .i64 2)) ⟨rfl, fun _ => rfl⟩ ?_
   rintro a0 ⟨hsz, s15⟩ ha0
   refine reg.wp_region_E (S := fun W => Ls W []) (E := fun _ => false) (by kernel_rfl) ?_
   replace hM := hM.drew
   refine reg.e_take (i := 1) (.int .i64 2) rfl (by kernel_rfl) (by kernel_rfl) (by kernel_rfl) (by kernel_rfl) (fun _ _ _ h => h) (reg.wanted_none rfl) (hM.ls (by simp)) (fun W hW => by simp [execOp, go_sem, Act.put, hsz, s15]) ?_
   refine reg.e_take (i := 4) (.string { data := #[] }) rfl (by kernel_rfl) (by kernel_rfl) (by kernel_rfl) (by kernel_rfl) (fun _ _ _ h => h) (reg.wanted_none rfl) (hM.ls (by simp)) (fun W hW => by simp [execOp, go_sem, Act.put, hsz, s15]) ?_
   refine reg.e_one 0 (by kernel_rfl) rfl ?_
   refine r_bs (i := 0) rfl (reg.wanted_none rfl) rfl bs_erc (by simp [Act.eval, Act.put]) ?_
   intro ru1 zt rhn
   replace hM := hM.new rhn
   clear rhn
   refine ⟨hM.ls (by simp), ?_⟩
   refine reg.e_take (i := 2) (.pointer (some ⟨zt, 2, none⟩)) rfl (by kernel_rfl) (by kernel_rfl) (by kernel_rfl) (by kernel_rfl) (fun _ _ _ h => h) (reg.wanted_none rfl) (hM.ls (by simp)) (fun W hW => by simp [execOp, go_sem, Act.put, hsz, s15]) ?_
   refine reg.e_one 3 (by kernel_rfl) rfl ?_
   refine reg.r_same (i := 3) (.int .i64 9) rfl (reg.wanted_none rfl) (ex_get (j := 2) rfl (by simp [go_sem, Act.put, hsz, s15]) hM.at0 rfl) ?_
   refine ⟨hM.ls (by simp), ?_⟩
   refine reg.e_take (i := 5) (.int .i64 9) rfl (by kernel_rfl) (by kernel_rfl) (by kernel_rfl) (by kernel_rfl) (fun _ _ _ h => h) (reg.wanted_none rfl) (hM.ls (by simp)) (fun W hW => by simp [execOp, go_sem, Act.put, hsz, s15]) ?_
   refine reg.e_done (by kernel_rfl) ?_ _
   subst ha0
   clear hsz s15
   go_simp
   repeat' (first | (go_big_may; first | (refine v_load rfl rfl row_greeting rfl hM.at3 (Nat.le_refl _) (cut_all rfl) ?_)) | go_values | go_skip | go_guarded | go_step | go_upon | (simp only [Int.not_lt, Int.not_le] at *; go_simp))
   refine (HTd.out m.g vf D ⟨#[]⟩ 9 _ (hM.own.rc HMt.out.fs) (Nat.zero_le _)).mono ?_
   rintro e u4 ⟨u', M, rfl, hr, hb, hcase⟩
   have hY : ∃ D2, Mo w u4 [(zd, 35, gdl m.s m.a m.h), (zc, 33, grl m.g vf), (zb, 35, gdl 0 0 0), (za, 33, grl noGr nilS), (zs, 29, shl d c v tv)] u' D2 ∧ D2.map Prod.fst = (tlG m.g ⟨#[]⟩ 9).c.fs := by
    rcases hcase with ⟨rfl, h3⟩ | ⟨M', ho, h3⟩
    ·exact ⟨D, (hM.call hb).tail.tail, by rw [h3]; exact HMt.out.fs⟩
    ·exact ⟨M', (hM.take hb ho).tail.tail, h3⟩
   obtain ⟨D2, hM2, hD2⟩ := hY
   have HDD : Hid (D2.map Prod.fst = (stpM d c T m 2).g.c.fs) := by show _ = _; rw [HSt.out]; exact hD2
   have HO : Hid (u'.oneCell' = true) := hM2.own.one
   clear hM
   have hM := hM2
   clear hb hr hcase hD2 hM2
   repeat' (first | (go_big_may; first | (refine v_fill rfl rfl row_greeting rfl rfl hM.at1 (grl_vs _ HO.out) rfl ?_; intro u hv hc; replace hM := hM.put1 hc hv; clear hv hc)) | go_values | go_skip | go_guarded | go_step | go_upon | (simp only [Int.not_lt, Int.not_le] at *; go_simp))
   go_roundw
   case rel => exact ⟨k + 1, ⟨tlG m.g ⟨#[]⟩ 9, m.s, m.a, m.h, m.n + 1⟩, u', D2, by omega, by go_num, hM, by rw [← HSt.out]; exact HMt.out.step HF.out HX.out HDD.out⟩
   case measure => simp [intOf]; omega
  ·have HSt : Hid (stpM d c T m 3 = ⟨tlG m.g ⟨#[]⟩ 9, X.s, X.a, X.h, m.n + 1⟩) := stp_of d c T (X := ⟨X.s, X.a, X.h, ⟨#[]⟩, 9⟩) (by rw [try3, HXX.out])
   repeat' (first | (go_big_may; first | (refine v_alloc rfl zer_gadget rfl ?_; intro u zn hN; replace hM := hM.new hN; clear hN) | (refine v_fill rfl rfl row_gadget rfl rfl hM.at0 (gdl_vs _ _ _) rfl ?_; intro u hv hc; replace hM := hM.put0 hc hv; clear hv hc) | (refine v_load rfl rfl row_gadget rfl hM.at0 (Nat.le_refl _) (cut_all rfl) ?_) | (refine v_fill rfl rfl row_gadget rfl rfl hM.at1 (gdl_vs _ _ _) rfl ?_; intro u hv hc; replace hM := hM.put1 hc hv; clear hv hc)) | go_values | go_skip | go_guarded | go_step | go_upon | (simp only [Int.not_lt, Int.not_le] at *; go_simp))
   go_upto_region 19 with (fail)
   refine reg.wp_abs (fun a0 => a0.tmps.size = 112 ∧ (∀ h, a0.tmps[15]'h = .int .i64 3)) ⟨rfl, fun _ => rfl⟩ ?_
   rintro a0 ⟨hsz, s15⟩ ha0
   refine reg.wp_region_E (S := fun W => Ls W []) (E := fun _ => false) (by kernel_rfl) ?_
   replace hM := hM.drew
   refine reg.e_take (i := 1) (.int .i64 3) rfl (by kernel_rfl) (by kernel_rfl) (by kernel_rfl) (by kernel_rfl) (fun _ _ _ h => h) (reg.wanted_none rfl) (hM.ls (by simp)) (fun W hW => by simp [execOp, go_sem, Act.put, hsz, s15]) ?_
   refine reg.e_take (i := 4) (.string { data := #[] }) rfl (by kernel_rfl) (by kernel_rfl) (by kernel_rfl) (by kernel_rfl) (fun _ _ _ h => h) (reg.wanted_none rfl) (hM.ls (by simp)) (fun W hW => by simp [execOp, go_sem, Act.put, hsz, s15]) ?_
   refine reg.e_one 0 (by kernel_rfl) rfl ?_
   refine r_bs (i := 0) rfl (reg.wanted_none rfl) rfl bs_erc (by simp [Act.eval, Act.put]) ?_
   intro ru1 zt rhn
   replace hM := hM.new rhn
   clear rhn
   refine ⟨hM.ls (by simp), ?_⟩
   refine reg.e_take (i := 2) (.pointer (some ⟨zt, 3, none⟩)) rfl (by kernel_rfl) (by kernel_rfl) (by kernel_rfl) (by kernel_rfl) (fun _ _ _ h => h) (reg.wanted_none rfl) (hM.ls (by simp)) (fun W hW => by simp [execOp, go_sem, Act.put, hsz, s15]) ?_
   refine reg.e_one 3 (by kernel_rfl) rfl ?_
   refine reg.r_same (i := 3) (.int .i64 9) rfl (reg.wanted_none rfl) (ex_get (j := 3) rfl (by simp [go_sem, Act.put, hsz, s15]) hM.at0 rfl) ?_
   refine ⟨hM.ls (by simp), ?_⟩
   refine reg.e_take (i := 5) (.int .i64 9) rfl (by kernel_rfl) (by kernel_rfl) (by kernel_rfl) (by kernel_rfl) (fun _ _ _ h => h) (reg.wanted_none rfl) (hM.ls (by simp)) (fun W hW => by simp [execOp, go_sem, Act.put, hsz, s15]) ?_
   refine reg.e_done (by kernel_rfl) ?_ _
   subst ha0
   clear hsz s15
   go_simp
   repeat' (first | (go_big_may; first | (refine v_load rfl rfl row_greeting rfl hM.at3 (Nat.le_refl _) (cut_all rfl) ?_)) | go_values | go_skip | go_guarded | go_step | go_upon | (simp only [Int.not_lt, Int.not_le] at *; go_simp))
   refine (HTd.out m.g vf D ⟨#[]⟩ 9 _ (hM.own.rc HMt.out.fs) (Nat.zero_le _)).mono ?_
   rintro e u4 ⟨u', M, rfl, hr, hb, hcase⟩
   have hY : ∃ D2, Mo w u4 [(zd, 35, gdl X.s X.a X.h), (zc, 33, grl m.g vf), (zb, 35, gdl 0 0 0), (za, 33, grl noGr nilS), (zs, 29, shl d c v tv)] u' D2 ∧ D2.map Prod.fst = (tlG m.g ⟨#[]⟩ 9).c.fs := by
    rcases hcase with ⟨rfl, h3⟩ | ⟨M', ho, h3⟩
    ·exact ⟨D, (hM.call hb).tail.tail, by rw [h3]; exact HMt.out.fs⟩
    ·exact ⟨M', (hM.take hb ho).tail.tail, h3⟩
   obtain ⟨D2, hM2, hD2⟩ := hY
   have HDD : Hid (D2.map Prod.fst = (stpM d c T m 3).g.c.fs) := by show _ = _; rw [HSt.out]; exact hD2
   have HO : Hid (u'.oneCell' = true) := hM2.own.one
   clear hM
   have hM := hM2
   clear hb hr hcase hD2 hM2
   repeat' (first | (go_big_may; first | (refine v_fill rfl rfl row_greeting rfl rfl hM.at1 (grl_vs _ HO.out) rfl ?_; intro u hv hc; replace hM := hM.put1 hc hv; clear hv hc)) | go_values | go_skip | go_guarded | go_step | go_upon | (simp only [Int.not_lt, Int.not_le] at *; go_simp))
   go_roundw
   case rel => exact ⟨k + 1, ⟨tlG m.g ⟨#[]⟩ 9, X.s, X.a, X.h, m.n + 1⟩, u', D2, by omega, by go_num, hM, by rw [← HSt.out]; exact HMt.out.step HF.out HX.out HDD.out⟩
   case measure => simp [intOf]; omega
  ·have HSt : Hid (stpM d c T m 4 = ⟨tlG m.g ⟨#[]⟩ 10, m.s, m.a, m.h, m.n + 1⟩) := stp_of d c T (X := ⟨m.s, m.a, m.h, ⟨#[]⟩, 10⟩) (by rw [try4])
   repeat' (first | (go_big_may; first | (refine v_alloc rfl zer_gadget rfl ?_; intro u zn hN; replace hM := hM.new hN; clear hN) | (refine v_fill rfl rfl row_gadget rfl rfl hM.at0 (gdl_vs _ _ _) rfl ?_; intro u hv hc; replace hM := hM.put0 hc hv; clear hv hc)) | go_values | go_skip | go_guarded | go_step | go_upon | (simp only [Int.not_lt, Int.not_le] at *; go_simp))
   go_upto_region 19 with (fail)
   refine reg.wp_abs (fun a0 => a0.tmps.size = 112 ∧ (∀ h, a0.tmps[15]'h = .int .i64 4)) ⟨rfl, fun _ => rfl⟩ ?_
   rintro a0 ⟨hsz, s15⟩ ha0
   refine reg.wp_region_E (S := fun W => Ls W []) (E := fun _ => false) (by kernel_rfl) ?_
   replace hM := hM.drew
   refine reg.e_take (i := 1) (.int .i64 4) rfl (by kernel_rfl) (by kernel_rfl) (by kernel_rfl) (by kernel_rfl) (fun _ _ _ h => h) (reg.wanted_none rfl) (hM.ls (by simp)) (fun W hW => by simp [execOp, go_sem, Act.put, hsz, s15]) ?_
   refine reg.e_take (i := 4) (.string { data := #[] }) rfl (by kernel_rfl) (by kernel_rfl) (by kernel_rfl) (by kernel_rfl) (fun _ _ _ h => h) (reg.wanted_none rfl) (hM.ls (by simp)) (fun W hW => by simp [execOp, go_sem, Act.put, hsz, s15]) ?_
   refine reg.e_one 0 (by kernel_rfl) rfl ?_
   refine r_bs (i := 0) rfl (reg.wanted_none rfl) rfl bs_erc (by simp [Act.eval, Act.put]) ?_
   intro ru1 zt rhn
   replace hM := hM.new rhn
   clear rhn
   refine ⟨hM.ls (by simp), ?_⟩
   refine reg.e_take (i := 2) (.pointer (some ⟨zt, 4, none⟩)) rfl (by kernel_rfl) (by kernel_rfl) (by kernel_rfl) (by kernel_rfl) (fun _ _ _ h => h) (reg.wanted_none rfl) (hM.ls (by simp)) (fun W hW => by simp [execOp, go_sem, Act.put, hsz, s15]) ?_
   refine reg.e_one 3 (by kernel_rfl) rfl ?_
   refine reg.r_same (i := 3) (.int .i64 10) rfl (reg.wanted_none rfl) (ex_get (j := 4) rfl (by simp [go_sem, Act.put, hsz, s15]) hM.at0 rfl) ?_
   refine ⟨hM.ls (by simp), ?_⟩
   refine reg.e_take (i := 5) (.int .i64 10) rfl (by kernel_rfl) (by kernel_rfl) (by kernel_rfl) (by kernel_rfl) (fun _ _ _ h => h) (reg.wanted_none rfl) (hM.ls (by simp)) (fun W hW => by simp [execOp, go_sem, Act.put, hsz, s15]) ?_
   refine reg.e_done (by kernel_rfl) ?_ _
   subst ha0
   clear hsz s15
   go_simp
   repeat' (first | (go_big_may; first | (refine v_load rfl rfl row_greeting rfl hM.at3 (Nat.le_refl _) (cut_all rfl) ?_)) | go_values | go_skip | go_guarded | go_step | go_upon | (simp only [Int.not_lt, Int.not_le] at *; go_simp))
   refine (HTd.out m.g vf D ⟨#[]⟩ 10 _ (hM.own.rc HMt.out.fs) (Nat.zero_le _)).mono ?_
   rintro e u4 ⟨u', M, rfl, hr, hb, hcase⟩
   have hY : ∃ D2, Mo w u4 [(zd, 35, gdl m.s m.a m.h), (zc, 33, grl m.g vf), (zb, 35, gdl 0 0 0), (za, 33, grl noGr nilS), (zs, 29, shl d c v tv)] u' D2 ∧ D2.map Prod.fst = (tlG m.g ⟨#[]⟩ 10).c.fs := by
    rcases hcase with ⟨rfl, h3⟩ | ⟨M', ho, h3⟩
    ·exact ⟨D, (hM.call hb).tail.tail, by rw [h3]; exact HMt.out.fs⟩
    ·exact ⟨M', (hM.take hb ho).tail.tail, h3⟩
   obtain ⟨D2, hM2, hD2⟩ := hY
   have HDD : Hid (D2.map Prod.fst = (stpM d c T m 4).g.c.fs) := by show _ = _; rw [HSt.out]; exact hD2
   have HO : Hid (u'.oneCell' = true) := hM2.own.one
   clear hM
   have hM := hM2
   clear hb hr hcase hD2 hM2
   repeat' (first | (go_big_may; first | (refine v_fill rfl rfl row_greeting rfl rfl hM.at1 (grl_vs _ HO.out) rfl ?_; intro u hv hc; replace hM := hM.put1 hc hv; clear hv hc)) | go_values | go_skip | go_guarded | go_step | go_upon | (simp only [Int.not_lt, Int.not_le] at *; go_simp))
   go_roundw
   case rel => exact ⟨k + 1, ⟨tlG m.g ⟨#[]⟩ 10, m.s, m.a, m.h, m.n + 1⟩, u', D2, by omega, by go_num, hM, by rw [← HSt.out]; exact HMt.out.step HF.out HX.out HDD.out⟩
   case measure => simp [intOf]; omega
  ·have HSt : Hid (stpM d c T m 5 = ⟨tlG m.g ⟨#[]⟩ 8, m.s, m.a, m.h, m.n + 1⟩) := stp_of d c T (X := ⟨m.s, m.a, m.h, ⟨#[]⟩, 8⟩) (by rw [try5])
   repeat' (first | (go_big_may; first | (refine v_alloc rfl zer_gadget rfl ?_; intro u zn hN; replace hM := hM.new hN; clear hN) | (refine v_fill rfl rfl row_gadget rfl rfl hM.at0 (gdl_vs _ _ _) rfl ?_; intro u hv hc; replace hM := hM.put0 hc hv; clear hv hc)) | go_values | go_skip | go_guarded | go_step | go_upon | (simp only [Int.not_lt, Int.not_le] at *; go_simp))
   go_upto_region 19 with (fail)
   refine reg.wp_abs (fun a0 => a0.tmps.size = 112 ∧ (∀ h, a0.tmps[15]'h = .int .i64 5)) ⟨rfl, fun _ => rfl⟩ ?_
   rintro a0 ⟨hsz, s15⟩ ha0
   refine reg.wp_region_E (S := fun W => Ls W []) (E := fun _ => false) (by kernel_rfl) ?_
   replace hM := hM.drew
   refine reg.e_take (i := 1) (.int .i64 5) rfl (by kernel_rfl) (by kernel_rfl) (by kernel_rfl) (by kernel_rfl) (fun _ _ _ h => h) (reg.wanted_none rfl) (hM.ls (by simp)) (fun W hW => by simp [execOp, go_sem, Act.put, hsz, s15]) ?_
   refine reg.e_take (i := 4) (.string { data := #[] }) rfl (by kernel_rfl) (by kernel_rfl) (by kernel_rfl) (by kernel_rfl) (fun _ _ _ h => h) (reg.wanted_none rfl) (hM.ls (by simp)) (fun W hW => by simp [execOp, go_sem, Act.put, hsz, s15]) ?_
   refine reg.e_one 0 (by kernel_rfl) rfl ?_
   refine r_bs (i := 0) rfl (reg.wanted_none rfl) rfl bs_erc (by simp [Act.eval, Act.put]) ?_
   intro ru1 zt rhn
   replace hM := hM.new rhn
   clear rhn
   refine ⟨hM.ls (by simp), ?_⟩
   refine reg.e_take (i := 2) (.pointer (some ⟨zt, 5, none⟩)) rfl (by kernel_rfl) (by kernel_rfl) (by kernel_rfl) (by kernel_rfl) (fun _ _ _ h => h) (reg.wanted_none rfl) (hM.ls (by simp)) (fun W hW => by simp [execOp, go_sem, Act.put, hsz, s15]) ?_
   refine reg.e_one 3 (by kernel_rfl) rfl ?_
   refine reg.r_same (i := 3) (.int .i64 8) rfl (reg.wanted_none rfl) (ex_get (j := 5) rfl (by simp [go_sem, Act.put, hsz, s15]) hM.at0 rfl) ?_
   refine ⟨hM.ls (by simp), ?_⟩
   refine reg.e_take (i := 5) (.int .i64 8) rfl (by kernel_rfl) (by kernel_rfl) (by kernel_rfl) (by kernel_rfl) (fun _ _ _ h => h) (reg.wanted_none rfl) (hM.ls (by simp)) (fun W hW => by simp [execOp, go_sem, Act.put, hsz, s15]) ?_
   refine reg.e_done (by kernel_rfl) ?_ _
   subst ha0
   clear hsz s15
   go_simp
   repeat' (first | (go_big_may; first | (refine v_load rfl rfl row_greeting rfl hM.at3 (Nat.le_refl _) (cut_all rfl) ?_)) | go_values | go_skip | go_guarded | go_step | go_upon | (simp only [Int.not_lt, Int.not_le] at *; go_simp))
   refine (HTd.out m.g vf D ⟨#[]⟩ 8 _ (hM.own.rc HMt.out.fs) (Nat.zero_le _)).mono ?_
   rintro e u4 ⟨u', M, rfl, hr, hb, hcase⟩
   have hY : ∃ D2, Mo w u4 [(zd, 35, gdl m.s m.a m.h), (zc, 33, grl m.g vf), (zb, 35, gdl 0 0 0), (za, 33, grl noGr nilS), (zs, 29, shl d c v tv)] u' D2 ∧ D2.map Prod.fst = (tlG m.g ⟨#[]⟩ 8).c.fs := by
    rcases hcase with ⟨rfl, h3⟩ | ⟨M', ho, h3⟩
    ·exact ⟨D, (hM.call hb).tail.tail, by rw [h3]; exact HMt.out.fs⟩
    ·exact ⟨M', (hM.take hb ho).tail.tail, h3⟩
   obtain ⟨D2, hM2, hD2⟩ := hY
   have HDD : Hid (D2.map Prod.fst = (stpM d c T m 5).g.c.fs) := by show _ = _; rw [HSt.out]; exact hD2
   have HO : Hid (u'.oneCell' = true) := hM2.own.one
   clear hM
   have hM := hM2
   clear hb hr hcase hD2 hM2
   repeat' (first | (go_big_may; first | (refine v_fill rfl rfl row_greeting rfl rfl hM.at1 (grl_vs _ HO.out) rfl ?_; intro u hv hc; replace hM := hM.put1 hc hv; clear hv hc)) | go_values | go_skip | go_guarded | go_step | go_upon | (simp only [Int.not_lt, Int.not_le] at *; go_simp))
   go_roundw
   case rel => exact ⟨k + 1, ⟨tlG m.g ⟨#[]⟩ 8, m.s, m.a, m.h, m.n + 1⟩, u', D2, by omega, by go_num, hM, by rw [← HSt.out]; exact HMt.out.step HF.out HX.out HDD.out⟩
   case measure => simp [intOf]; omega
end Go.Proofs.YtonheibhbilhhaaGreat.greet
