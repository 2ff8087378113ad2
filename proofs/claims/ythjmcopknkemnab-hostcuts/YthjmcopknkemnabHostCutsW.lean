/- HostCuts: to work on for so many, and for so many more, is to work on for all of them. -/
import Derived.Test.YthjmcopknkemnabHstT
import Derived.Test.YthjmcopknkemnabHstL
import Derived.Test.YthjmcopknkemnabHstO
namespace Go.Proofs.Ythjmcopknkemnab.hostCuts
open Go Go.RowKit
open Go.Proofs.Ythjmcopknkemnab Go.Proofs.Ythjmcopknkemnab.host
open Go.Proofs.Ythjmcopknkemnab.slots (Row row_cmd Chg ag bsq InB Wf)
open Go.Proofs.Ythjmcopknkemnab.ring (Rcs)
set_option linter.unusedVariables false
set_option linter.unusedSimpArgs false
set_option maxRecDepth 100000

theorem wk_stop : ∀ (n : Nat) (m : Mc), stB m = false → wkV n m = m ∧ wkN n m = 0
  | 0, m, _ => ⟨rfl, rfl⟩
  | n + 1, m, h => by rw [wk_at, wn_at, h]; exact ⟨rfl, rfl⟩
theorem wk_add : ∀ (a b : Nat) (m : Mc), wkV (a + b) m = wkV b (wkV a m) ∧ wkN (a + b) m = wkN a m + wkN b (wkV a m) ∧ (wkN a m = a ∨ wkN b (wkV a m) = 0)
  | 0, b, m => by
    rw [Nat.zero_add]
    exact ⟨rfl, by show wkN b m = 0 + wkN b m; omega, .inl rfl⟩
  | a + 1, b, m => by
    rw [show a + 1 + b = (a + b) + 1 by omega, wk_at, wn_at, wk_at, wn_at]
    cases h : stB m
    · have := wk_stop b m h
      simp only [Bool.false_eq_true, if_false]
      exact ⟨this.1.symm, by rw [this.2], .inr this.2⟩
    · simp only [if_true]
      obtain ⟨h1, h2, h3⟩ := wk_add a b (stV m)
      refine ⟨h1, by omega, ?_⟩
      rcases h3 with q | q
      · exact .inl (by omega)
      · exact .inr q
/-- what the law compares -/
theorem cuts {m : Mc} {a b : Int} (hB : Wf m.B) (h1 : 1 ≤ a) (h2 : a ≤ 500) (h3 : 1 ≤ b) (h4 : b ≤ 500) : wrV m (a + b) = wrV (wrV m a) b ∧ wrN m a + wrN (wrV m a) b = wrN m (a + b) ∧ (0 ≤ wrN m a ∧ wrN m a ≤ a) ∧ (0 ≤ wrN (wrV m a) b ∧ wrN (wrV m a) b ≤ b) ∧ (wrN m a = a ∨ wrN (wrV m a) b = 0) := by
  cases hr : rtB m
  · have e : ∀ n, wkB m n = false := fun n => by unfold wkB; rw [hr]; rfl
    have f : ∀ n, wrV m n = m ∧ wrN m n = 0 := fun n => by unfold wrV wrN; rw [e]; exact ⟨rfl, rfl⟩
    rw [(f a).1, (f b).1, (f (a + b)).1, (f a).2, (f b).2, (f (a + b)).2]
    exact ⟨rfl, rfl, by omega, by omega, .inr rfl⟩
  · have hm : Rm m := rt_iff.1 hr
    have ha : wkB m a = true := by unfold wkB; rw [hr]; simp; omega
    have hab : wkB m (a + b) = true := by unfold wkB; rw [hr]; simp; omega
    have v1 : wrV m a = wkV a.toNat m := by unfold wrV; rw [if_pos ha]
    have n1 : wrN m a = (wkN a.toNat m : Int) := by unfold wrN; rw [if_pos ha]
    have v3 : wrV m (a + b) = wkV (a.toNat + b.toNat) m := by unfold wrV; rw [if_pos hab, show (a + b).toNat = a.toNat + b.toNat by omega]
    have n3 : wrN m (a + b) = (wkN (a.toNat + b.toNat) m : Int) := by unfold wrN; rw [if_pos hab, show (a + b).toNat = a.toNat + b.toNat by omega]
    rw [v1, n1, v3, n3]
    have hr2 : rtB (wkV a.toNat m) = true := rt_iff.2 (wk_both _ hm hB).1
    have hb : wkB (wkV a.toNat m) b = true := by unfold wkB; rw [hr2]; simp; omega
    have v2 : wrV (wkV a.toNat m) b = wkV b.toNat (wkV a.toNat m) := by unfold wrV; rw [if_pos hb]
    have n2 : wrN (wkV a.toNat m) b = (wkN b.toNat (wkV a.toNat m) : Int) := by unfold wrN; rw [if_pos hb]
    rw [v2, n2]
    obtain ⟨w1, w2, w3⟩ := wk_add a.toNat b.toNat m
    have l1 := wn_le a.toNat m
    have l2 := wn_le b.toNat (wkV a.toNat m)
    exact ⟨w1, by omega, by omega, by omega, by rcases w3 with q | q; exact .inl (by omega); exact .inr (by omega)⟩
theorem wr_in {w : World} {vc ve v1 v2 : Value} {m : Mc} (hi : In w vc ve m) (n : Int) {u u' : World} (ht : Tl u v1 v2 (wrV m n) u') : In u' v1 v2 (wrV m n) := by
  unfold wrV at ht ⊢
  split
  · rename_i q
    rw [if_pos q] at ht
    unfold wkB at q
    rw [Bool.and_eq_true] at q
    exact Fit.inn (Fit.wk n.toNat ⟨q.1, hi.B, hi.wc, hi.we⟩) ht.c.rcs ht.e.rcs
  · rename_i q
    rw [if_neg q] at ht
    exact ⟨ht.c.rcs, ht.e.rcs, hi.B, hi.wc, hi.we, hi.l1, hi.l2⟩
theorem wr_wf {m : Mc} (h : Wf m.B) (hr : rtB m = true ∨ True) (n : Int) (hi : wkB m n = true → Rm m) : Wf (wrV m n).B := by
  unfold wrV
  split
  · rename_i q; exact (wk_both _ (hi q) h).2
  · exact h
set_option maxHeartbeats 8000000 in
theorem walk0 (vc ve : Value) (m : Mc) (a b : Int) (w : World) (hi : In w vc ve m) (h1 : 1 ≤ a) (h2 : a ≤ 500) (h3 : 1 ≤ b) (h4 : b ≤ 500) : Calls Try.prog 3 #[agv (mvl vc ve m), .int .i64 a, .int .i64 b] w fun r w' => r = .returned (.bool true) ∧ Below w.heap.size w w' := by
  obtain ⟨q1, q2, ⟨q3, q4⟩, ⟨q5, q6⟩, q7⟩ := cuts hi.B h1 h2 h3 h4
  have hM : Mv w w [] [(false, vc, m.c.C), (false, ve, m.e.C)] := ((Mv.nil w).old hi.e).old hi.c
  have HL0 : Hid (0 + 606 ≤ (mvl vc ve m).length) := by show _ ≤ _; rw [hi.vs.len]; exact Nat.le_refl _
  have HA0 : Hid (cv (mvl vc ve m) 0 606 = mvl vc ve m) := cv_all hi.vs.len
  have HZ : Hid (zl.length = 606) := zl_vs.len
  have HLV : Hid (∀ u, Calls Try.prog 5 #[] u fun e w' => e = .returned (.bool true) ∧ Below u.heap.size u w') := lives_any
  have HWA : Hid (∀ u, Below w.heap.size w u → Calls Try.prog 6 #[agv (mvl vc ve m), .int .i64 a] u fun e w' => ∃ vc' ve', e = .returned (.tuple #[agv (mvl vc' ve' (wrV m a)), .int .i64 (wrN m a)]) ∧ Tl u vc' ve' (wrV m a) w' ∧ In w' vc' ve' (wrV m a)) := fun u hb => (work_any vc ve m a u (hi.below hb)).mono fun e w' ⟨x, y, g1, g2⟩ => ⟨x, y, g1, g2, wr_in (hi.below hb) a g2⟩
  have HWC : Hid (∀ u, Below w.heap.size w u → Calls Try.prog 6 #[agv (mvl vc ve m), .int .i64 (a + b)] u fun e w' => ∃ vc' ve', e = .returned (.tuple #[agv (mvl vc' ve' (wrV m (a + b))), .int .i64 (wrN m (a + b))]) ∧ Tl u vc' ve' (wrV m (a + b)) w') := fun u hb => work_any vc ve m (a + b) u (hi.below hb)
  have HWB : Hid (∀ v1 v2 u u', In u v1 v2 (wrV m a) → Below u.heap.size u u' → Calls Try.prog 6 #[agv (mvl v1 v2 (wrV m a)), .int .i64 b] u' fun e w' => ∃ vc' ve', e = .returned (.tuple #[agv (mvl vc' ve' (wrV (wrV m a) b)), .int .i64 (wrN (wrV m a) b)]) ∧ Tl u' vc' ve' (wrV (wrV m a) b) w') := fun v1 v2 u u' hI hb => work_any v1 v2 (wrV m a) b u' (hI.below hb)
  have HW1 : Hid (Wf (wrV m a).B) := wr_wf hi.B (.inr trivial) a (fun h => rt_iff.1 (by unfold wkB at h; exact ((Bool.and_eq_true _ _).mp h).1))
  have HW2 : Hid (Wf (wrV (wrV m a) b).B) := wr_wf HW1.out (.inr trivial) b (fun h => rt_iff.1 (by unfold wkB at h; exact ((Bool.and_eq_true _ _).mp h).1))
  rw [q1] at HWC
  have HSM : Hid (∀ v1 v2 v3 v4 u, Rcs u v1 (wrV (wrV m a) b).c.C → Rcs u v2 (wrV (wrV m a) b).e.C → Rcs u v3 (wrV (wrV m a) b).c.C → Rcs u v4 (wrV (wrV m a) b).e.C → Calls Try.prog 7 #[agv (mvl v1 v2 (wrV (wrV m a) b)), agv (mvl v3 v4 (wrV (wrV m a) b))] u fun e w' => e = .returned (.bool true) ∧ Below u.heap.size u w') := fun v1 v2 v3 v4 u k1 k2 k3 k4 => same_mc v1 v2 v3 v4 _ u k1 k2 k3 k4 HW2.out
  generalize wrV (wrV m a) b = M2 at *
  generalize wrN (wrV m a) b = n2 at *
  generalize wrV m a = M1 at *
  generalize wrN m (a + b) = n3 at *
  generalize wrN m a = n1 at *
  have e1 : decide (a < 1) = false := by simp; omega
  have e2 : decide (b < 1) = false := by simp; omega
  have e3 : decide (500 < a) = false := by simp; omega
  have e4 : decide (500 < b) = false := by simp; omega
  have e5 : (n1 + n2 == n3) = true := by simpa using q2
  have e6 : decide (n1 ≤ a) = true := by simpa using q4
  have HQ7 : Hid (n1 = a ∨ n2 = 0) := q7
  have e7 : IntKind.i64.wrap (a + b) = a + b := by rw [IntKind.wrap_i64]; omega
  have e8 : IntKind.i64.wrap (n1 + n2) = n1 + n2 := by rw [IntKind.wrap_i64]; omega
  clear hi q1 q7
  go_enter Try.func3, Try.ntmps3
  repeat' (first | (go_big_may; first | (refine v_box rfl rfl rfl ?_; intro u xm hN; replace hM := hM.new hN (by decide); clear hN) | (refine v_load rfl rfl row_mach rfl hM.at0 HL0.out HA0.out ?_)) | go_values | go_skip | go_guarded | go_step | go_upon | (simp only [Int.not_lt, Int.not_le] at *; go_simp))
  refine (HWA.out _ hM.below).mono ?_
  rintro r u1 ⟨a1, a2, rfl, ht, hI⟩
  have G1 : Hid (Vs (mvl a1 a2 M1) 606) := mvl_vs (rcs_one ht.c.rcs) (rcs_one ht.e.rcs) HW1.out
  have L1 : Hid (0 + 606 ≤ (mvl a1 a2 M1).length) := by show _ ≤ _; rw [G1.out.len]; exact Nat.le_refl _
  have A1 : Hid (cv (mvl a1 a2 M1) 0 606 = mvl a1 a2 M1) := cv_all G1.out.len
  replace hM := (hM.tel ht.c ht.below).add (b := true) (ht.e.mono hM.below.size)
  have HI1 : Hid (In u1 a1 a2 M1) := hI
  clear ht hI
  repeat' (first | (go_big_may; first | (refine v_alloc rfl zer_mach rfl ?_; intro u xa hN; replace hM := hM.new hN (by decide); clear hN) | (refine v_fill rfl rfl row_mach rfl rfl hM.at0 G1.out HZ.out ?_; intro u hv hc; replace hM := hM.put0 hc hv; clear hv hc) | (refine v_load rfl rfl row_mach rfl hM.at0 L1.out A1.out ?_)) | go_values | go_skip | go_guarded | go_step | go_upon | (simp only [Int.not_lt, Int.not_le] at *; go_simp))
  have hI2 : In u a1 a2 M1 := ⟨hM.read (b := true) (by simp), hM.read (b := true) (by simp), HI1.out.B, HI1.out.wc, HI1.out.we, HI1.out.l1, HI1.out.l2⟩
  refine (HWB.out a1 a2 _ _ hI2 (Below.refl _ _)).mono ?_
  rintro r u2 ⟨b1, b2, rfl, ht⟩
  have G2 : Hid (Vs (mvl b1 b2 M2) 606) := mvl_vs (rcs_one ht.c.rcs) (rcs_one ht.e.rcs) HW2.out
  have L2 : Hid (0 + 606 ≤ (mvl b1 b2 M2).length) := by show _ ≤ _; rw [G2.out.len]; exact Nat.le_refl _
  have A2 : Hid (cv (mvl b1 b2 M2) 0 606 = mvl b1 b2 M2) := cv_all G2.out.len
  replace hM := (hM.tel ht.c ht.below).add (b := true) (ht.e.mono hM.below.size)
  clear ht hI2 HI1
  repeat' (first | (go_big_may; first | (refine v_alloc rfl zer_mach rfl ?_; intro u xb hN; replace hM := hM.new hN (by decide); clear hN) | (refine v_fill rfl rfl row_mach rfl rfl hM.at0 G2.out HZ.out ?_; intro u hv hc; replace hM := hM.put0 hc hv; clear hv hc) | (refine v_load rfl rfl row_mach rfl hM.at2 HL0.out HA0.out ?_)) | go_values | go_skip | go_guarded | go_step | go_upon | (simp only [Int.not_lt, Int.not_le] at *; go_simp))
  refine (HWC.out _ hM.below).mono ?_
  rintro r u3 ⟨c1, c2, rfl, ht⟩
  have G3 : Hid (Vs (mvl c1 c2 M2) 606) := mvl_vs (rcs_one ht.c.rcs) (rcs_one ht.e.rcs) HW2.out
  have L3 : Hid (0 + 606 ≤ (mvl c1 c2 M2).length) := by show _ ≤ _; rw [G3.out.len]; exact Nat.le_refl _
  have A3 : Hid (cv (mvl c1 c2 M2) 0 606 = mvl c1 c2 M2) := cv_all G3.out.len
  replace hM := (hM.tel ht.c ht.below).add (b := true) (ht.e.mono hM.below.size)
  clear ht
  repeat' (first | (go_big_may; first | (refine v_alloc rfl zer_mach rfl ?_; intro u xd hN; replace hM := hM.new hN (by decide); clear hN) | (refine v_fill rfl rfl row_mach rfl rfl hM.at0 G3.out HZ.out ?_; intro u hv hc; replace hM := hM.put0 hc hv; clear hv hc)) | go_values | go_skip | go_guarded | go_step | go_upon | (simp only [Int.not_lt, Int.not_le] at *; go_simp))
  refine (HLV.out _).mono ?_
  rintro r u4 ⟨rfl, hv⟩
  replace hM := hM.call hv
  clear hv
  repeat' (first | (go_big_may; first | (refine v_load rfl rfl row_mach rfl hM.at1 L2.out A2.out ?_) | (refine v_load rfl rfl row_mach rfl hM.at0 L3.out A3.out ?_)) | go_values | go_skip | go_guarded | go_step | go_upon | (simp only [Int.not_lt, Int.not_le] at *; go_simp))
  refine (HSM.out b1 b2 c1 c2 _ (hM.read (b := true) (by simp)) (hM.read (b := true) (by simp)) (hM.read (b := true) (by simp)) (hM.read (b := true) (by simp))).mono ?_
  rintro r u5 ⟨rfl, hv⟩
  replace hM := hM.call hv
  clear hv
  by_cases hq : n1 = a
  · have e9 : (n1 == a) = true := by simpa using hq
    clear hq
    repeat' (first | go_values | go_skip | go_guarded | go_step | go_upon | (simp only [Int.not_lt, Int.not_le] at *; go_simp))
    go_ret
    exact ⟨rfl, hM.below⟩
  · have e9 : (n1 == a) = false := by simpa using hq
    have e10 : n2 = 0 := by rcases HQ7.out with h | h; exact absurd h hq; exact h
    have e11 : (n2 == 0) = true := by simpa using e10
    clear hq e10
    repeat' (first | go_values | go_skip | go_guarded | go_step | go_upon | (simp only [Int.not_lt, Int.not_le] at *; go_simp))
    go_ret
    exact ⟨rfl, hM.below⟩
theorem walk (vc ve : Value) (m : Mc) (a b : Int) (wa : (Lit.int .i64 a).wf = true) (wb : (Lit.int .i64 b).wf = true) (w : World) (hp : Hd w vc ve m) (hk : m.c.C.length * 24 ≤ reachBytes ∧ m.e.C.length * 24 ≤ reachBytes) : Calls Try.prog 3 #[agv (mvl vc ve m), .int .i64 a, .int .i64 b] w fun r w' => r = .returned (.bool true) ∧ Below w.heap.size w w' := by
  have hi := hp.inn hk
  by_cases h1 : 1 ≤ a
  · by_cases h2 : 1 ≤ b
    · by_cases h3 : a ≤ 500
      · by_cases h4 : b ≤ 500
        · exact walk0 vc ve m a b w hi h1 h3 h2 h4
        · have e1 : decide (a < 1) = false := by simp; omega
          have e2 : decide (b < 1) = false := by simp; omega
          have e3 : decide (500 < a) = false := by simp; omega
          have e4 : decide (500 < b) = true := by simp; omega
          have hM := Mv.nil w
          have HLV : Hid (∀ u, Calls Try.prog 5 #[] u fun e w' => e = .returned (.bool true) ∧ Below u.heap.size u w') := lives_any
          clear hi hp hk h1 h2 h3 h4 wa wb
          go_enter Try.func3, Try.ntmps3
          repeat' (first | (go_big_may; first | (refine v_box rfl rfl rfl ?_; intro u xm hN; replace hM := hM.new hN (by decide); clear hN)) | go_values | go_skip | go_guarded | go_step | go_upon | (simp only [Int.not_lt, Int.not_le] at *; go_simp))
          refine (HLV.out _).mono ?_
          rintro r u4 ⟨rfl, hv⟩
          replace hM := hM.call hv
          clear hv
          repeat' (first | go_values | go_skip | go_guarded | go_step | go_upon | (simp only [Int.not_lt, Int.not_le] at *; go_simp))
          go_ret
          exact ⟨rfl, hM.below⟩
      · have e1 : decide (a < 1) = false := by simp; omega
        have e2 : decide (b < 1) = false := by simp; omega
        have e3 : decide (500 < a) = true := by simp; omega
        have hM := Mv.nil w
        have HLV : Hid (∀ u, Calls Try.prog 5 #[] u fun e w' => e = .returned (.bool true) ∧ Below u.heap.size u w') := lives_any
        clear hi hp hk h1 h2 h3 wa wb
        go_enter Try.func3, Try.ntmps3
        repeat' (first | (go_big_may; first | (refine v_box rfl rfl rfl ?_; intro u xm hN; replace hM := hM.new hN (by decide); clear hN)) | go_values | go_skip | go_guarded | go_step | go_upon | (simp only [Int.not_lt, Int.not_le] at *; go_simp))
        refine (HLV.out _).mono ?_
        rintro r u4 ⟨rfl, hv⟩
        replace hM := hM.call hv
        clear hv
        repeat' (first | go_values | go_skip | go_guarded | go_step | go_upon | (simp only [Int.not_lt, Int.not_le] at *; go_simp))
        go_ret
        exact ⟨rfl, hM.below⟩
    · have e1 : decide (a < 1) = false := by simp; omega
      have e2 : decide (b < 1) = true := by simp; omega
      have hM := Mv.nil w
      have HLV : Hid (∀ u, Calls Try.prog 5 #[] u fun e w' => e = .returned (.bool true) ∧ Below u.heap.size u w') := lives_any
      clear hi hp hk h1 h2 wa wb
      go_enter Try.func3, Try.ntmps3
      repeat' (first | (go_big_may; first | (refine v_box rfl rfl rfl ?_; intro u xm hN; replace hM := hM.new hN (by decide); clear hN)) | go_values | go_skip | go_guarded | go_step | go_upon | (simp only [Int.not_lt, Int.not_le] at *; go_simp))
      refine (HLV.out _).mono ?_
      rintro r u4 ⟨rfl, hv⟩
      replace hM := hM.call hv
      clear hv
      repeat' (first | go_values | go_skip | go_guarded | go_step | go_upon | (simp only [Int.not_lt, Int.not_le] at *; go_simp))
      go_ret
      exact ⟨rfl, hM.below⟩
  · have e1 : decide (a < 1) = true := by simp; omega
    have hM := Mv.nil w
    have HLV : Hid (∀ u, Calls Try.prog 5 #[] u fun e w' => e = .returned (.bool true) ∧ Below u.heap.size u w') := lives_any
    clear hi hp hk h1 wa wb
    go_enter Try.func3, Try.ntmps3
    repeat' (first | (go_big_may; first | (refine v_box rfl rfl rfl ?_; intro u xm hN; replace hM := hM.new hN (by decide); clear hN)) | go_values | go_skip | go_guarded | go_step | go_upon | (simp only [Int.not_lt, Int.not_le] at *; go_simp))
    refine (HLV.out _).mono ?_
    rintro r u4 ⟨rfl, hv⟩
    replace hM := hM.call hv
    clear hv
    repeat' (first | go_values | go_skip | go_guarded | go_step | go_upon | (simp only [Int.not_lt, Int.not_le] at *; go_simp))
    go_ret
    exact ⟨rfl, hM.below⟩
end Go.Proofs.Ythjmcopknkemnab.hostCuts
