/- plugref: what Between, Fate and PipeRun answer. -/
import Derived.Test.YtgnffifohdgekaaPipS
namespace Go.Proofs.Ytgnffifohdgekaa.pipe
open Go.RowKit
set_option linter.unusedVariables false
set_option linter.unusedSimpArgs false
set_option maxRecDepth 100000

theorem between_any (a lo hi : Int) (w : World) : Calls Try.prog 27 #[.int .i64 a, .int .i64 lo, .int .i64 hi] w fun e w' => e = .returned (.bool (decide (lo ≤ a) && decide (a ≤ hi))) ∧ w = w' := by
  cases h1 : decide (lo ≤ a) <;> cases h2 : decide (a ≤ hi) <;> (go_enter Try.func27, Try.ntmps27; go_wp2; go_ret; exact ⟨rfl, rfl⟩)
theorem fate_between (f : Int) : (decide (1 ≤ f) && decide (f ≤ 5)) = fateB f := by
  rw [Bool.eq_iff_iff, fate_iff]; simp
theorem bit_between (f : Int) : (decide (0 ≤ f) && decide (f ≤ 1)) = bitB f := by
  rw [Bool.eq_iff_iff, bit_iff]; simp
theorem refFate_any (f : Int) (w : World) : Calls Try.prog 28 #[.int .i64 f] w fun e w' => e = .returned (.bool (fateB f)) ∧ w = w' := by
  have HB : Hid (Calls Try.prog 27 #[.int .i64 f, .int .i64 1, .int .i64 5] w fun e w' => e = .returned (.bool (fateB f)) ∧ w = w') := by
    have := between_any f 1 5 w
    rw [fate_between] at this
    exact this
  go_enter Try.func28, Try.ntmps28
  go_wp2_with fail
  refine HB.out.mono ?_
  rintro e u ⟨rfl, rfl⟩
  go_wp2
  go_ret
  exact ⟨rfl, rfl⟩
theorem rem_two (k : Nat) : Int.tmod (k : Int) 2 = ((k % 2 : Nat) : Int) := by
  rw [Int.tmod_eq_emod_of_nonneg (by omega)]; omega
theorem rn_cnt {T : List ByteArray} {F : List Int} (h1 : T.length ≤ 200) (h2 : F.length ≤ 1000) (h : F.all fateB = true) : rnC T F = 0 ∧ rnP T F = atP T (cnt T.length F) := by
  obtain ⟨e1, e2⟩ := rnC_ok h1 h2 h
  exact ⟨e1, by rw [e2, run_cnt]⟩
theorem fold_drop {F : List Int} {k n : Nat} {c : Nat × Nat} {x : Int} (h : k < F.length) (hx : F[k] = x) : (F.drop k).foldl (cs n) c = (F.drop (k + 1)).foldl (cs n) (cs n c x) := by
  rw [List.drop_eq_getElem_cons h, List.foldl_cons, hx]
set_option maxHeartbeats 1000000 in
theorem refRun_no (ta fa : Option Addr) (tn tc fn fc : Nat) (w : World) (h : 200 < tn ∨ 1000 < fn) : Calls Try.prog 15 #[.slice ta tn tc, .slice fa fn fc] w (RAns w zP 2) := by
  obtain ⟨w1, hw1, hX1, hb1⟩ := pp_named w 0 0 (.slice none 0 0) (.slice none 0 0)
  obtain ⟨uf, huf, hXf, hBf, _, hsf⟩ := pp_put w1 w.heap.size _ _ _ _ 0 0 (.slice none 0 0) (.slice none 0 0) hX1
  obtain ⟨⟨hz, c0, c1, c2, c3⟩, f0, f1, f2, f3⟩ := box4 hX1
  obtain ⟨⟨zf, x0, x1, x2, x3⟩, _⟩ := box4 hXf
  have HB : Hid (Below w.heap.size w uf) := hBf _ _ (Nat.le_refl _) hb1
  clear hX1 hb1 hXf hBf hsf
  by_cases ht : 200 < tn
  · have e1 : decide ((tn : Int) > 200) = true := by rw [decide_eq_true_eq]; omega
    clear h ht
    go_enter Try.func15, Try.ntmps15
    go_wp2
    try rw [huf]
    exact bodyPost_ret (v := .tuple #[ppV 0 0 (.slice none 0 0) (.slice none 0 0), .int .i64 2]) (by simp [results, Try.results15, go_sem, zf, x0, x1, x2, x3]) rfl (RAns.zero 2 HB.out)
  · have e1 : decide ((tn : Int) > 200) = false := by rw [decide_eq_false_iff_not]; omega
    have e2 : decide ((fn : Int) > 1000) = true := by rw [decide_eq_true_eq]; omega
    clear h ht
    go_enter Try.func15, Try.ntmps15
    go_wp2
    try rw [huf]
    exact bodyPost_ret (v := .tuple #[ppV 0 0 (.slice none 0 0) (.slice none 0 0), .int .i64 2]) (by simp [results, Try.results15, go_sem, zf, x0, x1, x2, x3]) rfl (RAns.zero 2 HB.out)
set_option maxHeartbeats 1000000 in
theorem refRun_yes (ta fa : Option Addr) (tc fc : Nat) (T : List ByteArray) (F : List Int) (w : World) (h1 : T.length ≤ 200) (h2 : F.length ≤ 1000) (hT : Rts w (.slice ta T.length tc) T) (hF : Ris w (.slice fa F.length fc) F) :
    Calls Try.prog 15 #[.slice ta T.length tc, .slice fa F.length fc] w (RAns w (rnP T F) (rnC T F)) := by
  obtain ⟨w1, hw1, hX1, hb1⟩ := pp_named w 0 0 (.slice none 0 0) (.slice none 0 0)
  have HX1 : Hid (w1.heap[w.heap.size]? = some (ppO 0 0 (.slice none 0 0) (.slice none 0 0)) ∧ Below w.heap.size w w1) := ⟨hX1, hb1⟩
  have HIF : Hid (∀ (x : Int) (u : World), Calls Try.prog 28 #[.int .i64 x] u fun e w' => e = .returned (.bool (fateB x)) ∧ u = w') := fun x u => refFate_any x u
  have HL : Hid (T.length ≤ 200 ∧ F.length ≤ 1000) := ⟨h1, h2⟩
  obtain ⟨tn, htn⟩ : ∃ n, T.length = n := ⟨_, rfl⟩
  obtain ⟨fn, hfn⟩ : ∃ n, F.length = n := ⟨_, rfl⟩
  have HTN : Hid (T.length = tn) := htn
  have HFN : Hid (F.length = fn) := hfn
  have HT : Hid (Rts w (.slice ta T.length tc) T) := hT
  have HF : Hid (Ris w (.slice fa F.length fc) F) := hF
  obtain ⟨Z, hZ⟩ : ∃ Z, RAns w (rnP T F) (rnC T F) = Z := ⟨_, rfl⟩
  have HZ : Hid (RAns w (rnP T F) (rnC T F) = Z) := hZ
  rw [hZ]
  rw [htn] at HT h1 ⊢
  rw [hfn] at HF h2 ⊢
  have e1 : decide ((tn : Int) > 200) = false := by rw [decide_eq_false_iff_not]; omega
  have e2 : decide ((fn : Int) > 1000) = false := by rw [decide_eq_false_iff_not]; omega
  obtain ⟨⟨hz, c0, c1, c2, c3⟩, f0, f1, f2, f3⟩ := box4 hX1
  clear hX1 hb1 hT hF htn hfn hZ
  go_enter Try.func15, Try.ntmps15
  go_wp2
  go_loopw [6, 7, 21] (fun tv gv i wr => ∃ (k t g : Nat), k ≤ fn ∧ t ≤ tn ∧ g ≤ tn ∧ tv = .int .i64 (t : Int) ∧ gv = .int .i64 (g : Int) ∧ i = .int .i64 (k : Int) ∧ w1 = wr ∧ Hid ((F.drop k).foldl (cs tn) (t, g) = cnt tn F ∧ (F.drop k).all fateB = F.all fateB)) (fun _ _ i _ => fn - (intOf i).toNat)
  case atStart => exact ⟨0, 0, 0, Nat.zero_le _, Nat.zero_le _, Nat.zero_le _, rfl, rfl, rfl, rfl, rfl, rfl⟩
  case round =>
    obtain ⟨k, t, g, hk, ht, hg, rfl, rfl, rfl, rfl, HA⟩ := hrel
    by_cases hlt : ¬ k < fn
    · have hnil : F.drop k = [] := List.drop_eq_nil_of_le (by have := HFN.out; omega)
      have hA := HA.out
      rw [hnil] at hA
      have hcc : cnt T.length F = (t, g) := by rw [HTN.out]; exact hA.1.symm
      obtain ⟨q1, q2⟩ := rn_cnt HL.out.1 HL.out.2 (by rw [← hA.2]; rfl)
      rw [hcc] at q2
      obtain ⟨a1, hfr, hR1⟩ := HT.out.from t ht
      obtain ⟨hup, hR2⟩ := HT.out.upto g hg
      obtain ⟨n1, hn1⟩ : ∃ n, tn - t = n := ⟨_, rfl⟩
      rw [hn1] at hfr hR1
      generalize tc - t = c5 at hfr hR1
      obtain ⟨uf, huf, hXf, hBf, hkf, hsf⟩ := pp_put w1 w.heap.size _ _ _ _ ((t : Int) % 2) ((g : Int) % 2) (.slice a1 n1 c5) (.slice ta g tc) HX1.out.1
      obtain ⟨⟨zf, x0, x1, x2, x3⟩, _⟩ := box4 hXf
      have HE : Hid (Z (.returned (.tuple #[ppV ((t : Int) % 2) ((g : Int) % 2) (.slice a1 n1 c5) (.slice ta g tc), .int .i64 0])) uf.drew) := by
        show Z _ _
        rw [← HZ.out, q1, q2]
        have hb := (hBf _ _ (Nat.le_refl _) HX1.out.2).drew
        have hpt : (atP T (t, g)).s = (t : Int) % 2 := by show ((t % 2 : Nat) : Int) = _; omega
        have hpg : (atP T (t, g)).q = (g : Int) % 2 := by show ((g % 2 : Nat) : Int) = _; omega
        exact ⟨.slice a1 n1 c5, .slice ta g tc, by rw [hpt, hpg], ⟨hR1.below hb, hR2.below hb⟩, hb⟩
      have x4 := rem_two t
      have x5 := rem_two g
      have ht2 : t ≤ 200 := by omega
      have hg2 : g ≤ 200 := by omega
      clear hnil hA hcc q1 q2 hR1 hR2 hXf hBf hkf hsf HA HT HF HZ HX1 HIF hn1
      go_wp2
      go_region
      go_wp2
      try rw [huf]
      exact bodyPost_ret (v := .tuple #[ppV ((t : Int) % 2) ((g : Int) % 2) (.slice a1 n1 c5) (.slice ta g tc), .int .i64 0]) (by simp [results, Try.results15, go_sem, zf, x0, x1, x2, x3]) rfl HE.out
    · have hlt : k < fn := by omega
      have hkF : k < F.length := by have := HFN.out; omega
      obtain ⟨x, hx⟩ : ∃ x, F[k]? = some x := ⟨F[k], List.getElem?_eq_getElem hkF⟩
      have hxk : F[k] = x := (List.getElem?_eq_some_iff.1 hx).2
      obtain ⟨gg, off, rfl, hcell⟩ := HF.out.at k x hx
      have cF := hcell w1 HX1.out.2
      have hA := HA.out
      rw [fold_drop hkF hxk, all_drop hkF, hxk] at hA
      have HA2 : Hid ((F.drop (k + 1)).foldl (cs tn) (cs tn (t, g) x) = cnt tn F ∧ (fateB x && (F.drop (k + 1)).all fateB) = F.all fateB) := hA
      have HI : Hid (∀ (u : World), Calls Try.prog 28 #[.int .i64 x] u fun e w' => e = .returned (.bool (fateB x)) ∧ u = w') := HIF.out x
      clear hcell hx hxk hkF HA hA
      cases hb : fateB x
      · rw [hb] at HI HA2
        obtain ⟨uf, huf, hXf, hBf, hkf, hsf⟩ := pp_put w1 w.heap.size _ _ _ _ 0 0 (.slice none 0 0) (.slice none 0 0) HX1.out.1
        obtain ⟨⟨zf, x0, x1, x2, x3⟩, _⟩ := box4 hXf
        have HB : Hid (Z (.returned (.tuple #[ppV 0 0 (.slice none 0 0) (.slice none 0 0), .int .i64 1])) uf) := by
          show Z _ _
          have h0 : F.all fateB = false := by have := HA2.out.2; rw [Bool.false_and] at this; exact this.symm
          rw [← HZ.out, (rnC_arg HL.out.1 HL.out.2 h0).1, (rnC_arg HL.out.1 HL.out.2 h0).2]
          exact RAns.zero 1 (hBf _ _ (Nat.le_refl _) HX1.out.2)
        clear hXf hBf HA2 hb hkf hsf
        go_wp2_with fail
        refine (HI.out _).mono ?_
        rintro e u ⟨rfl, rfl⟩
        go_wp2
        try rw [huf]
        exact bodyPost_ret (v := .tuple #[ppV 0 0 (.slice none 0 0) (.slice none 0 0), .int .i64 1]) (by simp [results, Try.results15, go_sem, zf, x0, x1, x2, x3]) rfl HB.out
      · rw [hb] at HI HA2
        have hA := HA2.out
        rw [Bool.true_and] at hA
        by_cases hc : t < tn ∧ (x = 1 ∨ x = 3)
        · have e3 : decide ((t : Int) < (tn : Int)) = true := by rw [decide_eq_true_eq]; omega
          have htl := hc.1
          rcases hc.2 with rfl | rfl
          · have hcs : cs tn (t, g) 1 = (t + 1, t + 1) := by unfold cs; rw [if_pos hc, if_pos rfl]
            rw [hcs] at hA
            have HA3 : Hid ((F.drop (k + 1)).foldl (cs tn) (t + 1, t + 1) = cnt tn F ∧ (F.drop (k + 1)).all fateB = F.all fateB) := hA
            clear hA HA2 hcs hc hb
            go_wp2_with fail
            refine (HI.out _).mono ?_
            rintro e u ⟨rfl, rfl⟩
            go_wp2
            go_roundw
            case rel => exact ⟨k + 1, t + 1, t + 1, by omega, by omega, by omega, by go_num, by go_num, by go_num, trivial, HA3.out⟩
            case measure => simp [intOf]; omega
          · have hcs : cs tn (t, g) 3 = (t, t + 1) := by unfold cs; rw [if_pos hc, if_neg (by decide)]
            rw [hcs] at hA
            have HA3 : Hid ((F.drop (k + 1)).foldl (cs tn) (t, t + 1) = cnt tn F ∧ (F.drop (k + 1)).all fateB = F.all fateB) := hA
            clear hA HA2 hcs hc hb
            go_wp2_with fail
            refine (HI.out _).mono ?_
            rintro e u ⟨rfl, rfl⟩
            go_wp2
            go_roundw
            case rel => exact ⟨k + 1, t, t + 1, by omega, by omega, by omega, rfl, by go_num, by go_num, trivial, HA3.out⟩
            case measure => simp [intOf]; omega
        · have hcs : cs tn (t, g) x = (t, g) := by unfold cs; rw [if_neg hc]
          rw [hcs] at hA
          have HA3 : Hid ((F.drop (k + 1)).foldl (cs tn) (t, g) = cnt tn F ∧ (F.drop (k + 1)).all fateB = F.all fateB) := hA
          clear hA HA2 hcs hb
          by_cases htl : ¬ t < tn
          · have e3 : decide ((t : Int) < (tn : Int)) = false := by rw [decide_eq_false_iff_not]; omega
            clear hc
            go_wp2_with fail
            refine (HI.out _).mono ?_
            rintro e u ⟨rfl, rfl⟩
            go_wp2
            go_roundw
            case rel => exact ⟨k + 1, t, g, by omega, by omega, by omega, rfl, rfl, by go_num, trivial, HA3.out⟩
            case measure => simp [intOf]; omega
          · have e3 : decide ((t : Int) < (tn : Int)) = true := by rw [decide_eq_true_eq]; omega
            have e4 : (x == 1) = false := by simp; omega
            have e5 : (x == 3) = false := by simp; omega
            clear hc
            go_wp2_with fail
            refine (HI.out _).mono ?_
            rintro e u ⟨rfl, rfl⟩
            go_wp2
            go_roundw
            case rel => exact ⟨k + 1, t, g, by omega, by omega, by omega, rfl, rfl, by go_num, trivial, HA3.out⟩
            case measure => simp [intOf]; omega
theorem refRun_any (vT vF : Value) (T : List ByteArray) (F : List Int) (w : World) (hT : Rts w vT T) (hF : Ris w vF F) : Calls Try.prog 15 #[vT, vF] w (RAns w (rnP T F) (rnC T F)) := by
  have hT' := hT
  have hF' := hF
  obtain ⟨ta, tc, rfl, _, _, _⟩ := hT'
  obtain ⟨fa, fc, rfl, _, _, _⟩ := hF'
  by_cases hl : 200 < T.length ∨ 1000 < F.length
  · obtain ⟨e1, e2⟩ := rnC_large (F := F) hl
    rw [e1, e2]
    exact refRun_no ta fa _ tc _ fc w hl
  · exact refRun_yes ta fa tc fc T F w (by omega) (by omega) hT hF
end Go.Proofs.Ytgnffifohdgekaa.pipe
