/- PipeAll: as many good fates as there are texts, and all were taken, whatever other fates stood between. -/
import Derived.Test.YtgnffifohdgekaaPipL
namespace Go.Proofs.Ytgnffifohdgekaa.pipeAll
open Go.RowKit Go.Proofs.Ytgnffifohdgekaa.pipe
set_option linter.unusedVariables false
set_option linter.unusedSimpArgs false
set_option maxRecDepth 100000

theorem rn_at {T : List ByteArray} {F : List Int} (h : rnC T F = 0) : rnP T F = atP T (cnt T.length F) := by
  unfold rnP; rw [if_pos h, run_cnt]
theorem all_taken {T : List ByteArray} {F : List Int} (h : rnC T F = 0) (hg : T.length ≤ gds F) : (rnP T F).L.length = 0 ∧ (rnP T F).G = T := by
  rw [rn_at h]
  have h1 := told_cnt T.length F
  have h2 := okc_cnt T.length F
  obtain ⟨h3, h4, h5⟩ := h2
  refine ⟨by rw [atP_left]; omega, ?_⟩
  show T.take _ = T
  exact List.take_of_length_le (by omega)
theorem some_left {T : List ByteArray} {F : List Int} (h : rnC T F = 0) (hg : gds F < T.length) : (rnP T F).L.length = T.length - gds F := by
  rw [rn_at h, atP_left, told_cnt]; omega
theorem gds_drop {F : List Int} {k : Nat} (h : k < F.length) : gds (F.drop k) = gds (F.drop (k + 1)) + (if F[k] = 1 then 1 else 0) := by
  rw [List.drop_eq_getElem_cons h, gds_cons]
theorem gds_le (F : List Int) : gds F ≤ F.length := List.countP_le_length
set_option maxHeartbeats 4000000 in
theorem walk (vT : Value) (T : List ByteArray) (vF : Value) (F : List Int) (w : World) (hT : Rts w vT T) (hF : Ris w vF F) :
    Calls Try.prog 8 #[vT, vF] w fun e w' => e = .returned (.bool true) ∧ Below w.heap.size w w' := by
  have HR : Hid (Calls Try.prog 14 #[vT, vF] w fun e w' => ∃ qL qG, e = .returned (.tuple #[ppV (rnP T F).s (rnP T F).q qL qG, .int .i64 (rnC T F)]) ∧ Rp w' (rnP T F) qL qG ∧ Below w.heap.size w w') := (run_any vT vF T F w hT hF).mono fun e w' h => h.read
  have HLI : Hid (∀ u, Calls Try.prog 22 #[] u fun e w' => e = .returned (.bool true) ∧ Below u.heap.size u w') := lives_any
  have HT : Hid (Rts w vT T) := hT
  have HF : Hid (Ris w vF F) := hF
  obtain ⟨ta, tc, rfl, htl, htm⟩ := hT.form
  obtain ⟨fa, fc, rfl, hfl, hfm, _⟩ := hF
  unfold maxLen at htm hfm
  obtain ⟨tn, htn⟩ : ∃ n, T.length = n := ⟨_, rfl⟩
  obtain ⟨fn, hfn⟩ : ∃ n, F.length = n := ⟨_, rfl⟩
  have HTN : Hid (T.length = tn) := htn
  have HFN : Hid (F.length = fn) := hfn
  rw [htn] at HR HT htl ⊢
  rw [hfn] at HR HF hfl ⊢
  clear hT htn hfn
  go_enter Try.func8, Try.ntmps8
  go_wp2_with fail
  refine HR.out.mono ?_
  rintro e u ⟨qL, qG, rfl, hR, hb⟩
  obtain ⟨u1, uf, hu1, huf, hY1, hYf, hbf⟩ := pp_laid u (rnP T F).s (rnP T F).q qL qG
  have HQ : Hid (∀ v, Below uf.heap.size uf v → Rp v (rnP T F) qL qG ∧ v.heap[u.heap.size]? = some (ppO (rnP T F).s (rnP T F).q qL qG)) := fun v hv => ⟨hR.below (bsq hbf hv), keep hYf hv⟩
  have HBf : Hid (Below w.heap.size w uf) := bsq hb hbf
  obtain ⟨b1, d1, rfl, _, _⟩ := hR.1.form
  obtain ⟨b2, d2, rfl, _, _⟩ := hR.2.form
  obtain ⟨⟨hz1, y0, y1, y2, y3⟩, g0, g1, g2, g3⟩ := box4 hY1
  obtain ⟨m1, hm1⟩ : ∃ n, (rnP T F).L.length = n := ⟨_, rfl⟩
  have HM1 : Hid ((rnP T F).L.length = m1) := hm1
  rw [hm1] at HQ huf ⊢
  generalize (rnP T F).G.length = m2 at *
  generalize (rnP T F).s = s' at *
  generalize (rnP T F).q = q' at *
  obtain ⟨z, hzz⟩ : ∃ z, rnC T F = z := ⟨_, rfl⟩
  have HZ : Hid (rnC T F = z) := hzz
  rw [hzz]
  clear hR hb hY1 hYf hbf HR hm1 hzz
  go_wp2
  try rw [huf]
  clear huf hu1 y0 y1 y2 y3 g0 g1 g2 g3
  go_loopw [7, 18] (fun mv i wr => ∃ (k m : Nat), k ≤ fn ∧ m ≤ k ∧ mv = .int .i64 (m : Int) ∧ i = .int .i64 (k : Int) ∧ uf = wr ∧ Hid (m + gds (F.drop k) = gds F)) (fun _ i _ => fn - (intOf i).toNat)
  case atStart => exact ⟨0, 0, Nat.zero_le _, Nat.le_refl _, rfl, rfl, rfl, by show _ = _; simp⟩
  case round =>
    obtain ⟨k, m, hk, hmk, rfl, rfl, rfl, HG⟩ := hrel
    by_cases hlt : k < fn
    · have hkF : k < F.length := by have := HFN.out; omega
      obtain ⟨x, hx⟩ : ∃ x, F[k]? = some x := ⟨F[k], List.getElem?_eq_getElem hkF⟩
      have hxk : F[k] = x := (List.getElem?_eq_some_iff.1 hx).2
      obtain ⟨g, off, rfl, hcell⟩ := HF.out.at k x hx
      have cF := hcell uf HBf.out
      have HG2 : Hid (m + (gds (F.drop (k + 1)) + (if x = 1 then 1 else 0)) = gds F) := by have := HG.out; rw [gds_drop hkF, hxk] at this; exact this
      clear hcell hx hxk hkF HG
      by_cases h1 : x = 1
      · subst h1
        have HG3 : Hid (m + 1 + gds (F.drop (k + 1)) = gds F) := by have := HG2.out; rw [if_pos rfl] at this; show _ = _; omega
        clear HG2
        go_wp2
        go_roundw
        case rel => exact ⟨k + 1, m + 1, by omega, by omega, by go_num, by go_num, trivial, HG3.out⟩
        case measure => simp [intOf]; omega
      · have e1 : (x == 1) = false := by simpa using h1
        have HG3 : Hid (m + gds (F.drop (k + 1)) = gds F) := by have := HG2.out; rw [if_neg h1] at this; show _ = _; omega
        clear HG2 h1
        go_wp2
        go_roundw
        case rel => exact ⟨k + 1, m, by omega, by omega, rfl, by go_num, trivial, HG3.out⟩
        case measure => simp [intOf]; omega
    · have HM : Hid (m = gds F) := by have := HG.out; rw [List.drop_eq_nil_of_le (by have := HFN.out; omega)] at this; exact this
      clear HG
      go_wp2_with fail
      refine (HLI.out _).mono ?_
      rintro e u3 ⟨rfl, hb3⟩
      have HB3 : Hid (Below uf.heap.size uf u3) := hb3
      obtain ⟨hR3, hq3⟩ := HQ.out u3 hb3
      obtain ⟨⟨hz3, i0, i1, i2, i3⟩, _⟩ := box4 hq3
      clear hb3 hR3 hq3
      by_cases hz0 : ¬ z = 0
      · have e0 : (z != 0) = true := by simpa using hz0
        clear hz0
        go_wp2_with fail
        refine (HLI.out _).mono ?_
        rintro e u4 ⟨rfl, hb4⟩
        have HB : Hid (Below w.heap.size w u4) := bsq HBf.out (bsq HB3.out hb4)
        clear hb4
        go_wp2
        go_ret
        exact ⟨rfl, HB.out⟩
      have hz0 : z = 0 := Classical.not_not.1 hz0
      subst hz0
      by_cases hge : tn ≤ m
      · obtain ⟨h1, h2⟩ := all_taken HZ.out (by rw [HTN.out, ← HM.out]; exact hge)
        have hm0 : m1 = 0 := by rw [← HM1.out]; exact h1
        subst hm0
        have HE : Hid (Calls Try.prog 13 #[.slice b2 m2 d2, .slice ta tn tc] u3 fun e w' => e = .returned (.bool true) ∧ Below u3.heap.size u3 w') := by
          have := equalT_any (.slice b2 m2 d2) (.slice ta tn tc) _ T u3 (HQ.out u3 HB3.out).1.2 (HT.out.below (bsq HBf.out HB3.out))
          rw [h2, decide_eq_true rfl] at this
          exact this
        have HBu : Hid (Below w.heap.size w u3) := bsq HBf.out HB3.out
        have e1 : decide ((m : Int) ≥ (tn : Int)) = true := by rw [decide_eq_true_eq]; omega
        clear h1 h2 HQ HM HZ HM1 HB3 HBf HF HT HTN HFN
        go_wp2_with fail
        refine HE.out.mono ?_
        rintro e u4 ⟨rfl, hb4⟩
        have HB : Hid (Below w.heap.size w u4) := bsq HBu.out hb4
        clear hb4
        go_wp2
        go_ret
        exact ⟨rfl, HB.out⟩
      · have h1 := some_left HZ.out (by rw [HTN.out, ← HM.out]; omega)
        have hm0 : m1 + m = tn := by have := HM1.out; have := HM.out; have := HTN.out; omega
        have e2 : ((m1 : Int) == (tn : Int) - (m : Int)) = true := by rw [beq_iff_eq]; omega
        have e1 : decide ((m : Int) ≥ (tn : Int)) = false := by rw [decide_eq_false_iff_not]; omega
        have HB : Hid (Below w.heap.size w u3) := bsq HBf.out HB3.out
        clear h1 HQ HM HZ HM1 HB3 HBf HF HT HTN HFN
        go_wp2
        go_ret
        exact ⟨rfl, HB.out⟩
end Go.Proofs.Ytgnffifohdgekaa.pipeAll
