/- DescLong: the walk. -/
import Derived.Test.YtilfenijbbhfjabDescS
import Derived.Deep.RegionHeld3
namespace Go.Proofs.Ytilfenijbbhfjab.descLong
open Go.RowKit Go.PlainAid Go.Proofs.Ytilfenijbbhfjab.lane Go.Proofs.Ytilfenijbbhfjab.desc
set_option linter.unusedVariables false

set_option maxRecDepth 100000 in
set_option maxHeartbeats 4000000 in
theorem walk (a0 : Cf) (c0 : Value) (L0 : FL) (w : World) (hc0 : Rc w c0 a0 L0) :
    Calls Try.prog 6 #[cfV a0 c0] w fun e w' => e = .returned (.bool true) ∧ Below w.heap.size w w' := by
  have HL : Hid (∀ w : World, Calls Try.prog 12 #[] w fun e w' => e = .returned (.bool true) ∧ Below w.heap.size w w') := descLives_any
  obtain ⟨w0, hw0⟩ : ∃ w0, w.alloc (.cells #[.int .i64 a0.va, .int .i64 a0.na, .int .i64 a0.atr, .int .i64 a0.po, c0] 26) = w0 := ⟨_, rfl⟩
  have hb0 : Below w.heap.size w w0 := by rw [← hw0]; exact balloc _ _
  obtain ⟨x0, x1, x2, x3, x4⟩ := box5 (show w0.heap[w.heap.size]? = some (.cells #[.int .i64 a0.va, .int .i64 a0.na, .int .i64 a0.atr, .int .i64 a0.po, c0] 26) by rw [← hw0]; exact (MapKept.heap_alloc w _).1)
  have HC0 : Hid (Rc w0 c0 a0 L0) := hc0.below hb0
  have HW : Hid (Calls Try.prog 11 #[cfV a0 c0] w0 fun e w' => e = .returned (.tuple #[.string (wcT a0), .int .i64 (chkC a0)]) ∧ Below w0.heap.size w0 w') := writeConfig_any a0 c0 L0 w0 HC0.out
  have HB0 : Hid (Below w.heap.size w w0) := hb0
  obtain ⟨a, n0, cap, rfl⟩ : ∃ a n c, c0 = .slice a n c := by obtain ⟨a, c, h, _⟩ := hc0.fs.row; exact ⟨_, _, _, h⟩
  by_cases hz : chkC a0 = 0
  · have hok := chkC_ok hz
    have hbb : ∀ f ∈ a0.fs, BB f.ex := fun f hf => by
      rw [← hc0.eq] at hf
      obtain ⟨q, hq, rfl⟩ := List.mem_map.1 hf
      exact (hc0.fs.all q hq).bb
    have hbt := byt_confL hok hbb
    have hcl := confL_le hok
    have hsp := split_confL hok
    have hT : wcT a0 = strOfNums (confL a0) := by unfold wcT; rw [if_pos hz]
    rw [hz, hT] at HW
    have hns := nums_str _ hbt
    have hss := str_size (confL a0)
    have HS : Hid (∀ w : World, Calls Try.prog 16 #[.string (strOfNums (confL a0))] w fun e w' => ∃ b d, e = .returned (.tuple #[.slice b (confP a0).length d, .int .i64 0]) ∧ Below w.heap.size w w') := fun w => by
      refine (split_any (strOfNums (confL a0)) w (by rw [hss]; unfold maxLen; omega)).mono ?_
      rintro e w' ⟨v, rfl, h1, h2⟩
      rw [hns] at h1 ⊢
      have e1 : splC (confL a0) = 0 := by unfold splC; rw [if_neg (by omega), hsp]
      have e2 : splP (confL a0) = confP a0 := by unfold splP; rw [if_neg (by omega), hsp]
      rw [e2] at h1
      obtain ⟨b, d, rfl, _, _⟩ := own_form h1
      rw [e1]
      exact ⟨b, d, rfl, h2⟩
    have hpl : (confP a0).length = 1 + (facesP 0 a0.fs).length := by rw [confP, List.length_cons]; omega
    have hll := confL_length a0
    rw [hll] at hss hcl
    obtain ⟨T, hTT⟩ : ∃ T, strOfNums (confL a0) = T := ⟨_, rfl⟩
    rw [hTT] at HW HS hss
    have heq := hc0.eq
    rw [← heq] at hpl hll hss hcl
    have hfo := hok.fs
    rw [← heq] at hfo
    have hlen := hok.len
    rw [← heq, List.length_map] at hlen
    obtain ⟨va, na, atr, po, fs⟩ := a0
    simp only at *
    obtain ⟨M, hM⟩ : ∃ M, (confP ⟨va, na, atr, po, fs⟩).length = M := ⟨_, rfl⟩
    rw [hM] at HS hpl
    have HPL : Hid (M = 1 + (facesP 0 (L0.map Prod.fst)).length) := hpl
    have HSS : Hid (T.size = 9 + (facesL 0 (L0.map Prod.fst)).length) := hss
    have hTz : T.size ≤ 413 := by omega
    have HFO : Hid (∀ q ∈ L0, FOk q.1) := fun q hq => hfo q.1 (List.mem_map.2 ⟨q, hq, rfl⟩)
    clear hz hb0 hok hbb hbt hsp hT hns hll hss hcl hTT hfo hpl hM
    go_enter Try.func6, Try.ntmps6
    go_wp2_with fail
    refine HW.out.mono ?_
    rintro e wa ⟨rfl, ha⟩
    have HBa : Hid (Below w0.heap.size w0 wa) := ha
    clear ha
    go_wp2_with fail
    refine (HL.out _).mono ?_
    rintro e W ⟨rfl, hb⟩
    have hbW : Below w0.heap.size w0 W := bsq HBa.out hb
    have HBW : Hid (Below w.heap.size w W) := bsq HB0.out hbW
    have y4 := kc hbW x4
    have HRW : Hid (Rfs W (.slice a n0 cap) L0) := (HC0.out.below hbW).fs
    obtain ⟨a', cap', hv, hlc, hcm, hcell⟩ := HRW.out.cell
    injection hv with ea en ec
    subst ea en ec
    have HC : Hid (∀ u, Below W.heap.size W u → ∀ j q, L0[j]? = some q → ∃ g off, a = some ⟨g, off, none⟩ ∧ u.cell? ⟨g, off + j * 6, none⟩ = some (.int .i64 q.1.cl) ∧ u.cell? ⟨g, off + j * 6 + 1, none⟩ = some (.int .i64 q.1.su) ∧ u.cell? ⟨g, off + j * 6 + 2, none⟩ = some (.int .i64 q.1.pr) ∧ u.cell? ⟨g, off + j * 6 + 3, none⟩ = some (.int .i64 q.1.nm) ∧ u.cell? ⟨g, off + j * 6 + 4, none⟩ = some q.2.1 ∧ u.cell? ⟨g, off + j * 6 + 5, none⟩ = some q.2.2) := by
      intro u hu j q hq
      obtain ⟨g, off, ha, k0, k1, k2, k3, k4, k5⟩ := hcell j q hq
      exact ⟨g, off, ha, kc hu k0, kc hu k1, kc hu k2, kc hu k3, kc hu k4, kc hu k5⟩
    have HRf : Hid (∀ u, Below W.heap.size W u → ∀ q ∈ L0, Rf u q) := fun u hu q hq => (HRW.out.all q hq).below hu
    unfold maxLen at hcm
    obtain ⟨n, hn⟩ : ∃ n, L0.length = n := ⟨_, rfl⟩
    have HN : Hid (L0.length = n) := hn
    rw [hn] at hlc hlen y4 ⊢
    clear hb hbW HBa x0 x1 x2 x3 x4 hw0 HC0 HRW hcell hn HB0
    go_wp2
    go_loopw [5, 6, 25] (fun nv bv i wr => ∃ (k p s : Nat), k ≤ n ∧ i = .int .i64 (k : Int) ∧ nv = .int .i64 (p : Int) ∧ bv = .int .i64 (s : Int) ∧ p ≤ 1 + 7 * k ∧ s ≤ 9 + 101 * k ∧ Below W.heap.size W wr ∧ Hid (p + (facesP 0 ((L0.drop k).map Prod.fst)).length = M) ∧ Hid (s + (facesL 0 ((L0.drop k).map Prod.fst)).length = T.size)) (fun _ _ i _ => n - (intOf i).toNat)
    case atStart => exact ⟨0, 1, 9, Nat.zero_le _, rfl, rfl, rfl, by omega, by omega, Below.refl _ _, by have := HPL.out; show _ = _; rw [List.drop_zero]; omega, by have := HSS.out; show _ = _; rw [List.drop_zero]; omega⟩
    case round =>
      obtain ⟨k, p, s, hk, rfl, rfl, rfl, hp, hs, hbr, HP, HQ⟩ := hrel
      have hzr : W.heap.size ≤ wr.heap.size := hbr.size
      by_cases hlt : k < n
      · have hk1 : k < L0.length := by have := HN.out; omega
        obtain ⟨q, hq⟩ : ∃ q, L0[k]? = some q := ⟨L0[k], List.getElem?_eq_getElem hk1⟩
        obtain ⟨g, off, rfl, k0, k1, k2, k3, k4, k5⟩ := HC.out wr hbr k q hq
        have hqm := List.mem_of_getElem? hq
        have hfo := HFO.out q hqm
        have hP := HP.out
        have hQ := HQ.out
        rw [List.drop_eq_getElem_cons hk1, (List.getElem?_eq_some_iff.1 hq).2, List.map_cons, facesP_cons, facesP_any _ (0 + 1) 0] at hP
        rw [List.drop_eq_getElem_cons hk1, (List.getElem?_eq_some_iff.1 hq).2, List.map_cons, facesL_cons, facesL_any _ (0 + 1) 0] at hQ
        obtain ⟨w3, hw3⟩ : ∃ w3, wr.alloc (.cells #[.int .i64 q.1.cl, .int .i64 q.1.su, .int .i64 q.1.pr, .int .i64 q.1.nm, q.2.1, q.2.2] 43) = w3 := ⟨_, rfl⟩
        have hb3 : Below wr.heap.size wr w3 := by rw [← hw3]; exact balloc _ _
        have hbW3 : Below W.heap.size W w3 := hbr.trans (hb3.mono hzr)
        obtain ⟨e0, e1, e2, e3, e4, e5⟩ := box6 (show w3.heap[wr.heap.size]? = some (.cells #[.int .i64 q.1.cl, .int .i64 q.1.su, .int .i64 q.1.pr, .int .i64 q.1.nm, q.2.1, q.2.2] 43) by rw [← hw3]; exact (MapKept.heap_alloc wr _).1)
        have hRf := HRf.out w3.drew hbW3.drew q hqm
        have hxl := hfo.exl
        have hnl := hfo.enl
        have hfl := flatten_le q.1.ex 32 (fun x hx => by have := (exOk_iff x).1 (hfo.ex x hx); omega)
        have hfl2 : q.1.ex.flatten.length ≤ 64 := by omega
        have HJ : Hid (Calls Try.prog 15 #[q.2.1, .string ⟨#[]⟩] w3.drew fun e w' => e = .returned (.string (strOfNums q.1.ex.flatten)) ∧ Below w3.drew.heap.size w3.drew w') := join_any _ _ _ hRf.ex (by omega) (by omega)
        obtain ⟨ve1, ve3, hve, _⟩ := hRf.ex
        obtain ⟨vd1, vd3, hvd, _⟩ := hRf.en
        have hJz := str_size q.1.ex.flatten
        obtain ⟨J, hJ⟩ : ∃ J, strOfNums q.1.ex.flatten = J := ⟨_, rfl⟩
        rw [hJ] at HJ hJz
        rw [← hJz] at hQ hfl2
        obtain ⟨nx, hnx⟩ : ∃ m, q.1.ex.length = m := ⟨_, rfl⟩
        obtain ⟨nd, hnd⟩ : ∃ m, q.1.en.length = m := ⟨_, rfl⟩
        rw [hnx] at hP hve hxl
        rw [hnd] at hP hQ hvd hnl
        have HH1 : Hid (p + 1 + nx + nd + (facesP 0 ((L0.drop (k + 1)).map Prod.fst)).length = M) := by show _ = _; omega
        have HH2 : Hid (s + 9 + 7 * nd + J.size + (facesL 0 ((L0.drop (k + 1)).map Prod.fst)).length = T.size) := by show _ = _; omega
        have HB3 : Hid (Below W.heap.size W w3) := hbW3
        obtain ⟨⟨cl, su, pr, nm, ex, en⟩, ve, vd⟩ := q
        simp only at *
        subst hve hvd
        have q1 : w3.drew.cell? ⟨wr.heap.size, 4, none⟩ = some (.slice ve1 nx ve3) := e4
        have q2 : w3.drew.cell? ⟨wr.heap.size, 5, none⟩ = some (.slice vd1 nd vd3) := e5
        have q3 : Hid (Below W.heap.size W w3.drew) := HB3.out.drew
        have r1 := wrap_small ((p : Int) + 1) (by omega) (by omega)
        have r2 := wrap_small ((p : Int) + 1 + (nx : Int)) (by omega) (by omega)
        have r3 := wrap_small ((p : Int) + 1 + (nx : Int) + (nd : Int)) (by omega) (by omega)
        have r4 := wrap_small ((s : Int) + 9) (by omega) (by omega)
        have r5 := wrap_small (7 * (nd : Int)) (by omega) (by omega)
        have r6 := wrap_small ((s : Int) + 9 + 7 * (nd : Int)) (by omega) (by omega)
        have r7 := wrap_small ((s : Int) + 9 + 7 * (nd : Int) + (J.size : Int)) (by omega) (by omega)
        clear HC HFO HRf HP HQ hP hQ hq hqm hfo hbr hb3 hbW3 hRf hfl hJ hJz hnx hnd
        go_wp2_with fail
        go_region_held3 (fun w' => w'.cell? ⟨wr.heap.size, 4, none⟩ = some (.slice ve1 nx ve3) ∧ w'.cell? ⟨wr.heap.size, 5, none⟩ = some (.slice vd1 nd vd3) ∧ Hid (Below W.heap.size W w')) ((refine ⟨?_, ?_, ?_⟩ <;> assumption))
          (first | (go_at_call 15; refine HJ.out.mono ?_; rintro r v1 ⟨rfl, hb1⟩; have t1 : Hid (Below W.heap.size W v1) := q3.out.trans (hb1.mono q3.out.size); have t2 : v1.cell? ⟨wr.heap.size, 4, none⟩ = some (.slice ve1 nx ve3) := kc hb1 q1; have t3 : v1.cell? ⟨wr.heap.size, 5, none⟩ = some (.slice vd1 nd vd3) := kc hb1 q2; clear hb1))
        all_goals go_wp2
        all_goals go_roundw
        case rel => exact ⟨k + 1, p + 1 + nx + nd, s + 9 + 7 * nd + J.size, by omega, by go_num, by go_num, by go_num, by omega, by omega, t1.out, HH1, HH2⟩
        case measure => simp [intOf]; omega
      · have hP := HP.out
        have hQ := HQ.out
        rw [List.drop_eq_nil_of_le (by have := HN.out; omega)] at hP hQ
        have hP2 : p = M := hP
        have hQ2 : s = T.size := hQ
        subst hP2
        have hQ3 : ((T.size : Int) == (s : Int)) = true := by simp; omega
        have HBr : Hid (Below w.heap.size w wr) := HBW.out.trans (hbr.mono HBW.out.size)
        clear HP HQ hP hQ HC HFO HRf hbr
        go_wp2_with fail
        refine (HS.out _).mono ?_
        rintro r w5 ⟨b5, d5, rfl, h5⟩
        have HB5 : Hid (Below w.heap.size w w5) := bsq HBr.out h5
        clear h5
        go_wp2
        go_ret
        exact ⟨rfl, HB5.out⟩
  · have hzz : (chkC a0 != 0) = true := by simpa using hz
    generalize chkC a0 = z at *
    generalize wcT a0 = T at *
    obtain ⟨va, na, atr, po, fs⟩ := a0
    simp only at *
    clear hz hc0 HC0 hb0
    go_enter Try.func6, Try.ntmps6
    go_wp2_with fail
    refine HW.out.mono ?_
    rintro e wa ⟨rfl, ha⟩
    have HBa : Hid (Below w.heap.size w wa) := bsq HB0.out ha
    clear ha
    go_wp2_with fail
    refine (HL.out _).mono ?_
    rintro e wb ⟨rfl, hb⟩
    have HBb : Hid (Below w.heap.size w wb) := bsq HBa.out hb
    clear hb
    go_wp2_with fail
    refine (HL.out _).mono ?_
    rintro e wc ⟨rfl, hc⟩
    have HBc : Hid (Below w.heap.size w wc) := bsq HBb.out hc
    clear hc
    go_wp2
    go_ret
    exact ⟨rfl, HBc.out⟩
end Go.Proofs.Ytilfenijbbhfjab.descLong
