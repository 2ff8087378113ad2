/- desc: what checkConfig answers. -/
import Derived.Test.YtebaepkghbihkaaDescJ
namespace Go.Proofs.Ytebaepkghbihkaa.desc
open Go.RowKit Go.PlainAid Go.Proofs.Ytebaepkghbihkaa.lane Go.ChangeMaps
set_option linter.unusedVariables false

theorem headC_is (c : Cf) : headC c = (!(c.va == 0) && allB 255 [c.va, c.na, c.atr, c.po]) := by
  rw [Bool.eq_iff_iff]
  simp [headC, allB, inB, byt]
  omega
theorem chkFs_no {tk : List (Int × Bool)} {f : Fc} {r : List Fc} (h : chkF tk f ≠ 0) : chkFs tk (f :: r) = chkF tk f := by rw [chkFs, if_neg h]
theorem chkFs_on {tk : List (Int × Bool)} {f : Fc} {r : List Fc} (h : chkF tk f = 0) : chkFs tk (f :: r) = chkFs (tk ++ f.en.map wayOf) r := by rw [chkFs, if_pos h]
theorem Rf.mapped {w u : World} {b : Nat} {tk : List (Int × Bool)} {q : Fc × Value × Value} (h : Rf w q) (hm : Mp w b tk) (hg : w.grownBy u (some b)) : Rf u q := ⟨Rdg.mapped h.ex hm hg, Rdg.mapped h.en hm hg, h.bb, h.sz⟩

set_option maxRecDepth 100000 in
set_option maxHeartbeats 4000000 in
theorem checkConfig_any (c : Cf) (v : Value) (L : FL) (w : World) (hc : Rc w v c L) :
    Calls Try.prog 52 #[cfV c v] w fun e w' => e = .returned (.int .i64 (chkC c)) ∧ Below w.heap.size w w' := by
  obtain ⟨va, na, atr, po, fs⟩ := c
  obtain ⟨hfs, heq⟩ := hc
  simp only at heq ⊢
  subst heq
  obtain ⟨w0, hw0⟩ : ∃ w0, w.alloc (.cells #[.int .i64 va, .int .i64 na, .int .i64 atr, .int .i64 po, v] 26) = w0 := ⟨_, rfl⟩
  have hb0 : Below w.heap.size w w0 := by rw [← hw0]; exact balloc _ _
  have f0 : w0.cell? ⟨w.heap.size, 0, none⟩ = some (.int .i64 va) := by rw [← hw0, World.cell?_alloc_new]; rfl
  have f1 : w0.cell? ⟨w.heap.size, 1, none⟩ = some (.int .i64 na) := by rw [← hw0, World.cell?_alloc_new]; rfl
  have f2 : w0.cell? ⟨w.heap.size, 2, none⟩ = some (.int .i64 atr) := by rw [← hw0, World.cell?_alloc_new]; rfl
  have f3 : w0.cell? ⟨w.heap.size, 3, none⟩ = some (.int .i64 po) := by rw [← hw0, World.cell?_alloc_new]; rfl
  have f4 : w0.cell? ⟨w.heap.size, 4, none⟩ = some v := by rw [← hw0, World.cell?_alloc_new]; rfl
  have HA : Hid (Calls Try.prog 76 #[.int .i64 255, .slice (some ⟨w0.heap.size, 0, none⟩) 4 4] (w0.alloc (.cells #[.int .i64 va, .int .i64 na, .int .i64 atr, .int .i64 po] 3)) fun e w' => e = .returned (.bool (allB 255 [va, na, atr, po])) ∧ (w0.alloc (.cells #[.int .i64 va, .int .i64 na, .int .i64 atr, .int .i64 po] 3)) = w') :=
    allWithin_any 255 _ [va, na, atr, po] _ (Rig.new w0 [va, na, atr, po] 3 (by simp [maxLen]))
  obtain ⟨w1, hw1⟩ : ∃ w1, w0.alloc (.cells #[.int .i64 va, .int .i64 na, .int .i64 atr, .int .i64 po] 3) = w1 := ⟨_, rfl⟩
  rw [hw1] at HA
  have hb01 : Below w0.heap.size w0 w1 := by rw [← hw1]; exact balloc _ _
  have hb1 : Below w.heap.size w w1 := bsq hb0 hb01
  have g4 : w1.cell? ⟨w.heap.size, 4, none⟩ = some v := kc hb01 f4
  obtain ⟨w2, hw2⟩ : ∃ w2, w1.alloc (.map #[] 0) = w2 := ⟨_, rfl⟩
  have hb12 : Below w1.heap.size w1 w2 := by rw [← hw2]; exact balloc _ _
  have hb2 : Below w.heap.size w w2 := bsq hb1 hb12
  have k4 : w2.cell? ⟨w.heap.size, 4, none⟩ = some v := kc hb12 g4
  have HM2 : Hid (Mp w2 w1.heap.size []) := by rw [← hw2]; exact Mp.made w1
  have HB0 : Hid (Below w.heap.size w w0) := hb0
  have HB1 : Hid (Below w.heap.size w w1) := hb1
  have HB2 : Hid (Below w.heap.size w w2) := hb2
  have hwle : w.heap.size ≤ w1.heap.size := hb1.size
  have hF2 := hfs.below hb2
  obtain ⟨a, cap, rfl, hlc, hcm, hcell⟩ := hF2.cell
  have HC : Hid (∀ j q, L[j]? = some q → ∃ g off, a = some ⟨g, off, none⟩ ∧ w2.cell? ⟨g, off + j * 6, none⟩ = some (.int .i64 q.1.cl) ∧ w2.cell? ⟨g, off + j * 6 + 1, none⟩ = some (.int .i64 q.1.su) ∧ w2.cell? ⟨g, off + j * 6 + 2, none⟩ = some (.int .i64 q.1.pr) ∧ w2.cell? ⟨g, off + j * 6 + 3, none⟩ = some (.int .i64 q.1.nm) ∧ w2.cell? ⟨g, off + j * 6 + 4, none⟩ = some q.2.1 ∧ w2.cell? ⟨g, off + j * 6 + 5, none⟩ = some q.2.2) := hcell
  have HF : Hid (∀ q ∈ L, Rf w2 q) := hF2.all
  unfold maxLen at hcm
  obtain ⟨n, hn⟩ : ∃ n, L.length = n := ⟨_, rfl⟩
  have HN : Hid (L.length = n) := hn
  have hch : chkC ⟨va, na, atr, po, L.map Prod.fst⟩ = if (!(va == 0) && allB 255 [va, na, atr, po]) = false then 1 else if 4 < n then 2 else chkFs [] (L.map Prod.fst) := by
    unfold chkC; rw [headC_is, List.length_map, hn]
  rw [hch]
  rw [hn] at hlc f4 g4 k4 hw0 ⊢
  clear hfs hb0 hb01 hb1 hb12 hb2 hF2 hcell hn hch
  have hmm := @run_makeMap Try.prog
  by_cases h0 : va = 0
  · have e0 : (va == 0) = true := by simpa using h0
    rw [e0]
    rw [show ((!true) && allB 255 [va, na, atr, po]) = false from rfl, if_pos rfl]
    clear HA hw1 h0
    go_enter Try.func52, Try.ntmps52
    go_wp2
    go_ret
    exact ⟨rfl, HB0.out⟩
  have e0 : (va == 0) = false := by simpa using h0
  rw [e0]
  clear h0
  cases hall : allB 255 [va, na, atr, po]
  · rw [hall] at HA
    rw [if_pos (by rfl)]
    clear hall
    go_enter Try.func52, Try.ntmps52
    go_wp2_with fail
    refine HA.out.mono ?_
    rintro e wa ⟨rfl, rfl⟩
    go_wp2
    go_ret
    exact ⟨rfl, HB1.out⟩
  rw [hall] at HA
  rw [if_neg (by simp)]
  clear hall
  by_cases h4 : 4 < n
  · rw [if_pos h4]
    go_enter Try.func52, Try.ntmps52
    go_wp2_with fail
    refine HA.out.mono ?_
    rintro e wa ⟨rfl, rfl⟩
    go_wp2
    go_ret
    exact ⟨rfl, HB1.out⟩
  rw [if_neg h4]
  obtain ⟨z, hz⟩ : ∃ z, chkFs [] (L.map Prod.fst) = z := ⟨_, rfl⟩
  rw [hz]
  have HZ : Hid (chkFs [] (L.map Prod.fst) = z) := hz
  clear hz
  go_enter Try.func52, Try.ntmps52
  go_wp2_with fail
  refine HA.out.mono ?_
  rintro e wa ⟨rfl, rfl⟩
  clear HA
  go_wp2
  go_loopw [31] (fun i wr => ∃ (k : Nat) (tk : List (Int × Bool)), k ≤ n ∧ i = .int .i64 (k : Int) ∧ Mp wr w1.heap.size tk ∧ w2.grownBy wr (some w1.heap.size) ∧ Hid (chkFs tk ((L.drop k).map Prod.fst) = z)) (fun i _ => n - (intOf i).toNat)
  case atStart => exact ⟨0, [], Nat.zero_le _, rfl, HM2.out, World.grownBy.refl _ _, HZ.out⟩
  case round =>
    obtain ⟨k, tk, hk, rfl, hMr, hgr, HR⟩ := hrel
    have HMr : Hid (Mp wr w1.heap.size tk) := hMr
    have HGr : Hid (w2.grownBy wr (some w1.heap.size)) := hgr
    by_cases hlt : k < n
    · have hk1 : k < L.length := by have := HN.out; omega
      obtain ⟨q, hq⟩ : ∃ q, L[k]? = some q := ⟨L[k], List.getElem?_eq_getElem hk1⟩
      obtain ⟨g, off, rfl, c0, c1, c2, c3, c4, c5⟩ := HC.out k q hq
      have d0 := map_cell HM2.out hgr c0
      have d1 := map_cell HM2.out hgr c1
      have d2 := map_cell HM2.out hgr c2
      have d3 := map_cell HM2.out hgr c3
      have d4 := map_cell HM2.out hgr c4
      have d5 := map_cell HM2.out hgr c5
      have hR := HR.out
      rw [List.drop_eq_getElem_cons hk1, (List.getElem?_eq_some_iff.1 hq).2, List.map_cons] at hR
      have hRf : Rf wr q := (HF.out q (List.mem_of_getElem? hq)).mapped HM2.out hgr
      obtain ⟨⟨cl, su, pr, nm, ex, en⟩, ve, vd⟩ := q
      simp only at *
      obtain ⟨w3, hw3⟩ : ∃ w3, wr.alloc (.cells #[.int .i64 cl, .int .i64 su, .int .i64 pr, .int .i64 nm, ve, vd] 64) = w3 := ⟨_, rfl⟩
      have hb3 : Below wr.heap.size wr w3 := by rw [← hw3]; exact balloc _ _
      have e0 : w3.cell? ⟨wr.heap.size, 0, none⟩ = some (.int .i64 cl) := by rw [← hw3, World.cell?_alloc_new]; rfl
      have e1 : w3.cell? ⟨wr.heap.size, 1, none⟩ = some (.int .i64 su) := by rw [← hw3, World.cell?_alloc_new]; rfl
      have e2 : w3.cell? ⟨wr.heap.size, 2, none⟩ = some (.int .i64 pr) := by rw [← hw3, World.cell?_alloc_new]; rfl
      have e3 : w3.cell? ⟨wr.heap.size, 3, none⟩ = some (.int .i64 nm) := by rw [← hw3, World.cell?_alloc_new]; rfl
      have e4 : w3.cell? ⟨wr.heap.size, 4, none⟩ = some ve := by rw [← hw3, World.cell?_alloc_new]; rfl
      have e5 : w3.cell? ⟨wr.heap.size, 5, none⟩ = some vd := by rw [← hw3, World.cell?_alloc_new]; rfl
      have HCF : Hid (Calls Try.prog 77 #[.agg #[.int .i64 cl, .int .i64 su, .int .i64 pr, .int .i64 nm, ve, vd], .map (some w1.heap.size)] w3 fun e w' => e = .returned (.int .i64 (chkF tk ⟨cl, su, pr, nm, ex, en⟩)) ∧ (chkF tk ⟨cl, su, pr, nm, ex, en⟩ = 0 → Mp w' w1.heap.size (tk ++ en.map wayOf)) ∧ w3.grownBy w' (some w1.heap.size)) :=
        checkFace_any (⟨cl, su, pr, nm, ex, en⟩, ve, vd) tk w1.heap.size w3 (hRf.below hb3) (hMr.below hb3)
      have HG3 : Hid (w2.grownBy w3 (some w1.heap.size)) := gtr hgr (gbel hb3)
      obtain ⟨ax, nx, cx, rfl⟩ : ∃ a n c, ve = .slice a n c := by obtain ⟨a, c, h, _⟩ := hRf.ex; exact ⟨_, _, _, h⟩
      obtain ⟨an, nn, cn, rfl⟩ : ∃ a n c, vd = .slice a n c := by obtain ⟨a, c, h, _⟩ := hRf.en; exact ⟨_, _, _, h⟩
      by_cases hcz : chkF tk ⟨cl, su, pr, nm, ex, en⟩ = 0
      · rw [chkFs_on hcz] at hR
        have HH : Hid (chkFs (tk ++ en.map wayOf) ((L.drop (k + 1)).map Prod.fst) = z) := hR
        rw [hcz] at HCF
        clear c0 c1 c2 c3 c4 c5 hR HR hMr hgr HMr HGr hb3 hRf hq HF HC hcz
        go_wp2_with fail
        refine HCF.out.mono ?_
        rintro e w4 ⟨rfl, hm4, hg4⟩
        have HM4 : Hid (Mp w4 w1.heap.size (tk ++ en.map wayOf)) := hm4 (by trivial)
        have HG4 : Hid (w2.grownBy w4 (some w1.heap.size)) := gtr HG3.out hg4
        clear hm4 hg4 HCF
        go_wp2
        go_roundw
        case rel => exact ⟨k + 1, _, by omega, by go_num, HM4.out, HG4.out, HH⟩
        case measure => simp [intOf]; omega
      · rw [chkFs_no hcz] at hR
        rw [hR] at hcz HCF
        have hzz : (z != 0) = true := by simpa using hcz
        clear hR c0 c1 c2 c3 c4 c5 HR hMr hgr HMr HGr hb3 hRf hq HF HC hcz
        go_wp2_with fail
        refine HCF.out.mono ?_
        rintro e w4 ⟨rfl, hm4, hg4⟩
        have HB4 : Hid (Below w.heap.size w w4) := HB2.out.grown (gtr HG3.out hg4) HB2.out.size (fun k hk => by injection hk with hk; omega)
        clear hm4 hg4 HCF
        go_wp2
        go_ret
        exact ⟨rfl, HB4.out⟩
    · have hR := HR.out
      rw [List.drop_eq_nil_of_le (by have := HN.out; omega)] at hR
      have hz : 0 = z := hR
      subst hz
      have HB4 : Hid (Below w.heap.size w wr) := HB2.out.grown hgr HB2.out.size (fun k hk => by injection hk with hk; omega)
      clear hR HR hMr hgr HC HF
      go_wp2
      go_ret
      exact ⟨rfl, HB4.out⟩
end Go.Proofs.Ytebaepkghbihkaa.desc
