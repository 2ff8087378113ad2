/- desc: SameConfig of two configurations that are alike. -/
import Derived.Test.YtebaepkghbihkaaDescX
namespace Go.Proofs.Ytebaepkghbihkaa.desc
open Go.RowKit Go.PlainAid Go.Proofs.Ytebaepkghbihkaa.lane
set_option linter.unusedVariables false
set_option linter.unusedSimpArgs false

set_option maxRecDepth 100000 in
set_option maxHeartbeats 2000000 in
theorem equalE_same (v1 v2 : Value) (es : List En) (w : World) (h1 : Rns w v1 es) (h2 : Rns w v2 es) :
    Calls Try.prog 48 #[v1, v2] w fun e w' => e = .returned (.bool true) ∧ Below w.heap.size w w' := by
  obtain ⟨a, c, rfl, hlc, hcm, hc⟩ := h1.cell
  obtain ⟨b, d, rfl, hld, hdm, hd⟩ := h2.cell
  unfold maxLen at hcm hdm
  obtain ⟨n, hn⟩ : ∃ n, es.length = n := ⟨_, rfl⟩
  rw [hn] at hlc hld ⊢
  have HN : Hid (es.length = n) := hn
  have HA : Hid _ := hc
  have HB : Hid _ := hd
  clear h1 h2 hc hd hn
  go_enter Try.func48, Try.ntmps48
  go_wp2
  go_loopw [13] (fun i wr => ∃ (k q : Nat), k ≤ n ∧ i = .int .i64 (k : Int) ∧ wr = w.drewN q) (fun i _ => n - (intOf i).toNat)
  case atStart => exact ⟨0, 0, Nat.zero_le _, rfl, rfl⟩
  case round =>
    obtain ⟨k, q, hk, rfl, rfl⟩ := hrel
    by_cases hlt : k < n
    · have hk1 : k < es.length := by have := HN.out; omega
      obtain ⟨e, he⟩ : ∃ e, es[k]? = some e := ⟨es[k], List.getElem?_eq_getElem hk1⟩
      obtain ⟨g, off, rfl, c0, c1, c2, c3, c4⟩ := HA.out k e he
      obtain ⟨g', off', rfl, d0, d1, d2, d3, d4⟩ := HB.out k e he
      obtain ⟨ad, inw, kd, mx, iv⟩ := e
      simp only at c0 c1 c2 c3 c4 d0 d1 d2 d3 d4
      clear HA HB HN he hk1
      go_wp2
      go_region
      go_wp2
      go_roundw
      case rel => exact ⟨k + 1, q + _, by omega, by go_num, rfl⟩
      case measure => simp [intOf]; omega
    · go_wp2
      go_ret
      exact ⟨rfl, below_drewN (Below.refl _ _) q⟩
theorem box6r {u : World} {X : Nat} {a b c d : Int} {v x : Value} (h : u.heap[X]? = some (.cells #[.int .i64 a, .int .i64 b, .int .i64 c, .int .i64 d, v, x] 64)) :
    u.cell? ⟨X, 0, none⟩ = some (.int .i64 a) ∧ u.cell? ⟨X, 1, none⟩ = some (.int .i64 b) ∧ u.cell? ⟨X, 2, none⟩ = some (.int .i64 c) ∧ u.cell? ⟨X, 3, none⟩ = some (.int .i64 d) ∧ u.cell? ⟨X, 4, none⟩ = some v ∧ u.cell? ⟨X, 5, none⟩ = some x := by
  refine ⟨?_, ?_, ?_, ?_, ?_, ?_⟩ <;> (rw [cell_of_row u X _ _ _ (0, 0) h]; rfl)
set_option maxRecDepth 100000 in
set_option maxHeartbeats 2000000 in
theorem sameFace_any (f : Fc) (ve vd ve' vd' : Value) (w : World) (h1 : Rf w (f, ve, vd)) (h2 : Rf w (f, ve', vd')) :
    Calls Try.prog 46 #[fcV f ve vd, fcV f ve' vd'] w fun e w' => e = .returned (.bool true) ∧ Below w.heap.size w w' := by
  obtain ⟨cl, su, pr, nm, ex, en⟩ := f
  obtain ⟨wa, hwa⟩ : ∃ wa, w.alloc (.cells #[.int .i64 cl, .int .i64 su, .int .i64 pr, .int .i64 nm, ve, vd] 64) = wa := ⟨_, rfl⟩
  obtain ⟨wb, hwb⟩ : ∃ wb, wa.alloc (.cells #[.int .i64 cl, .int .i64 su, .int .i64 pr, .int .i64 nm, ve', vd'] 64) = wb := ⟨_, rfl⟩
  have hba : Below w.heap.size w wa := by rw [← hwa]; exact balloc _ _
  have hbb : Below wa.heap.size wa wb := by rw [← hwb]; exact balloc _ _
  have HB : Hid (Below w.heap.size w wb) := bsq hba hbb
  have hA : wb.heap[w.heap.size]? = some (.cells #[.int .i64 cl, .int .i64 su, .int .i64 pr, .int .i64 nm, ve, vd] 64) := res_below (by rw [← hwa]; exact (MapKept.heap_alloc w _).1) hbb
  have hB : wb.heap[wa.heap.size]? = some (.cells #[.int .i64 cl, .int .i64 su, .int .i64 pr, .int .i64 nm, ve', vd'] 64) := by rw [← hwb]; exact (MapKept.heap_alloc wa _).1
  obtain ⟨x0, x1, x2, x3, x4, x5⟩ := box6r hA
  obtain ⟨y0, y1, y2, y3, y4, y5⟩ := box6r hB
  have hz1 : w.heap.size < wb.heap.size := (Array.getElem?_eq_some_iff.1 hA).1
  have hz2 : wa.heap.size < wb.heap.size := (Array.getElem?_eq_some_iff.1 hB).1
  have g1 := h1.below HB.out
  have g2 := h2.below HB.out
  have HEX : Hid (Calls Try.prog 47 #[ve, ve'] wb fun e w' => e = .returned (.bool true) ∧ Below wb.heap.size wb w') := by
    have := equalT_any ve ve' ex ex wb g1.ex g2.ex h1.bb h2.bb
    rw [decide_eq_true rfl] at this
    exact this
  have HEE : Hid (∀ u, Below wb.heap.size wb u → Calls Try.prog 48 #[vd, vd'] u fun e w' => e = .returned (.bool true) ∧ Below u.heap.size u w') := fun u hu => equalE_same vd vd' en u (g1.below hu).en (g2.below hu).en
  obtain ⟨ve1, ve2, ve3, rfl⟩ : ∃ a n c, ve = .slice a n c := by obtain ⟨a, c, h, _⟩ := h1.ex; exact ⟨_, _, _, h⟩
  obtain ⟨vd1, vd2, vd3, rfl⟩ : ∃ a n c, vd = .slice a n c := by obtain ⟨a, c, h, _⟩ := h1.en; exact ⟨_, _, _, h⟩
  obtain ⟨wx1, wx2, wx3, rfl⟩ : ∃ a n c, ve' = .slice a n c := by obtain ⟨a, c, h, _⟩ := h2.ex; exact ⟨_, _, _, h⟩
  obtain ⟨wy1, wy2, wy3, rfl⟩ : ∃ a n c, vd' = .slice a n c := by obtain ⟨a, c, h, _⟩ := h2.en; exact ⟨_, _, _, h⟩
  have HX5 : Hid (∀ u, Below wb.heap.size wb u → u.cell? ⟨w.heap.size, 5, none⟩ = some (.slice vd1 vd2 vd3) ∧ u.cell? ⟨wa.heap.size, 5, none⟩ = some (.slice wy1 wy2 wy3)) := fun u hu => ⟨kc hu x5, kc hu y5⟩
  clear hba hbb hA hB g1 g2 h1 h2 hz1 hz2
  go_enter Try.func46, Try.ntmps46
  go_wp2_with fail
  refine HEX.out.mono ?_
  rintro e wc ⟨rfl, hbc⟩
  obtain ⟨q1, q2⟩ := HX5.out wc hbc
  have HE2 : Hid (Calls Try.prog 48 #[.slice vd1 vd2 vd3, .slice wy1 wy2 wy3] wc fun e w' => e = .returned (.bool true) ∧ Below wc.heap.size wc w') := HEE.out wc hbc
  have HBc : Hid (Below w.heap.size w wc) := bsq HB.out hbc
  clear hbc
  go_wp2_with fail
  refine HE2.out.mono ?_
  rintro e wd ⟨rfl, hbd⟩
  have HBd : Hid (Below w.heap.size w wd) := bsq HBc.out hbd
  clear hbd
  go_wp2
  go_ret
  exact ⟨rfl, HBd.out⟩
set_option maxRecDepth 100000 in
set_option maxHeartbeats 4000000 in
theorem eqFunc_same (v1 v2 : Value) (L1 L2 : FL) (w : World) (h1 : Rfs w v1 L1) (h2 : Rfs w v2 L2) (he : L1.map Prod.fst = L2.map Prod.fst) :
    Calls Try.prog 45 #[v1, v2, .func (.func 46) #[] #[]] w fun e w' => e = .returned (.bool true) ∧ Below w.heap.size w w' := by
  have hlen : L1.length = L2.length := by have := congrArg List.length he; simpa using this
  obtain ⟨a, c, rfl, hlc, hcm, hc⟩ := h1.cell
  obtain ⟨b, d, rfl, hld, hdm, hd⟩ := h2.cell
  unfold maxLen at hcm hdm
  obtain ⟨n, hn⟩ : ∃ n, L2.length = n := ⟨_, rfl⟩
  rw [hlen, hn] at hlc ⊢
  rw [hn] at hld
  have HN : Hid (L1.length = n ∧ L2.length = n) := ⟨by omega, hn⟩
  have HA : Hid (∀ u, Below w.heap.size w u → ∀ j q, L1[j]? = some q → ∃ g off, a = some ⟨g, off, none⟩ ∧ u.cell? ⟨g, off + j * 6, none⟩ = some (.int .i64 q.1.cl) ∧ u.cell? ⟨g, off + j * 6 + 1, none⟩ = some (.int .i64 q.1.su) ∧ u.cell? ⟨g, off + j * 6 + 2, none⟩ = some (.int .i64 q.1.pr) ∧ u.cell? ⟨g, off + j * 6 + 3, none⟩ = some (.int .i64 q.1.nm) ∧ u.cell? ⟨g, off + j * 6 + 4, none⟩ = some q.2.1 ∧ u.cell? ⟨g, off + j * 6 + 5, none⟩ = some q.2.2) := by
    intro u hu j q hq
    obtain ⟨g, off, ha, k0, k1, k2, k3, k4, k5⟩ := hc j q hq
    exact ⟨g, off, ha, kc hu k0, kc hu k1, kc hu k2, kc hu k3, kc hu k4, kc hu k5⟩
  have HB : Hid (∀ u, Below w.heap.size w u → ∀ j q, L2[j]? = some q → ∃ g off, b = some ⟨g, off, none⟩ ∧ u.cell? ⟨g, off + j * 6, none⟩ = some (.int .i64 q.1.cl) ∧ u.cell? ⟨g, off + j * 6 + 1, none⟩ = some (.int .i64 q.1.su) ∧ u.cell? ⟨g, off + j * 6 + 2, none⟩ = some (.int .i64 q.1.pr) ∧ u.cell? ⟨g, off + j * 6 + 3, none⟩ = some (.int .i64 q.1.nm) ∧ u.cell? ⟨g, off + j * 6 + 4, none⟩ = some q.2.1 ∧ u.cell? ⟨g, off + j * 6 + 5, none⟩ = some q.2.2) := by
    intro u hu j q hq
    obtain ⟨g, off, ha, k0, k1, k2, k3, k4, k5⟩ := hd j q hq
    exact ⟨g, off, ha, kc hu k0, kc hu k1, kc hu k2, kc hu k3, kc hu k4, kc hu k5⟩
  have HF : Hid (∀ u, Below w.heap.size w u → ∀ (j : Nat) (q q' : Fc × Value × Value), L1[j]? = some q → L2[j]? = some q' → q.1 = q'.1 ∧ Rf u q ∧ Rf u q') := by
    intro u hu j q q' hq hq'
    refine ⟨?_, (h1.all q (List.mem_of_getElem? hq)).below hu, (h2.all q' (List.mem_of_getElem? hq')).below hu⟩
    have e1 : (L1.map Prod.fst)[j]? = some q.1 := by rw [List.getElem?_map, hq]; rfl
    have e2 : (L2.map Prod.fst)[j]? = some q'.1 := by rw [List.getElem?_map, hq']; rfl
    rw [he, e2] at e1
    injection e1 with e1
    exact e1.symm
  clear h1 h2 hc hd hn hlen he
  go_enter Try.func45, Try.ntmps45
  go_wp2
  go_loopw [17] (fun i wr => ∃ (k : Nat), k ≤ n ∧ i = .int .i64 (k : Int) ∧ Below w.heap.size w wr) (fun i _ => n - (intOf i).toNat)
  case atStart => exact ⟨0, Nat.zero_le _, rfl, Below.refl _ _⟩
  case round =>
    obtain ⟨k, hk, rfl, hbr⟩ := hrel
    by_cases hlt : k < n
    · have hk1 : k < L1.length := by have := HN.out.1; omega
      have hk2 : k < L2.length := by have := HN.out.2; omega
      obtain ⟨q, hq⟩ : ∃ q, L1[k]? = some q := ⟨L1[k], List.getElem?_eq_getElem hk1⟩
      obtain ⟨q', hq'⟩ : ∃ q, L2[k]? = some q := ⟨L2[k], List.getElem?_eq_getElem hk2⟩
      obtain ⟨g, off, rfl, c0, c1, c2, c3, c4, c5⟩ := HA.out wr hbr k q hq
      obtain ⟨hqq, hr1, hr2⟩ := HF.out wr hbr k q q' hq hq'
      obtain ⟨f, ve, vd⟩ := q
      obtain ⟨f', ve', vd'⟩ := q'
      simp only at hqq
      subst hqq
      obtain ⟨wa, hwa⟩ : ∃ wa, wr.alloc (.cells #[.int .i64 f.cl, .int .i64 f.su, .int .i64 f.pr, .int .i64 f.nm, ve, vd] 64) = wa := ⟨_, rfl⟩
      obtain ⟨wb, hwb⟩ : ∃ wb, wa.alloc (.cells #[.int .i64 f.cl, .int .i64 f.su, .int .i64 f.pr, .int .i64 f.nm, ve', vd'] 64) = wb := ⟨_, rfl⟩
      have hba : Below wr.heap.size wr wa := by rw [← hwa]; exact balloc _ _
      have hbb : Below wa.heap.size wa wb := by rw [← hwb]; exact balloc _ _
      obtain ⟨g', off', rfl, d0, d1, d2, d3, d4, d5⟩ := HB.out wa (bsq hbr hba) k _ hq'
      have HBb : Hid (Below w.heap.size w wb) := bsq (bsq hbr hba) hbb
      have hA : wb.heap[wr.heap.size]? = some (.cells #[.int .i64 f.cl, .int .i64 f.su, .int .i64 f.pr, .int .i64 f.nm, ve, vd] 64) := res_below (by rw [← hwa]; exact (MapKept.heap_alloc wr _).1) hbb
      have hB : wb.heap[wa.heap.size]? = some (.cells #[.int .i64 f.cl, .int .i64 f.su, .int .i64 f.pr, .int .i64 f.nm, ve', vd'] 64) := by rw [← hwb]; exact (MapKept.heap_alloc wa _).1
      obtain ⟨x0, x1, x2, x3, x4, x5⟩ := box6r hA
      obtain ⟨y0, y1, y2, y3, y4, y5⟩ := box6r hB
      have HS : Hid (Calls Try.prog 46 #[fcV f ve vd, fcV f ve' vd'] wb fun e w' => e = .returned (.bool true) ∧ Below wb.heap.size wb w') := sameFace_any f ve vd ve' vd' wb (hr1.below (bsq hba hbb)) (hr2.below (bsq hba hbb))
      obtain ⟨ve1, ve2, ve3, rfl⟩ : ∃ a n c, ve = .slice a n c := by obtain ⟨a, c, h, _⟩ := hr1.ex; exact ⟨_, _, _, h⟩
      obtain ⟨vd1, vd2, vd3, rfl⟩ : ∃ a n c, vd = .slice a n c := by obtain ⟨a, c, h, _⟩ := hr1.en; exact ⟨_, _, _, h⟩
      obtain ⟨wx1, wx2, wx3, rfl⟩ : ∃ a n c, ve' = .slice a n c := by obtain ⟨a, c, h, _⟩ := hr2.ex; exact ⟨_, _, _, h⟩
      obtain ⟨wy1, wy2, wy3, rfl⟩ : ∃ a n c, vd' = .slice a n c := by obtain ⟨a, c, h, _⟩ := hr2.en; exact ⟨_, _, _, h⟩
      obtain ⟨cl, su, pr, nm, ex, en⟩ := f
      simp only at *
      clear HA HB HF hba hbb hA hB hr1 hr2 hq hq' hk1 hk2 hbr
      go_wp2_with fail
      refine HS.out.mono ?_
      rintro e wc ⟨rfl, hbc⟩
      have HBc : Hid (Below w.heap.size w wc) := bsq HBb.out hbc
      clear hbc
      go_wp2
      go_roundw
      case rel => exact ⟨k + 1, by omega, by go_num, HBc.out⟩
      case measure => simp [intOf]; omega
    · go_wp2
      go_ret
      exact ⟨rfl, hbr⟩
set_option maxRecDepth 100000 in
set_option maxHeartbeats 2000000 in
theorem sameConfig_same (c : Cf) (v1 v2 : Value) (L1 L2 : FL) (w : World) (h1 : Rc w v1 c L1) (h2 : Rc w v2 c L2) :
    Calls Try.prog 20 #[cfV c v1, cfV c v2] w fun e w' => e = .returned (.bool true) ∧ Below w.heap.size w w' := by
  have he : L1.map Prod.fst = L2.map Prod.fst := h1.eq.trans h2.eq.symm
  obtain ⟨va, na, atr, po, fs⟩ := c
  obtain ⟨wa, hwa⟩ : ∃ wa, w.alloc (cfO va na atr po v1) = wa := ⟨_, rfl⟩
  obtain ⟨wb, hwb⟩ : ∃ wb, wa.alloc (cfO va na atr po v2) = wb := ⟨_, rfl⟩
  have hba : Below w.heap.size w wa := by rw [← hwa]; exact balloc _ _
  have hbb : Below wa.heap.size wa wb := by rw [← hwb]; exact balloc _ _
  have HB : Hid (Below w.heap.size w wb) := bsq hba hbb
  have hA : wb.heap[w.heap.size]? = some (cfO va na atr po v1) := res_below (by rw [← hwa]; exact (MapKept.heap_alloc w _).1) hbb
  have hB : wb.heap[wa.heap.size]? = some (cfO va na atr po v2) := by rw [← hwb]; exact (MapKept.heap_alloc wa _).1
  obtain ⟨⟨_, x0, x1, x2, x3, x4⟩, _⟩ := box5f hA
  obtain ⟨⟨_, y0, y1, y2, y3, y4⟩, _⟩ := box5f hB
  have HE : Hid (Calls Try.prog 45 #[v1, v2, .func (.func 46) #[] #[]] wb fun e w' => e = .returned (.bool true) ∧ Below wb.heap.size wb w') := eqFunc_same v1 v2 L1 L2 wb (h1.below HB.out).fs (h2.below HB.out).fs he
  obtain ⟨a1, n1, c1, rfl⟩ : ∃ a n c, v1 = .slice a n c := by obtain ⟨a, c, h, _⟩ := h1.fs.row; exact ⟨_, _, _, h⟩
  obtain ⟨a2, n2, c2, rfl⟩ : ∃ a n c, v2 = .slice a n c := by obtain ⟨a, c, h, _⟩ := h2.fs.row; exact ⟨_, _, _, h⟩
  clear hba hbb hA hB h1 h2 he
  go_enter Try.func20, Try.ntmps20
  go_wp2_with fail
  refine HE.out.mono ?_
  rintro e wc ⟨rfl, hbc⟩
  have HBc : Hid (Below w.heap.size w wc) := bsq HB.out hbc
  clear hbc
  go_wp2
  go_ret
  exact ⟨rfl, HBc.out⟩
end Go.Proofs.Ytebaepkghbihkaa.desc
