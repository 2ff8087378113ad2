/- plugref: what Carried answers. -/
import Derived.Test.YtgnffifohdgekaaStrR
namespace Go.Proofs.Ytgnffifohdgekaa.strike
open Go.RowKit Go.Proofs.Ytgnffifohdgekaa.pipe
set_option linter.unusedVariables false
set_option linter.unusedSimpArgs false
set_option maxRecDepth 100000

theorem cr_two (u : World) (X : Nat) (k : Int) (g0 : ByteArray) (d0 n : Int) (g : ByteArray) (d : Int) (hX : u.heap[X]? = some (crO k g0 d0 n)) :
    ∃ ua, (u.setCell ⟨X, 1, none⟩ (.string g)).setCell ⟨X, 2, none⟩ (.int .i64 d) = ua ∧ ua.heap[X]? = some (crO k g d n) ∧ (∀ (B : Nat) (w0 : World), B ≤ X → Below B w0 u → Below B w0 ua) ∧ ∀ j, j ≠ X → ua.heap[j]? = u.heap[j]? :=
  ⟨_, rfl, csetX 2 _ (csetX 1 _ hX rfl) rfl, fun B w0 hB hb => (hb.setCell hB _).setCell hB _, fun j hj => by rw [heap_setCell_other _ _ _ _ hj, heap_setCell_other _ _ _ _ hj]⟩
theorem cr_code (u : World) (X : Nat) (k0 : Int) (g : ByteArray) (d n0 k n : Int) (hX : u.heap[X]? = some (crO k0 g d n0)) :
    ∃ ua, (u.setCell ⟨X, 0, none⟩ (.int .i64 k)).setCell ⟨X, 3, none⟩ (.int .i64 n) = ua ∧ ua.heap[X]? = some (crO k g d n) ∧ (∀ (B : Nat) (w0 : World), B ≤ X → Below B w0 u → Below B w0 ua) ∧ ∀ j, j ≠ X → ua.heap[j]? = u.heap[j]? :=
  ⟨_, rfl, csetX 3 _ (csetX 0 _ hX rfl) rfl, fun B w0 hB hb => (hb.setCell hB _).setCell hB _, fun j hj => by rw [heap_setCell_other _ _ _ _ hj, heap_setCell_other _ _ _ _ hj]⟩
/-- a product, and what is least -/
theorem least (c n s : Nat) (hc : c ≤ 201) (hn : n ≤ 64) (hs : s ≤ 4096) : ∃ q m : Nat, c * n = q ∧ min q s = m ∧ q ≤ 20000 ∧ m ≤ s ∧ (c : Int) * (n : Int) = (q : Int) ∧ min (s : Int) (q : Int) = (m : Int) ∧ (if (q : Int) < (s : Int) then (q : Int) else (s : Int)) = (m : Int) := by
  have h := Nat.mul_le_mul hc hn
  refine ⟨_, _, rfl, rfl, by omega, by omega, (Int.natCast_mul c n).symm, by omega, ?_⟩
  split <;> omega
theorem cs_good {n : Nat} {c : Nat × Nat} (h : c.1 < n) : cs n c 1 = (c.1 + 1, c.1 + 1) := by
  unfold cs; rw [if_pos ⟨h, .inl rfl⟩, if_pos rfl]
theorem cs_deaf {n : Nat} {c : Nat × Nat} (h : c.1 < n) : cs n c 3 = (c.1, c.1 + 1) := by
  unfold cs; rw [if_pos ⟨h, .inr rfl⟩, if_neg (by decide)]
theorem cs_rest {n : Nat} {c : Nat × Nat} {f : Int} (h1 : ¬ f = 1) (h3 : ¬ f = 3) : cs n c f = c := by
  unfold cs; rw [if_neg (by rintro ⟨_, q | q⟩ <;> contradiction)]
set_option maxHeartbeats 8000000 in
theorem refCarried_any (z : Int) (t : ByteArray) (vF : Value) (F : List Int) (w : World) (ht : t.size ≤ maxLen) (hF : Ris w vF F) :
    Calls Try.prog 21 #[.string t, .int .i64 z, vF] w (CAns w (caV z t F) (caC z t F)) := by
  obtain ⟨w1, hw1, hR1, hb1⟩ := cr_named w 0 ⟨#[]⟩ 0 0
  have HSP : Hid (Calls Try.prog 17 #[.string t, .int .i64 z] w1 fun e w' => ∃ v, e = .returned (.tuple #[v, .int .i64 (spC z t)]) ∧ Txs w' w1.heap.size v (spP z t) ∧ Below w1.heap.size w1 w') := refPieces_any z t w1 ht
  obtain ⟨fa, fc, hv, _, _, _⟩ := id hF
  subst hv
  have HF : Hid (Ris w (.slice fa F.length fc) F) := hF
  obtain ⟨fn, hfn⟩ : ∃ n, F.length = n := ⟨_, rfl⟩
  have HFN : Hid (F.length = fn) := hfn
  obtain ⟨Z, hZ⟩ : ∃ Z, CAns w (caV z t F) (caC z t F) = Z := ⟨_, rfl⟩
  have HZ : Hid (CAns w (caV z t F) (caC z t F) = Z) := hZ
  have HR1 : Hid (w1.heap[w.heap.size]? = some (crO 0 ⟨#[]⟩ 0 0) ∧ Below w.heap.size w w1) := ⟨hR1, hb1⟩
  rw [hfn] at HF ⊢
  rw [hZ]
  obtain ⟨zc, hzc⟩ : ∃ zc, spC z t = zc := ⟨_, rfl⟩
  have HZC : Hid (spC z t = zc) := hzc
  rw [hzc] at HSP
  clear hZ hF hR1 hb1 ht hfn hzc
  go_enter Try.func21, Try.ntmps21
  go_wp2_with fail
  refine HSP.out.mono ?_
  rintro e u1 ⟨v, rfl, hT, hb⟩
  have HX1 : Hid (u1.heap[w.heap.size]? = some (crO 0 ⟨#[]⟩ 0 0) ∧ Below w.heap.size w u1) := ⟨keep HR1.out.1 hb, bsq HR1.out.2 hb⟩
  obtain ⟨ue, hue, hXe, hBe⟩ := cr_put u1 w.heap.size _ _ _ _ 0 ⟨#[]⟩ 0 0 HX1.out.1
  obtain ⟨⟨hz, c0, c1, c2, c3⟩, f0, f1, f2, f3⟩ := cbox HX1.out.1
  obtain ⟨⟨ze, x0, x1, x2, x3⟩, _⟩ := cbox hXe
  have HXE : Hid (Below w.heap.size w ue) := hBe _ _ (Nat.le_refl _) HX1.out.2
  obtain ⟨a, c, rfl, hlc, hcm⟩ := hT.form
  clear hXe hBe HSP HR1
  by_cases h0 : ¬ zc = 0
  · have HA : Hid (Z (.returned (.tuple #[crV 0 ⟨#[]⟩ 0 0, .int .i64 zc])) ue) := by
      show Z _ _
      obtain ⟨h1, h2⟩ := ca_split (F := F) (by rw [HZC.out]; exact h0)
      rw [← HZ.out, h1, h2, HZC.out]
      exact ⟨rfl, HXE.out⟩
    have e1 : (zc != 0) = true := by simpa using h0
    generalize (spP z t).length = n at *
    clear hT hb h0
    go_wp2
    try rw [hue]
    exact bodyPost_ret (v := .tuple #[crV 0 ⟨#[]⟩ 0 0, .int .i64 zc]) (by simp [results, Try.results21, go_sem, ze, x0, x1, x2, x3]) rfl HA.out
  have h0 : zc = 0 := Classical.not_not.1 h0
  subst h0
  obtain ⟨z1, z2, ht4, hsp⟩ := sp_ok HZC.out
  obtain ⟨n, rfl⟩ : ∃ n : Nat, z = (n : Int) := ⟨z.toNat, by omega⟩
  have n1 : 1 ≤ n := by omega
  have n2 : n ≤ 64 := by omega
  rw [hsp, Int.toNat_natCast] at hlc ⊢
  obtain ⟨tn, htn⟩ : ∃ k, (pcs n t).length = k := ⟨_, rfl⟩
  rw [htn] at hlc ⊢
  have htp : 0 < tn := by rw [← htn, pcs_length]; exact Nat.succ_pos _
  have HTN : Hid ((pcs n t).length = tn) := htn
  by_cases hl : 200 < tn ∨ 1000 < fn
  · have HA : Hid (Z (.returned (.tuple #[crV 0 ⟨#[]⟩ 0 0, .int .i64 2])) ue) := by
      show Z _ _
      have h1 : caC (n : Int) t F = 2 := by
        by_cases h2 : 200 < tn
        · exact (ca_large HZC.out (by rw [Int.toNat_natCast, htn]; exact h2)).1
        · rw [ca_fates HZC.out (by rw [Int.toNat_natCast, htn]; exact h2)]
          unfold ckF
          rw [if_pos (by rw [HFN.out]; omega)]
      rw [← HZ.out, ca_err (by rw [h1]; decide), h1]
      exact ⟨rfl, HXE.out⟩
    by_cases h2 : 200 < tn
    · have e1 : decide ((tn : Int) > 200) = true := by rw [decide_eq_true_eq]; omega
      clear hT hb hl hsp htn z1 z2
      go_wp2
      try rw [hue]
      exact bodyPost_ret (v := .tuple #[crV 0 ⟨#[]⟩ 0 0, .int .i64 2]) (by simp [results, Try.results21, go_sem, ze, x0, x1, x2, x3]) rfl HA.out
    · have e1 : decide ((tn : Int) > 200) = false := by rw [decide_eq_false_iff_not]; omega
      have e2 : decide ((fn : Int) > 1000) = true := by rw [decide_eq_true_eq]; omega
      clear hT hb hl hsp htn z1 z2
      go_wp2
      try rw [hue]
      exact bodyPost_ret (v := .tuple #[crV 0 ⟨#[]⟩ 0 0, .int .i64 2]) (by simp [results, Try.results21, go_sem, ze, x0, x1, x2, x3]) rfl HA.out
  have t2 : tn ≤ 200 := by omega
  have f2' : fn ≤ 1000 := by omega
  have e1 : decide ((tn : Int) > 200) = false := by rw [decide_eq_false_iff_not]; omega
  have e2 : decide ((fn : Int) > 1000) = false := by rw [decide_eq_false_iff_not]; omega
  have HCF : Hid (caC (n : Int) t F = ckF F) := ca_fates HZC.out (by rw [Int.toNat_natCast, htn]; omega)
  have HFT : Hid (∀ (x : Int) (u : World), Calls Try.prog 28 #[.int .i64 x] u fun e w' => e = .returned (.bool (fateB x)) ∧ u = w') := fun x u => refFate_any x u
  clear hT hb hl hsp htn z1 z2
  go_wp2
  go_loopw [40] (fun i wr => ∃ k : Nat, k ≤ fn ∧ i = .int .i64 (k : Int) ∧ u1 = wr ∧ Hid ((F.drop k).all fateB = F.all fateB)) (fun i _ => fn - (intOf i).toNat)
  case atStart => exact ⟨0, Nat.zero_le _, rfl, rfl, rfl⟩
  case round =>
    obtain ⟨k, hk, rfl, rfl, HA⟩ := hrel
    by_cases hlt : k < fn
    · have hkF : k < F.length := by have := HFN.out; omega
      obtain ⟨x, hx⟩ : ∃ x, F[k]? = some x := ⟨F[k], List.getElem?_eq_getElem hkF⟩
      have hxk : F[k] = x := (List.getElem?_eq_some_iff.1 hx).2
      obtain ⟨g, off, rfl, hcell⟩ := HF.out.at k x hx
      have cF := hcell u1 HX1.out.2
      have HA2 : Hid ((fateB x && (F.drop (k + 1)).all fateB) = F.all fateB) := by have := HA.out; rw [all_drop hkF, hxk] at this; exact this
      have HI : Hid (∀ (u : World), Calls Try.prog 28 #[.int .i64 x] u fun e w' => e = .returned (.bool (fateB x)) ∧ u = w') := HFT.out x
      clear hcell hx hxk hkF HA
      cases hb : fateB x
      · rw [hb] at HI HA2
        have HB : Hid (Z (.returned (.tuple #[crV 0 ⟨#[]⟩ 0 0, .int .i64 1])) ue) := by
          show Z _ _
          have h0 : F.all fateB = false := by have := HA2.out; rw [Bool.false_and] at this; exact this.symm
          have h1 : caC (n : Int) t F = 1 := by
            rw [HCF.out]; unfold ckF
            rw [if_neg (by rw [HFN.out]; omega), if_pos h0]
          rw [← HZ.out, ca_err (by rw [h1]; decide), h1]
          exact ⟨rfl, HXE.out⟩
        clear HA2 hb
        go_wp2_with fail
        refine (HI.out _).mono ?_
        rintro e u ⟨rfl, rfl⟩
        go_wp2
        try rw [hue]
        exact bodyPost_ret (v := .tuple #[crV 0 ⟨#[]⟩ 0 0, .int .i64 1]) (by simp [results, Try.results21, go_sem, ze, x0, x1, x2, x3]) rfl HB.out
      · rw [hb] at HI HA2
        have HA3 : Hid ((F.drop (k + 1)).all fateB = F.all fateB) := by have := HA2.out; rw [Bool.true_and] at this; exact this
        clear HA2 hb
        go_wp2_with fail
        refine (HI.out _).mono ?_
        rintro e u ⟨rfl, rfl⟩
        go_wp2
        go_roundw
        case rel => exact ⟨k + 1, by omega, by go_num, trivial, HA3.out⟩
        case measure => simp [intOf]; omega
    have hAll : F.all fateB = true := by have := HA.out; rw [List.drop_eq_nil_of_le (by have := HFN.out; omega)] at this; exact this.symm
    have hca : caC (n : Int) t F = 0 := by
      rw [HCF.out]; unfold ckF
      rw [if_neg (by rw [HFN.out]; omega), hAll, if_neg (by decide)]
    obtain ⟨_, _, _, _, hV⟩ := ca_ok hca
    rw [Int.toNat_natCast, HTN.out] at hV
    have HEND : Hid (∀ r uf, gt tn (0, 0) 0 F = r → Below w.heap.size w uf → Z (.returned (.tuple #[crV r.k (t.extract 0 (min (r.c.2 * n) t.size)) ((min (r.c.1 * n) t.size : Nat) : Int) (r.u : Int), .int .i64 0])) uf) := fun r uf hr hb => by
      rw [← HZ.out, hV, hca, hr]
      exact ⟨rfl, hb⟩
    have HAF : Hid (F.all fateB = true) := hAll
    obtain ⟨uo1, uo, huo1, huo, hXo1, hXo, hbo⟩ := cr_laid u1 10 ⟨#[]⟩ 0 (fn : Int)
    have HO : Hid (uo.heap[u1.heap.size]? = some (crO 10 ⟨#[]⟩ 0 (fn : Int)) ∧ uo.heap[w.heap.size]? = some (crO 0 ⟨#[]⟩ 0 0) ∧ Below w.heap.size w uo ∧ w.heap.size < u1.heap.size) := ⟨hXo, keep HX1.out.1 hbo, bsq HX1.out.2 hbo, (Array.getElem?_eq_some_iff.1 HX1.out.1).1⟩
    obtain ⟨⟨hzo1, y0, y1, y2, y3⟩, i0, i1, i2, i3⟩ := cbox hXo1
    clear hXo1 hXo hbo hAll hca hV HA HX1 HXE hue x0 x1 x2 x3 ze c0 c1 c2 c3 f0 f1 f2 f3 hz HCF HFT HZ HZC hw1
    go_wp2
    try rw [huo]
    clear huo huo1 y0 y1 y2 y3 i0 i1 i2 i3 hzo1
    obtain ⟨⟨hzo, y0, y1, y2, y3⟩, i0, i1, i2, i3⟩ := cbox HO.out.1
    go_loopw [12, 13, 14, 54] (fun tv gv rv i wr => ∃ (k ct cg : Nat) (s : Int), k ≤ fn ∧ ct < tn ∧ cg ≤ ct + 1 ∧ 0 ≤ s ∧ s ≤ 2 ∧ tv = .int .i64 (ct : Int) ∧ gv = .int .i64 (cg : Int) ∧ rv = .int .i64 s ∧ i = .int .i64 (k : Int) ∧ uo = wr ∧ Hid ((gt tn (ct, cg) s (F.drop k)).up k = gt tn (0, 0) 0 F)) (fun _ _ _ i _ => fn - (intOf i).toNat)
    case atStart => exact ⟨0, 0, 0, 0, Nat.zero_le _, htp, by omega, by omega, by omega, rfl, rfl, rfl, rfl, rfl, rfl⟩
    case round =>
      obtain ⟨k, ct, cg, s, hk, hct, hcg, s0, s2, rfl, rfl, rfl, rfl, rfl, HG⟩ := hrel
      by_cases hlt : ¬ k < fn
      · have hG := HG.out
        rw [List.drop_eq_nil_of_le (by have := HFN.out; omega), gt_nil] at hG
        obtain ⟨q1, m1, hq1, hm1, hb1, hb2, ep1, em1, ei1⟩ := least (ct) n t.size (by omega) n2 ht4
        obtain ⟨q2, m2, hq2, hm2, hb3, hb4, ep2, em2, ei2⟩ := least (cg) n t.size (by omega) n2 ht4
        obtain ⟨gx, hgx⟩ : ∃ g, t.extract 0 m2 = g := ⟨_, rfl⟩
        obtain ⟨ub, hub, hXb, hBb, hkb⟩ : ∃ ub, uo = ub ∧ ub.heap[u1.heap.size]? = some (crO 10 ⟨#[]⟩ 0 (fn : Int)) ∧ (∀ (B : Nat) (w0 : World), B ≤ u1.heap.size → Below B w0 uo → Below B w0 ub) ∧ ∀ j, j ≠ u1.heap.size → ub.heap[j]? = uo.heap[j]? := ⟨_, rfl, HO.out.1, fun _ _ _ h => h, fun _ _ => rfl⟩
        obtain ⟨ua, hua, hXa, hBa, hka⟩ := cr_two ub u1.heap.size _ _ _ _ gx (m1 : Int) hXb
        have hRa : ua.heap[w.heap.size]? = some (crO 0 ⟨#[]⟩ 0 0) := ((hka _ (by have := HO.out.2.2.2; omega)).trans (hkb _ (by have := HO.out.2.2.2; omega))).trans HO.out.2.1
        have hBw : Below w.heap.size w ua := hBa _ _ (by have := HO.out.2.2.2; omega) (hBb _ _ (by have := HO.out.2.2.2; omega) HO.out.2.2.1)
        obtain ⟨uf, huf, hXf, hBf⟩ := cr_put ua w.heap.size _ _ _ _ 10 gx (m1 : Int) (fn : Int) hRa
        obtain ⟨⟨zb, j0, j1, j2, j3⟩, k0, k1, k2, k3⟩ := cbox hXb
        obtain ⟨⟨za, l0, l1, l2, l3⟩, _⟩ := cbox hXa
        obtain ⟨⟨zr, o0, o1, o2, o3⟩, p0, p1, p2, p3⟩ := cbox hRa
        obtain ⟨⟨zf, x0, x1, x2, x3⟩, _⟩ := cbox hXf
        have HAN : Hid (Z (.returned (.tuple #[crV 10 gx (m1 : Int) (fn : Int), .int .i64 0])) uf) := by
          show Z _ _
          have := HEND.out ⟨(ct, cg), 10, 0 + k⟩ uf hG.symm (hBf _ _ (Nat.le_refl _) hBw)
          simp only at this
          rw [hq1, hq2, hm1, hm2, hgx] at this
          rw [show 0 + k = fn by omega] at this
          exact this
        clear hq1 hm1 hq2 hm2 hXb hBb hkb hXa hBa hka hRa hBw hXf hBf HEND HO hG HF HFN HAF HTN
        subst hub
        go_wp2
        try rw [hua]
        try rw [huf]
        exact bodyPost_ret (v := .tuple #[crV 10 gx (m1 : Int) (fn : Int), .int .i64 0]) (by simp [results, Try.results21, go_sem, zf, x0, x1, x2, x3]) rfl HAN.out
      have hlt : k < fn := by omega
      have hkF : k < F.length := by have := HFN.out; omega
      obtain ⟨x, hx⟩ : ∃ x, F[k]? = some x := ⟨F[k], List.getElem?_eq_getElem hkF⟩
      have hxk : F[k] = x := (List.getElem?_eq_some_iff.1 hx).2
      obtain ⟨g, off, rfl, hcell⟩ := HF.out.at k x hx
      have cF := hcell uo HO.out.2.2.1
      have hfx := (fate_iff x).1 (List.all_eq_true.1 HAF.out x (by rw [← hxk]; exact List.getElem_mem hkF))
      have hG := HG.out
      rw [List.drop_eq_getElem_cons hkF, hxk] at hG
      clear hcell hx hxk hkF HG
      by_cases h5 : x = 5
      · subst h5
        rw [gt_stall] at hG
        obtain ⟨q1, m1, hq1, hm1, hb1, hb2, ep1, em1, ei1⟩ := least (ct) n t.size (by omega) n2 ht4
        obtain ⟨q2, m2, hq2, hm2, hb3, hb4, ep2, em2, ei2⟩ := least (cg) n t.size (by omega) n2 ht4
        obtain ⟨gx, hgx⟩ : ∃ g, t.extract 0 m2 = g := ⟨_, rfl⟩
        obtain ⟨ub, hub, hXb, hBb, hkb⟩ := cr_code uo u1.heap.size _ _ _ _ 8 ((k : Int) + 1) HO.out.1
        obtain ⟨ua, hua, hXa, hBa, hka⟩ := cr_two ub u1.heap.size _ _ _ _ gx (m1 : Int) hXb
        have hRa : ua.heap[w.heap.size]? = some (crO 0 ⟨#[]⟩ 0 0) := ((hka _ (by have := HO.out.2.2.2; omega)).trans (hkb _ (by have := HO.out.2.2.2; omega))).trans HO.out.2.1
        have hBw : Below w.heap.size w ua := hBa _ _ (by have := HO.out.2.2.2; omega) (hBb _ _ (by have := HO.out.2.2.2; omega) HO.out.2.2.1)
        obtain ⟨uf, huf, hXf, hBf⟩ := cr_put ua w.heap.size _ _ _ _ 8 gx (m1 : Int) ((k : Int) + 1) hRa
        obtain ⟨⟨zb, j0, j1, j2, j3⟩, k0, k1, k2, k3⟩ := cbox hXb
        obtain ⟨⟨za, l0, l1, l2, l3⟩, _⟩ := cbox hXa
        obtain ⟨⟨zr, o0, o1, o2, o3⟩, p0, p1, p2, p3⟩ := cbox hRa
        obtain ⟨⟨zf, x0, x1, x2, x3⟩, _⟩ := cbox hXf
        have HAN : Hid (Z (.returned (.tuple #[crV 8 gx (m1 : Int) ((k : Int) + 1), .int .i64 0])) uf) := by
          show Z _ _
          have := HEND.out ⟨(ct, cg), 8, 1 + k⟩ uf hG.symm (hBf _ _ (Nat.le_refl _) hBw)
          simp only at this
          rw [hq1, hq2, hm1, hm2, hgx] at this
          rw [show ((1 + k : Nat) : Int) = (k : Int) + 1 by omega] at this
          exact this
        clear hq1 hm1 hq2 hm2 hXb hBb hkb hXa hBa hka hRa hBw hXf hBf HEND HO hG HF HFN HAF HTN
        go_wp2
        try rw [hub]
        try rw [hua]
        try rw [huf]
        exact bodyPost_ret (v := .tuple #[crV 8 gx (m1 : Int) ((k : Int) + 1), .int .i64 0]) (by simp [results, Try.results21, go_sem, zf, x0, x1, x2, x3]) rfl HAN.out
      by_cases h1 : x = 1
      · subst h1
        have hcs := cs_good (n := tn) (c := (ct, cg)) hct
        simp only at hcs
        by_cases hd : tn ≤ ct + 1
        · rw [gt_done (by decide) (by rw [hcs]; exact hd), hcs] at hG
          have ed : ((ct : Int) + 1 == (tn : Int)) = true := by rw [beq_iff_eq]; omega
          obtain ⟨q1, m1, hq1, hm1, hb1, hb2, ep1, em1, ei1⟩ := least (ct + 1) n t.size (by omega) n2 ht4
          have ep1 : ((ct : Int) + 1) * (n : Int) = (q1 : Int) := by rw [← ep1]; rfl
          obtain ⟨gx, hgx⟩ : ∃ g, t.extract 0 m1 = g := ⟨_, rfl⟩
          obtain ⟨ub, hub, hXb, hBb, hkb⟩ := cr_code uo u1.heap.size _ _ _ _ 0 ((k : Int) + 1) HO.out.1
          obtain ⟨ua, hua, hXa, hBa, hka⟩ := cr_two ub u1.heap.size _ _ _ _ gx (m1 : Int) hXb
          have hRa : ua.heap[w.heap.size]? = some (crO 0 ⟨#[]⟩ 0 0) := ((hka _ (by have := HO.out.2.2.2; omega)).trans (hkb _ (by have := HO.out.2.2.2; omega))).trans HO.out.2.1
          have hBw : Below w.heap.size w ua := hBa _ _ (by have := HO.out.2.2.2; omega) (hBb _ _ (by have := HO.out.2.2.2; omega) HO.out.2.2.1)
          obtain ⟨uf, huf, hXf, hBf⟩ := cr_put ua w.heap.size _ _ _ _ 0 gx (m1 : Int) ((k : Int) + 1) hRa
          obtain ⟨⟨zb, j0, j1, j2, j3⟩, k0, k1, k2, k3⟩ := cbox hXb
          obtain ⟨⟨za, l0, l1, l2, l3⟩, _⟩ := cbox hXa
          obtain ⟨⟨zr, o0, o1, o2, o3⟩, p0, p1, p2, p3⟩ := cbox hRa
          obtain ⟨⟨zf, x0, x1, x2, x3⟩, _⟩ := cbox hXf
          have HAN : Hid (Z (.returned (.tuple #[crV 0 gx (m1 : Int) ((k : Int) + 1), .int .i64 0])) uf) := by
            show Z _ _
            have := HEND.out ⟨(ct + 1, ct + 1), 0, 1 + k⟩ uf hG.symm (hBf _ _ (Nat.le_refl _) hBw)
            simp only at this
            rw [hq1, hm1, hgx] at this
            rw [show ((1 + k : Nat) : Int) = (k : Int) + 1 by omega] at this
            exact this
          clear hq1 hm1 hXb hBb hkb hXa hBa hka hRa hBw hXf hBf HEND HO hG HF HFN HAF HTN
          go_wp2
          try rw [hub]
          try rw [hua]
          try rw [huf]
          exact bodyPost_ret (v := .tuple #[crV 0 gx (m1 : Int) ((k : Int) + 1), .int .i64 0]) (by simp [results, Try.results21, go_sem, zf, x0, x1, x2, x3]) rfl HAN.out
        have ed : ((ct : Int) + 1 == (tn : Int)) = false := by rw [beq_eq_false_iff_ne]; omega
        have hs : strk s 1 = 0 := by unfold strk; rw [if_neg (by decide), if_pos rfl]
        rw [gt_on (by decide) (by rw [hcs]; exact hd) (by rw [hs]; decide), hcs, hs, Rs.up_up, Nat.add_comm 1 k] at hG
        have HG2 : Hid ((gt tn (ct + 1, ct + 1) 0 (F.drop (k + 1))).up (k + 1) = gt tn (0, 0) 0 F) := hG
        clear hG hcs hs
        go_wp2
        go_roundw
        case rel => exact ⟨k + 1, ct + 1, ct + 1, 0, by omega, by omega, by omega, by omega, by omega, by go_num, by go_num, rfl, by go_num, trivial, HG2.out⟩
        case measure => simp [intOf]; omega
      have e1 : (x == 1) = false := by simpa using h1
      by_cases h2 : x = 2
      · subst h2
        have hcs := cs_rest (n := tn) (c := (ct, cg)) (f := 2) (by decide) (by decide)
        have hs : strk s 2 = s + 1 := by unfold strk; rw [if_pos (.inl rfl)]
        by_cases h3 : s = 2
        · subst h3
          rw [gt_bus (by decide) (by rw [hcs]; simp only; omega) (by rw [hs]; rfl), hcs] at hG
          obtain ⟨q1, m1, hq1, hm1, hb1, hb2, ep1, em1, ei1⟩ := least (ct) n t.size (by omega) n2 ht4
          obtain ⟨q2, m2, hq2, hm2, hb3, hb4, ep2, em2, ei2⟩ := least (cg) n t.size (by omega) n2 ht4
          obtain ⟨gx, hgx⟩ : ∃ g, t.extract 0 m2 = g := ⟨_, rfl⟩
          obtain ⟨ub, hub, hXb, hBb, hkb⟩ := cr_code uo u1.heap.size _ _ _ _ 9 ((k : Int) + 1) HO.out.1
          obtain ⟨ua, hua, hXa, hBa, hka⟩ := cr_two ub u1.heap.size _ _ _ _ gx (m1 : Int) hXb
          have hRa : ua.heap[w.heap.size]? = some (crO 0 ⟨#[]⟩ 0 0) := ((hka _ (by have := HO.out.2.2.2; omega)).trans (hkb _ (by have := HO.out.2.2.2; omega))).trans HO.out.2.1
          have hBw : Below w.heap.size w ua := hBa _ _ (by have := HO.out.2.2.2; omega) (hBb _ _ (by have := HO.out.2.2.2; omega) HO.out.2.2.1)
          obtain ⟨uf, huf, hXf, hBf⟩ := cr_put ua w.heap.size _ _ _ _ 9 gx (m1 : Int) ((k : Int) + 1) hRa
          obtain ⟨⟨zb, j0, j1, j2, j3⟩, k0, k1, k2, k3⟩ := cbox hXb
          obtain ⟨⟨za, l0, l1, l2, l3⟩, _⟩ := cbox hXa
          obtain ⟨⟨zr, o0, o1, o2, o3⟩, p0, p1, p2, p3⟩ := cbox hRa
          obtain ⟨⟨zf, x0, x1, x2, x3⟩, _⟩ := cbox hXf
          have HAN : Hid (Z (.returned (.tuple #[crV 9 gx (m1 : Int) ((k : Int) + 1), .int .i64 0])) uf) := by
            show Z _ _
            have := HEND.out ⟨(ct, cg), 9, 1 + k⟩ uf hG.symm (hBf _ _ (Nat.le_refl _) hBw)
            simp only at this
            rw [hq1, hq2, hm1, hm2, hgx] at this
            rw [show ((1 + k : Nat) : Int) = (k : Int) + 1 by omega] at this
            exact this
          clear hq1 hm1 hq2 hm2 hXb hBb hkb hXa hBa hka hRa hBw hXf hBf HEND HO hG HF HFN HAF HTN
          go_wp2
          try rw [hub]
          try rw [hua]
          try rw [huf]
          exact bodyPost_ret (v := .tuple #[crV 9 gx (m1 : Int) ((k : Int) + 1), .int .i64 0]) (by simp [results, Try.results21, go_sem, zf, x0, x1, x2, x3]) rfl HAN.out
        have e3 : (s + 1 == 3) = false := by rw [beq_eq_false_iff_ne]; omega
        rw [gt_on (by decide) (by rw [hcs]; simp only; omega) (by rw [hs]; omega), hcs, hs, Rs.up_up, Nat.add_comm 1 k] at hG
        have HG2 : Hid ((gt tn (ct, cg) (s + 1) (F.drop (k + 1))).up (k + 1) = gt tn (0, 0) 0 F) := hG
        clear hG hcs hs
        go_wp2
        go_roundw
        case rel => exact ⟨k + 1, ct, cg, s + 1, by omega, by omega, by omega, by omega, by omega, rfl, rfl, rfl, by go_num, trivial, HG2.out⟩
        case measure => simp [intOf]; omega
      have e2' : (x == 2) = false := by simpa using h2
      by_cases h3 : x = 3
      · subst h3
        have hcs := cs_deaf (n := tn) (c := (ct, cg)) hct
        simp only at hcs
        have hs : strk s 3 = s + 1 := by unfold strk; rw [if_pos (.inr rfl)]
        by_cases h3 : s = 2
        · subst h3
          rw [gt_bus (by decide) (by rw [hcs]; simp only; omega) (by rw [hs]; rfl), hcs] at hG
          obtain ⟨q1, m1, hq1, hm1, hb1, hb2, ep1, em1, ei1⟩ := least (ct) n t.size (by omega) n2 ht4
          obtain ⟨q2, m2, hq2, hm2, hb3, hb4, ep2, em2, ei2⟩ := least (ct + 1) n t.size (by omega) n2 ht4
          have ep2 : ((ct : Int) + 1) * (n : Int) = (q2 : Int) := by rw [← ep2]; rfl
          obtain ⟨gx, hgx⟩ : ∃ g, t.extract 0 m2 = g := ⟨_, rfl⟩
          obtain ⟨ub, hub, hXb, hBb, hkb⟩ := cr_code uo u1.heap.size _ _ _ _ 9 ((k : Int) + 1) HO.out.1
          obtain ⟨ua, hua, hXa, hBa, hka⟩ := cr_two ub u1.heap.size _ _ _ _ gx (m1 : Int) hXb
          have hRa : ua.heap[w.heap.size]? = some (crO 0 ⟨#[]⟩ 0 0) := ((hka _ (by have := HO.out.2.2.2; omega)).trans (hkb _ (by have := HO.out.2.2.2; omega))).trans HO.out.2.1
          have hBw : Below w.heap.size w ua := hBa _ _ (by have := HO.out.2.2.2; omega) (hBb _ _ (by have := HO.out.2.2.2; omega) HO.out.2.2.1)
          obtain ⟨uf, huf, hXf, hBf⟩ := cr_put ua w.heap.size _ _ _ _ 9 gx (m1 : Int) ((k : Int) + 1) hRa
          obtain ⟨⟨zb, j0, j1, j2, j3⟩, k0, k1, k2, k3⟩ := cbox hXb
          obtain ⟨⟨za, l0, l1, l2, l3⟩, _⟩ := cbox hXa
          obtain ⟨⟨zr, o0, o1, o2, o3⟩, p0, p1, p2, p3⟩ := cbox hRa
          obtain ⟨⟨zf, x0, x1, x2, x3⟩, _⟩ := cbox hXf
          have HAN : Hid (Z (.returned (.tuple #[crV 9 gx (m1 : Int) ((k : Int) + 1), .int .i64 0])) uf) := by
            show Z _ _
            have := HEND.out ⟨(ct, ct + 1), 9, 1 + k⟩ uf hG.symm (hBf _ _ (Nat.le_refl _) hBw)
            simp only at this
            rw [hq1, hq2, hm1, hm2, hgx] at this
            rw [show ((1 + k : Nat) : Int) = (k : Int) + 1 by omega] at this
            exact this
          clear hq1 hm1 hq2 hm2 hXb hBb hkb hXa hBa hka hRa hBw hXf hBf HEND HO hG HF HFN HAF HTN
          go_wp2
          try rw [hub]
          try rw [hua]
          try rw [huf]
          exact bodyPost_ret (v := .tuple #[crV 9 gx (m1 : Int) ((k : Int) + 1), .int .i64 0]) (by simp [results, Try.results21, go_sem, zf, x0, x1, x2, x3]) rfl HAN.out
        have e3 : (s + 1 == 3) = false := by rw [beq_eq_false_iff_ne]; omega
        rw [gt_on (by decide) (by rw [hcs]; simp only; omega) (by rw [hs]; omega), hcs, hs, Rs.up_up, Nat.add_comm 1 k] at hG
        have HG2 : Hid ((gt tn (ct, ct + 1) (s + 1) (F.drop (k + 1))).up (k + 1) = gt tn (0, 0) 0 F) := hG
        clear hG hcs hs
        go_wp2
        go_roundw
        case rel => exact ⟨k + 1, ct, ct + 1, s + 1, by omega, by omega, by omega, by omega, by omega, rfl, by go_num, rfl, by go_num, trivial, HG2.out⟩
        case measure => simp [intOf]; omega
      have e3' : (x == 3) = false := by simpa using h3
      have e5 : (x == 5) = false := by simpa using h5
      have hcs := cs_rest (n := tn) (c := (ct, cg)) (f := x) h1 h3
      have hs : strk s x = s := by unfold strk; rw [if_neg (by omega), if_neg h1]
      rw [gt_on h5 (by rw [hcs]; simp only; omega) (by rw [hs]; omega), hcs, hs, Rs.up_up, Nat.add_comm 1 k] at hG
      have HG2 : Hid ((gt tn (ct, cg) s (F.drop (k + 1))).up (k + 1) = gt tn (0, 0) 0 F) := hG
      clear hG hcs hs h1 h2 h3 h5 hfx
      go_wp2
      go_roundw
      case rel => exact ⟨k + 1, ct, cg, s, by omega, by omega, by omega, by omega, by omega, rfl, rfl, rfl, by go_num, trivial, HG2.out⟩
      case measure => simp [intOf]; omega
end Go.Proofs.Ytgnffifohdgekaa.strike
