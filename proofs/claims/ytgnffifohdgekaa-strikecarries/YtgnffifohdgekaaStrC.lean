/- strike: what Carry answers. -/
import Derived.Test.YtgnffifohdgekaaStrB
namespace Go.Proofs.Ytgnffifohdgekaa.strike
open Go.RowKit Go.Proofs.Ytgnffifohdgekaa.pipe
set_option linter.unusedVariables false
set_option linter.unusedSimpArgs false
set_option maxRecDepth 100000

abbrev crO (k : Int) (g : ByteArray) (d u : Int) : Obj := .cells #[.int .i64 k, .string g, .int .i64 d, .int .i64 u] 41
abbrev crV (k : Int) (g : ByteArray) (d u : Int) : Value := .agg #[.int .i64 k, .string g, .int .i64 d, .int .i64 u]
theorem cbox {u : World} {X : Nat} {k : Int} {g : ByteArray} {d n : Int} (h : u.heap[X]? = some (crO k g d n)) :
    (X < u.heap.size ∧ u.cell? ⟨X, 0, none⟩ = some (.int .i64 k) ∧ u.cell? ⟨X, 1, none⟩ = some (.string g) ∧ u.cell? ⟨X, 2, none⟩ = some (.int .i64 d) ∧ u.cell? ⟨X, 3, none⟩ = some (.int .i64 n)) ∧
    u.frozen? ⟨X, 0, none⟩ = false ∧ u.frozen? ⟨X, 1, none⟩ = false ∧ u.frozen? ⟨X, 2, none⟩ = false ∧ u.frozen? ⟨X, 3, none⟩ = false := by
  have hlt := (Array.getElem?_eq_some_iff.1 h).1
  have hf : ∀ i, u.frozen? ⟨X, i, none⟩ = false := fun i => frozen_of_row u X i _ _ h
  refine ⟨⟨hlt, ?_, ?_, ?_, ?_⟩, hf 0, hf 1, hf 2, hf 3⟩ <;> (rw [cell_of_row u X _ _ _ (0, 0) h]; rfl)
theorem cr_put (u : World) (X : Nat) (k : Int) (g : ByteArray) (d n k' : Int) (g' : ByteArray) (d' n' : Int) (hX : u.heap[X]? = some (crO k g d n)) :
    ∃ uf, (((u.setCell ⟨X, 0, none⟩ (.int .i64 k')).setCell ⟨X, 1, none⟩ (.string g')).setCell ⟨X, 2, none⟩ (.int .i64 d')).setCell ⟨X, 3, none⟩ (.int .i64 n') = uf ∧ uf.heap[X]? = some (crO k' g' d' n') ∧ (∀ (B : Nat) (w0 : World), B ≤ X → Below B w0 u → Below B w0 uf) := by
  exact ⟨_, rfl, csetX 3 _ (csetX 2 _ (csetX 1 _ (csetX 0 _ hX rfl) rfl) rfl) rfl, fun B w0 hB hb => (((hb.setCell hB _).setCell hB _).setCell hB _).setCell hB _⟩
theorem cr_named (w : World) (k : Int) (g : ByteArray) (d n : Int) : ∃ w0, w.alloc (crO k g d n) = w0 ∧ w0.heap[w.heap.size]? = some (crO k g d n) ∧ Below w.heap.size w w0 := ⟨_, rfl, (MapKept.heap_alloc w _).1, balloc _ _⟩
/-- what Carry answers -/
def CAns (w : World) (c : Cd) (code : Int) (e : Ending) (w' : World) : Prop := e = .returned (.tuple #[crV c.k c.g c.d c.u, .int .i64 code]) ∧ Below w.heap.size w w'
theorem ca_split {z : Int} {t : ByteArray} {F : List Int} (h : ¬ spC z t = 0) : caC z t F = spC z t ∧ caV z t F = zC := by
  have h1 : caC z t F = spC z t := by unfold caC; rw [if_pos h]
  exact ⟨h1, ca_err (by rw [h1]; exact h)⟩
theorem ca_large {z : Int} {t : ByteArray} {F : List Int} (h : spC z t = 0) (hl : 200 < (pcs z.toNat t).length) : caC z t F = 2 ∧ caV z t F = zC := by
  have h1 : caC z t F = 2 := by unfold caC; rw [if_neg (fun q => q h), if_pos hl]
  exact ⟨h1, ca_err (by rw [h1]; decide)⟩
theorem ca_fates {z : Int} {t : ByteArray} {F : List Int} (h : spC z t = 0) (hl : ¬ 200 < (pcs z.toNat t).length) : caC z t F = ckF F := by
  unfold caC; rw [if_neg (fun q => q h), if_neg hl]; rfl
set_option maxHeartbeats 8000000 in
theorem carry_any (z : Int) (t : ByteArray) (vF : Value) (F : List Int) (w : World) (ht : t.size ≤ maxLen) (hF : Ris w vF F) :
    Calls Try.prog 20 #[.string t, .int .i64 z, vF] w (CAns w (caV z t F) (caC z t F)) := by
  obtain ⟨w1, hw1, hR1, hb1⟩ := cr_named w 0 ⟨#[]⟩ 0 0
  have HSP : Hid (Calls Try.prog 16 #[.string t, .int .i64 z] w1 fun e w' => ∃ v, e = .returned (.tuple #[v, .int .i64 (spC z t)]) ∧ Txs w' w1.heap.size v (spP z t) ∧ Below w1.heap.size w1 w') := split_any z t w1 ht
  obtain ⟨fa, fc, hv, _, _, _⟩ := id hF
  subst hv
  have HF : Hid (Ris w (.slice fa F.length fc) F) := hF
  obtain ⟨fn, hfn⟩ : ∃ n, F.length = n := ⟨_, rfl⟩
  have HFN : Hid (F.length = fn) := hfn
  have HT : Hid (t.size ≤ maxLen) := ht
  obtain ⟨Z, hZ⟩ : ∃ Z, CAns w (caV z t F) (caC z t F) = Z := ⟨_, rfl⟩
  have HZ : Hid (CAns w (caV z t F) (caC z t F) = Z) := hZ
  have HR1 : Hid (w1.heap[w.heap.size]? = some (crO 0 ⟨#[]⟩ 0 0) ∧ Below w.heap.size w w1) := ⟨hR1, hb1⟩
  rw [hfn] at HF ⊢
  rw [hZ]
  obtain ⟨zc, hzc⟩ : ∃ zc, spC z t = zc := ⟨_, rfl⟩
  have HZC : Hid (spC z t = zc) := hzc
  rw [hzc] at HSP
  clear hZ hF hR1 hb1 ht hfn hzc
  go_enter Try.func20, Try.ntmps20
  go_wp2_with fail
  refine HSP.out.mono ?_
  rintro e u1 ⟨v, rfl, hT, hb⟩
  have HX1 : Hid (u1.heap[w.heap.size]? = some (crO 0 ⟨#[]⟩ 0 0) ∧ Below w.heap.size w u1) := ⟨keep HR1.out.1 hb, bsq HR1.out.2 hb⟩
  by_cases h0 : ¬ zc = 0
  · obtain ⟨uf, huf, hXf, hBf⟩ := cr_put u1 w.heap.size _ _ _ _ 0 ⟨#[]⟩ 0 0 HX1.out.1
    obtain ⟨⟨hz, c0, c1, c2, c3⟩, f0, f1, f2, f3⟩ := cbox HX1.out.1
    obtain ⟨⟨zf, x0, x1, x2, x3⟩, _⟩ := cbox hXf
    have HA : Hid (Z (.returned (.tuple #[crV 0 ⟨#[]⟩ 0 0, .int .i64 zc])) uf) := by
      show Z _ _
      obtain ⟨h1, h2⟩ := ca_split (F := F) (by rw [HZC.out]; exact h0)
      rw [← HZ.out, h1, h2, HZC.out]
      exact ⟨rfl, hBf _ _ (Nat.le_refl _) HX1.out.2⟩
    have e1 : (zc != 0) = true := by simpa using h0
    obtain ⟨a, c, rfl, _⟩ := hT.form
    generalize (spP z t).length = n at *
    clear hT hb hXf hBf h0 HSP
    go_wp2
    try rw [huf]
    exact bodyPost_ret (v := .tuple #[crV 0 ⟨#[]⟩ 0 0, .int .i64 zc]) (by simp [results, Try.results20, go_sem, zf, x0, x1, x2, x3]) rfl HA.out
  have h0 : zc = 0 := Classical.not_not.1 h0
  subst h0
  obtain ⟨z1, z2, ht4, hsp⟩ := sp_ok HZC.out
  obtain ⟨n, rfl⟩ : ∃ n : Nat, z = (n : Int) := ⟨z.toNat, by omega⟩
  rw [hsp, Int.toNat_natCast] at hT
  obtain ⟨T, hTe⟩ : ∃ T, pcs n t = T := ⟨_, rfl⟩
  rw [hTe] at hT
  have HTE : Hid (pcs n t = T ∧ 1 ≤ n ∧ n ≤ 64 ∧ t.size ≤ 4096) := ⟨hTe, by omega, by omega, ht4⟩
  have HRT : Hid (Rts u1 v T) := hT.rts
  obtain ⟨a, c, rfl, hlc, hcm⟩ := hT.form
  obtain ⟨tn, htn⟩ : ∃ k, T.length = k := ⟨_, rfl⟩
  have HTN : Hid (T.length = tn) := htn
  rw [htn] at HRT hlc
  rw [htn]
  by_cases hl : 200 < tn
  · have HNW : Hid (Calls Try.prog 11 #[.slice a tn c] u1 fun e w' => e = .returned (.tuple #[ppV 0 0 (.slice none 0 0) (.slice none 0 0), .int .i64 2]) ∧ Below u1.heap.size u1 w') := new_no a tn c u1 hl
    have HCD : Hid (caC (n : Int) t F = 2 ∧ caV (n : Int) t F = zC) := ca_large HZC.out (by rw [Int.toNat_natCast, hTe, htn]; exact hl)
    clear hT hb hTe htn hsp hl HSP HRT hlc hcm z1 z2 ht4
    go_wp2_with fail
    refine HNW.out.mono ?_
    rintro e u2 ⟨rfl, hb2⟩
    obtain ⟨u3, u4, hu3, hu4, hX3, hX4, hb4⟩ := pp_laid u2 0 0 (.slice none 0 0) (.slice none 0 0)
    have hR4 := keep (keep HX1.out.1 hb2) hb4
    obtain ⟨uf, huf, hXf, hBf⟩ := cr_put u4 w.heap.size _ _ _ _ 0 ⟨#[]⟩ 0 0 hR4
    obtain ⟨⟨hz, c0, c1, c2, c3⟩, f0, f1, f2, f3⟩ := box4 hX3
    obtain ⟨⟨hz', d0, d1, d2, d3⟩, g0, g1, g2, g3⟩ := cbox hR4
    obtain ⟨⟨zf, x0, x1, x2, x3⟩, _⟩ := cbox hXf
    have HA : Hid (Z (.returned (.tuple #[crV 0 ⟨#[]⟩ 0 0, .int .i64 2])) uf) := by
      show Z _ _
      rw [← HZ.out, HCD.out.1, HCD.out.2]
      exact ⟨rfl, hBf _ _ (Nat.le_refl _) (bsq HX1.out.2 (bsq hb2 hb4))⟩
    clear hb2 hX3 hX4 hb4 hR4 hXf hBf HNW
    go_wp2
    try rw [huf]
    exact bodyPost_ret (v := .tuple #[crV 0 ⟨#[]⟩ 0 0, .int .i64 2]) (by simp [results, Try.results20, go_sem, zf, x0, x1, x2, x3]) rfl HA.out
  have hl2 : tn ≤ 200 := by omega
  have HNW : Hid (Calls Try.prog 11 #[.slice a tn c] u1 fun e w' => ∃ a c, e = .returned (.tuple #[ppV 0 0 (.slice a tn c) (.slice none 0 0), .int .i64 0]) ∧ Ow (fun g => u1.heap.size ≤ g) w' (.slice a tn c) T ∧ Below u1.heap.size u1 w') := by
    have := new_ok (.slice a tn c) T u1 HRT.out (by omega)
    rw [htn] at this
    exact this
  have HTP : Hid (0 < T.length ∧ T.length ≤ 200) := ⟨by rw [← hTe, pcs_length]; exact Nat.succ_pos _, by omega⟩
  have HCD : Hid (caC (n : Int) t F = ckF F) := ca_fates HZC.out (by rw [Int.toNat_natCast, hTe, htn]; exact hl)
  clear hT hb hTe htn hsp hl HSP HRT hlc hcm z1 z2 ht4
  go_wp2_with fail
  refine HNW.out.mono ?_
  rintro e u2 ⟨b, d, rfl, ho, hb2⟩
  obtain ⟨u3, u4, hu3, hu4, hX3, hX4, hb4⟩ := pp_laid u2 0 0 (.slice b tn d) (.slice none 0 0)
  have hR4 := keep (keep HX1.out.1 hb2) hb4
  have HR4 : Hid (u4.heap[w.heap.size]? = some (crO 0 ⟨#[]⟩ 0 0) ∧ Below w.heap.size w u4 ∧ u4.heap[u2.heap.size]? = some (ppO 0 0 (.slice b tn d) (.slice none 0 0)) ∧ w.heap.size < u2.heap.size) :=
    ⟨hR4, bsq HX1.out.2 (bsq hb2 hb4), hX4, Nat.lt_of_lt_of_le (Array.getElem?_eq_some_iff.1 HX1.out.1).1 hb2.size⟩
  have HRP : Hid (Apx u2.heap.size u4 ⟨0, 0, T, []⟩ (.slice b tn d) (.slice none 0 0)) := fun v hv hk =>
    ⟨(ho.kept (Nat.le_trans hb4.size hv) fun g _ hg => (hk g (by omega) (Nat.lt_of_lt_of_le hg hb4.size)).trans (hb4.block g hg)).rts, Rts.nil _⟩
  obtain ⟨⟨hz, c0, c1, c2, c3⟩, f0, f1, f2, f3⟩ := box4 hX3
  obtain ⟨⟨hz', d0, d1, d2, d3⟩, g0, g1, g2, g3⟩ := cbox hR4
  obtain ⟨⟨hz'', i0, i1, i2, i3⟩, j0, j1, j2, j3⟩ := box4 hX4
  obtain ⟨zf, hzf⟩ : ∃ zf, ckF F = zf := ⟨_, rfl⟩
  have HCK : Hid (Calls Try.prog 30 #[.slice fa fn fc] u4 fun e w' => e = .returned (.int .i64 zf) ∧ u4 = w') := by
    have := fates_any (.slice fa fn fc) F u4 (HF.out.below HR4.out.2.1)
    rw [hzf] at this
    exact this
  have HZF : Hid (ckF F = zf) := hzf
  clear hb2 hb4 hR4 hX3 hX4 ho HNW hzf HX1 HR1
  go_wp2_with fail
  try rw [hu4]
  clear hu4 hu3 c0 c1 c2 c3 f0 f1 f2 f3 hz
  refine HCK.out.mono ?_
  rintro e u ⟨rfl, rfl⟩
  clear HCK
  by_cases h0 : ¬ zf = 0
  · obtain ⟨uf, huf, hXf, hBf⟩ := cr_put u4 w.heap.size _ _ _ _ 0 ⟨#[]⟩ 0 0 HR4.out.1
    obtain ⟨⟨zf', x0, x1, x2, x3⟩, _⟩ := cbox hXf
    have HA : Hid (Z (.returned (.tuple #[crV 0 ⟨#[]⟩ 0 0, .int .i64 zf])) uf) := by
      show Z _ _
      rw [← HZ.out, HCD.out, ca_err (by rw [HCD.out, HZF.out]; exact h0), HZF.out]
      exact ⟨rfl, hBf _ _ (Nat.le_refl _) HR4.out.2.1⟩
    have e1 : (zf != 0) = true := by simpa using h0
    clear hXf hBf h0
    go_wp2
    try rw [huf]
    exact bodyPost_ret (v := .tuple #[crV 0 ⟨#[]⟩ 0 0, .int .i64 zf]) (by simp [results, Try.results20, go_sem, zf', x0, x1, x2, x3]) rfl HA.out
  have h0 : zf = 0 := Classical.not_not.1 h0
  subst h0
  obtain ⟨_, _, hFl, hFa, hV⟩ := ca_ok (z := (n : Int)) (t := t) (F := F) (by rw [HCD.out, HZF.out])
  rw [Int.toNat_natCast, HTE.out.1] at hV
  obtain ⟨r, hr⟩ : ∃ r, gt T.length (0, 0) 0 F = r := ⟨_, rfl⟩
  have HTH : Hid (Calls Try.prog 35 #[ppV 0 0 (.slice b tn d) (.slice none 0 0), .slice fa fn fc] u4 (GAns u2.heap.size u4 T r)) := by
    have := through_any u2.heap.size T (.slice b tn d) (.slice none 0 0) fa fc F u4 (Array.getElem?_eq_some_iff.1 HR4.out.2.2.1).1 HTP.out.1 HTP.out.2 hFl hFa HRP.out (by rw [HFN.out]; exact HF.out.below HR4.out.2.1)
    rw [HFN.out, hr] at this
    exact this
  have hok : okc T.length r.c := by rw [← hr]; exact gt_okc F _ _ (okc_zero _)
  rw [hr] at hV
  have HV : Hid (caV (n : Int) t F = toC n t r ∧ caC (n : Int) t F = 0 ∧ okc T.length r.c) := ⟨hV, by rw [HCD.out, HZF.out], hok⟩
  clear hFl hFa hV hr hok HF
  go_wp2_with fail
  refine HTH.out.mono ?_
  rintro e u5 ⟨oL, oG, rfl, hRp, hb5⟩
  have hX5 := keep HR4.out.2.2.1 hb5
  obtain ⟨u6, hu6, hX6, hB6, hk6, hs6⟩ := pp_put u5 u2.heap.size _ _ _ _ (atP T r.c).s (atP T r.c).q oL oG hX5
  have hP6 : Rp u6 (atP T r.c) oL oG := hRp u6 (by omega) fun g hg _ => hk6 g hg
  have hR6 : u6.heap[w.heap.size]? = some (crO 0 ⟨#[]⟩ 0 0) := (hk6 _ (by have := HR4.out.2.2.2; omega)).trans (keep HR4.out.1 hb5)
  have hb6 : Below w.heap.size w u6 := hB6 _ _ (by have := HR4.out.2.2.2; omega) (bsq HR4.out.2.1 hb5)
  have hn : 0 < n := HTE.out.2.1
  have hcl := HV.out.2.2
  have hlT : t.size / n + 1 = T.length := by rw [← HTE.out.1, pcs_length]
  have hgot : cat (atP T r.c).G = t.extract 0 (min (r.c.2 * n) t.size) := by
    show cat (T.take r.c.2) = _
    rw [← HTE.out.1]; exact cat_take t hn _ (by rw [hlT]; exact hcl.2.2)
  have hgs : sizes (atP T r.c).G ≤ 4096 := by
    rw [← cat_size, hgot, ByteArray.size_extract]; have := HTE.out.2.2.2; omega
  have hleft : sizes (atP T r.c).L + min (r.c.1 * n) t.size = t.size := by
    show sizes (T.drop r.c.1) + _ = _
    rw [← HTE.out.1]; exact size_drop t hn (by rw [hlT]; have := hcl.1; have := hcl.2.2; omega)
  have hls : sizes (atP T r.c).L ≤ 4096 := by have := HTE.out.2.2.2; omega
  have hGl : (atP T r.c).G.length ≤ 200 := by rw [atP_got hcl]; have := hcl.2.2; have := HTP.out.2; omega
  obtain ⟨tg, htg⟩ : ∃ g, t.extract 0 (min (r.c.2 * n) t.size) = g := ⟨_, rfl⟩
  obtain ⟨ts, hts⟩ : ∃ g, sizes (atP T r.c).L = g := ⟨_, rfl⟩
  rw [htg] at hgot
  rw [hts] at hleft hls
  have HJ : Hid (∀ u, Below u6.heap.size u6 u → Calls Try.prog 34 #[oG, .string ⟨#[]⟩] u fun e w' => e = .returned (.string tg) ∧ Below u.heap.size u w') := fun u hu => by
    have := join_any oG (atP T r.c).G u (hP6.2.below hu) (by omega) (by omega)
    rw [hgot] at this
    exact this
  have HTL : Hid (∀ u, Below u6.heap.size u6 u → Calls Try.prog 32 #[oL] u fun e w' => e = .returned (.int .i64 (ts : Int)) ∧ u = w') := fun u hu => by
    have := total_any oL (atP T r.c).L u (hP6.1.below hu)
    rw [hts, wrap_small (by omega)] at this
    exact this
  have HW6 : Hid (∀ u, Below u6.heap.size u6 u → u.heap[w.heap.size]? = some (crO 0 ⟨#[]⟩ 0 0) ∧ u.heap[u2.heap.size]? = some (ppO (atP T r.c).s (atP T r.c).q oL oG) ∧ Below w.heap.size w u) := fun u hu => ⟨keep hR6 hu, keep hX6 hu, bsq hb6 hu⟩
  obtain ⟨D, hD⟩ : ∃ D : Int, (t.size : Int) - (ts : Int) = D := ⟨_, rfl⟩
  have HEND : Hid (∀ uf, Below w.heap.size w uf → Z (.returned (.tuple #[crV r.k tg D (r.u : Int), .int .i64 0])) uf) := fun uf hu => by
    rw [← HZ.out, HV.out.1, HV.out.2.1]
    refine ⟨?_, hu⟩
    have : D = ((min (r.c.1 * n) t.size : Nat) : Int) := by omega
    rw [this, ← htg]
    rfl
  have hD2 : IntKind.i64.wrap ((t.size : Int) - (ts : Int)) = D := by rw [IntKind.wrap_i64]; have := HTE.out.2.2.2; omega
  have ht4 : t.size ≤ 4096 := HTE.out.2.2.2
  have hts4 : ts ≤ t.size := by omega
  obtain ⟨la, lc, hvL, _⟩ := hP6.1
  obtain ⟨ga, gc, hvG, _⟩ := hP6.2
  subst hvL hvG
  obtain ⟨⟨hz5, k0, k1, k2, k3⟩, l0, l1, l2, l3⟩ := box4 hX5
  obtain ⟨⟨hz6, m0, m1, m2, m3⟩, n0, n1, n2, n3⟩ := box4 hX6
  generalize (atP T r.c).L.length = n5 at *
  generalize (atP T r.c).G.length = n6 at *
  generalize (atP T r.c).s = s5 at *
  generalize (atP T r.c).q = q5 at *
  clear hRp hb5 hX5 hX6 hB6 hk6 hs6 hP6 hR6 hb6 hn hcl hlT hgot hgs hleft hls hGl htg hts hD HTH HV HTE HTP HZC HZF HCD HR4 HRP HZ HT HFN HTN i0 i1 i2 i3 j0 j1 j2 j3 d0 d1 d2 d3 g0 g1 g2 g3 hz' hz'' hw1
  go_upto_region 11 with (fail)
  try rw [hu6]
  clear hu6 k0 k1 k2 k3 l0 l1 l2 l3 hz5
  have HD0 : Hid (Below u6.heap.size u6 u6.drew) := (Below.refl _ _).drew
  obtain ⟨⟨hzr, p0, p1, p2, p3⟩, q0, q1, q2, q3⟩ := cbox (HW6.out u6 (Below.refl _ _)).1
  go_region_law (first
    | (refine step_call (by rfl) 34 #[.slice ga n6 gc, .string ⟨#[]⟩] ?_ ?_
       · (simp [execOp, go_sem]; done)
       refine (HJ.out _ HD0.out).mono ?_
       rintro e' u7 ⟨rfl, hb7⟩
       refine ⟨_, rfl, ?_⟩
       have HB7 : Hid (Below u6.heap.size u6 u7) := bsq HD0.out hb7
       obtain ⟨⟨_, r0, r1, r2, r3⟩, y0, y1, y2, y3⟩ := cbox (HW6.out u7 HB7.out).1
       obtain ⟨⟨_, v0, v1, v2, v3⟩, _⟩ := box4 (HW6.out u7 HB7.out).2.1
       clear hb7)
    | (refine step_call (by rfl) 32 #[.slice la n5 lc] ?_ ?_
       · (simp [execOp, go_sem]; done)
       first
         | (refine (HTL.out _ HB7.out).mono ?_
            rintro e' u' ⟨rfl, rfl⟩
            refine ⟨_, rfl, ?_⟩)
         | (refine (HTL.out _ HD0.out).mono ?_
            rintro e' u' ⟨rfl, rfl⟩
            refine ⟨_, rfl, ?_⟩)))
  all_goals
    (obtain ⟨uf, huf, hXf, hBf⟩ := cr_put u7 w.heap.size _ _ _ _ r.k tg D (r.u : Int) (HW6.out u7 HB7.out).1
     obtain ⟨⟨zf', x0, x1, x2, x3⟩, _⟩ := cbox hXf
     have HA : Hid (Z (.returned (.tuple #[crV r.k tg D (r.u : Int), .int .i64 0])) uf) := HEND.out uf (hBf _ _ (Nat.le_refl _) (HW6.out u7 HB7.out).2.2)
     clear hXf hBf HEND HW6 HJ HTL
     go_wp2
     try rw [hD2]
     try rw [huf]
     exact bodyPost_ret (v := .tuple #[crV r.k tg D (r.u : Int), .int .i64 0]) (by simp [results, Try.results20, go_sem, zf', x0, x1, x2, x3]) rfl HA.out)
end Go.Proofs.Ytgnffifohdgekaa.strike
