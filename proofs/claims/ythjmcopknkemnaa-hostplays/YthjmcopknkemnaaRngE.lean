/- ring: what Check answers. -/
import Derived.Test.YthjmcopknkemnaaRngD
namespace Go.Proofs.Ythjmcopknkemnaa.ring
open Go Go.RowKit
set_option linter.unusedVariables false
set_option linter.unusedSimpArgs false
set_option maxRecDepth 100000

theorem Rcs.addr {w : World} {v : Value} {L : List Ce} (h : Rcs w v L) (hl : 0 < L.length) : ∃ g off c, v = .slice (some ⟨g, off, none⟩) L.length c := by
  obtain ⟨a, c, rfl, _, _, h4⟩ := h
  obtain ⟨g, off, rfl, _⟩ := h4 hl
  exact ⟨g, off, c, rfl⟩
set_option maxHeartbeats 4000000 in
theorem check_any (v : Value) (r : Rg) (w : World) (hv : Rcs w v r.C) :
    Calls Try.prog 57 #[rgV v r.pa r.pb r.ga r.gb r.sn] w fun e w' => e = .returned (.int .i64 (chk r)) ∧ Below w.heap.size w w' := by
  obtain ⟨L, pa, pb, ga, gb, sn⟩ := r
  simp only at hv ⊢
  obtain ⟨ad, c, rfl, hlc, hcm⟩ := hv.form
  obtain ⟨n, hn⟩ : ∃ n, L.length = n := ⟨_, rfl⟩
  obtain ⟨z, hz⟩ : ∃ z, chk ⟨L, pa, pb, ga, gb, sn⟩ = z := ⟨_, rfl⟩
  have HK : Hid ((if cnB n = false then (1 : Int) else if (okC n 0 L && ((plB n pa && bitB pb) && ((plB n ga && bitB gb) && plB n sn))) = false then 4 else 0) = z) := by
    show _ = _
    rw [← hz, ← hn]; rfl
  rw [hz]
  rw [hn] at hv hlc ⊢
  obtain ⟨w1, hw1, hX1, hb1⟩ := named w (rgO (.slice ad n c) pa pb ga gb sn)
  obtain ⟨⟨hzz, x0, x1, x2, x3, x4, x5⟩, _⟩ := box6 hX1
  have HB1 : Hid (Below w.heap.size w w1) := hb1
  have HX : Hid (∀ u, Below w1.heap.size w1 u → u.heap[w.heap.size]? = some (rgO (.slice ad n c) pa pb ga gb sn)) := fun u hu => keep hX1 hu
  have HS : Hid (Calls Try.prog 75 #[.int .i64 (n : Int)] w1 fun e w' => e = .returned (.bool (cnB n)) ∧ w1 = w') := isCount_any n w1
  unfold maxLen at hcm
  cases hs : cnB n
  · rw [hs] at HS HK
    have HQ : Hid ((1 : Int) = z) := HK.out
    clear HK hs hv hX1 hb1 hz hn
    go_enter Try.func57, Try.ntmps57
    go_wp2_with fail
    refine HS.out.mono ?_
    rintro e u ⟨rfl, rfl⟩
    go_wp2
    go_ret
    rw [← HQ.out]
    exact ⟨rfl, HB1.out⟩
  have hs2 := cn_iff.1 hs
  have h3 : 3 ≤ n := by omega
  have h64 : n ≤ 64 := by omega
  obtain ⟨g, off, rfl⟩ : ∃ g off, ad = some ⟨g, off, none⟩ := by
    obtain ⟨g, off, c', h⟩ := hv.addr (by omega)
    injection h with h _ _
    exact ⟨g, off, h⟩
  have HC : Hid (Calls Try.prog 80 #[rgV (.slice (some ⟨g, off, none⟩) n c) pa pb ga gb sn] w1 fun e w' => e = .returned (.bool (okC n 0 L)) ∧ Below w1.heap.size w1 w') := areCells_any g off n c L pa pb ga gb sn w1 (hv.below hb1) hn h3 h64
  have HM : Hid (∀ x y u, Calls Try.prog 81 #[rgV (.slice (some ⟨g, off, none⟩) n c) pa pb ga gb sn, mkV x y] u fun e w' => e = .returned (.bool (plB n x && bitB y)) ∧ Below u.heap.size u w') := fun x y u => isMark_any _ n c pa pb ga gb sn x y u h3 h64
  have HP : Hid (∀ x u, Calls Try.prog 71 #[rgV (.slice (some ⟨g, off, none⟩) n c) pa pb ga gb sn, .int .i64 x] u fun e w' => e = .returned (.bool (plB n x)) ∧ Below u.heap.size u w') := fun x u => isPlace_any _ n c pa pb ga gb sn x u h3 h64
  rw [hs] at HS HK
  have HK2 : Hid ((if (okC n 0 L && ((plB n pa && bitB pb) && ((plB n ga && bitB gb) && plB n sn))) = false then (4 : Int) else 0) = z) := HK.out
  clear HK hs hv hX1 hb1 hz hn hs2
  generalize okC n 0 L = b1 at HC HK2
  obtain ⟨b2, hb2⟩ : ∃ b, (plB n pa && bitB pb) = b := ⟨_, rfl⟩
  obtain ⟨b3, hb3⟩ : ∃ b, (plB n ga && bitB gb) = b := ⟨_, rfl⟩
  obtain ⟨b4, hb4⟩ : ∃ b, plB n sn = b := ⟨_, rfl⟩
  have HM2 : Hid (∀ u, Calls Try.prog 81 #[rgV (.slice (some ⟨g, off, none⟩) n c) pa pb ga gb sn, mkV pa pb] u fun e w' => e = .returned (.bool b2) ∧ Below u.heap.size u w') := fun u => by rw [← hb2]; exact HM.out pa pb u
  have HM3 : Hid (∀ u, Calls Try.prog 81 #[rgV (.slice (some ⟨g, off, none⟩) n c) pa pb ga gb sn, mkV ga gb] u fun e w' => e = .returned (.bool b3) ∧ Below u.heap.size u w') := fun u => by rw [← hb3]; exact HM.out ga gb u
  have HP4 : Hid (∀ u, Calls Try.prog 71 #[rgV (.slice (some ⟨g, off, none⟩) n c) pa pb ga gb sn, .int .i64 sn] u fun e w' => e = .returned (.bool b4) ∧ Below u.heap.size u w') := fun u => by rw [← hb4]; exact HP.out sn u
  rw [hb2, hb3, hb4] at HK2
  clear hb2 hb3 hb4 HM HP
  go_enter Try.func57, Try.ntmps57
  go_wp2_with fail
  refine HS.out.mono ?_
  rintro e u ⟨rfl, rfl⟩
  go_wp2_with fail
  refine HC.out.mono ?_
  rintro e u1 ⟨rfl, hb1⟩
  have HU1 : Hid (Below w1.heap.size w1 u1) := hb1
  obtain ⟨⟨hz1, y0, y1, y2, y3, y4, y5⟩, _⟩ := box6 (HX.out u1 hb1)
  clear hb1 x0 x1 x2 x3 x4 x5 hw1
  cases b1
  · have HQ : Hid ((4 : Int) = z) := HK2.out
    clear HK2
    go_wp2
    go_ret
    rw [← HQ.out]
    exact ⟨rfl, bsq HB1.out HU1.out⟩
  go_wp2_with fail
  refine (HM2.out _).mono ?_
  rintro e u2 ⟨rfl, hb2⟩
  have HU2 : Hid (Below w1.heap.size w1 u2) := bsq HU1.out hb2
  obtain ⟨⟨hz2, z0, z1, z2, z3, z4, z5⟩, _⟩ := box6 (HX.out u2 HU2.out)
  clear hb2 y0 y1 y2 y3 y4 y5
  cases b2
  · have HQ : Hid ((4 : Int) = z) := HK2.out
    clear HK2
    go_wp2
    go_ret
    rw [← HQ.out]
    exact ⟨rfl, bsq HB1.out HU2.out⟩
  go_wp2_with fail
  refine (HM3.out _).mono ?_
  rintro e u3 ⟨rfl, hb3⟩
  have HU3 : Hid (Below w1.heap.size w1 u3) := bsq HU2.out hb3
  obtain ⟨⟨hz3, y0, y1, y2, y3, y4, y5⟩, _⟩ := box6 (HX.out u3 HU3.out)
  clear hb3 z0 z1 z2 z3 z4 z5
  cases b3
  · have HQ : Hid ((4 : Int) = z) := HK2.out
    clear HK2
    go_wp2
    go_ret
    rw [← HQ.out]
    exact ⟨rfl, bsq HB1.out HU3.out⟩
  go_wp2_with fail
  refine (HP4.out _).mono ?_
  rintro e u4 ⟨rfl, hb4⟩
  have HU4 : Hid (Below w1.heap.size w1 u4) := bsq HU3.out hb4
  clear hb4 y0 y1 y2 y3 y4 y5
  cases b4
  · have HQ : Hid ((4 : Int) = z) := HK2.out
    clear HK2
    go_wp2
    go_ret
    rw [← HQ.out]
    exact ⟨rfl, bsq HB1.out HU4.out⟩
  have HQ : Hid ((0 : Int) = z) := HK2.out
  clear HK2
  go_wp2
  go_ret
  rw [← HQ.out]
  exact ⟨rfl, bsq HB1.out HU4.out⟩
end Go.Proofs.Ythjmcopknkemnaa.ring
