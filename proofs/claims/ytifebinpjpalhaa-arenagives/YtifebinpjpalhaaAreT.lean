/- plugref: what Give answers. -/
import Derived.Test.YtifebinpjpalhaaAreR
import Derived.Test.YtifebinpjpalhaaAreJ
namespace Go.Proofs.Ytifebinpjpalhaa.arena
open Go.RowKit
set_option linter.unusedVariables false
set_option linter.unusedSimpArgs false
set_option maxRecDepth 100000

theorem filt_at {L : List Sp} {k : Nat} {x : Sp} (p : Int) (h : L[k]? = some x) : (L.drop k).filter (fun y => y.1 != p) = (if (x.1 != p) = true then [x] else []) ++ (L.drop (k + 1)).filter (fun y => y.1 != p) := by
  have hk := (List.getElem?_eq_some_iff.1 h).1
  have hx := (List.getElem?_eq_some_iff.1 h).2
  rw [List.drop_eq_getElem_cons hk, hx, List.filter_cons]
  cases (x.1 != p) <;> rfl
/-- what is told, as far as it is read -/
def RAns (w : World) (a : Ar) (code : Int) (e : Ending) (w' : World) : Prop :=
  ∃ v, e = .returned (.tuple #[arV a.z v, .int .i64 code]) ∧ Rss w' v a.L ∧ Below w.heap.size w w'
set_option maxHeartbeats 4000000 in
theorem refGive_any (z : Int) (v : Value) (L : List Sp) (p : Int) (w : World) (hv : Rss w v L) (hI : Inr L) :
    Calls Try.prog 18 #[arV z v, .int .i64 p] w (RAns w (gvV ⟨z, L⟩ p) (gvC ⟨z, L⟩ p)) := by
  obtain ⟨a, c, rfl, hlc, hcm⟩ := hv.form
  obtain ⟨n, hn⟩ : ∃ n, L.length = n := ⟨_, rfl⟩
  have HN : Hid (L.length = n) := hn
  rw [hn] at hv hlc ⊢
  obtain ⟨Z, hZ⟩ : ∃ Z, RAns w (gvV ⟨z, L⟩ p) (gvC ⟨z, L⟩ p) = Z := ⟨_, rfl⟩
  have HZ : Hid (RAns w (gvV ⟨z, L⟩ p) (gvC ⟨z, L⟩ p) = Z) := hZ
  have HErr : Hid (∀ (k : Int) (u : World), gvC ⟨z, L⟩ p = k → k ≠ 0 → Below w.heap.size w u → Z (.returned (.tuple #[arV 0 (.slice none 0 0), .int .i64 k])) u) := fun k u h1 h2 h3 => by
    have e1 := gv_err (a := ⟨z, L⟩) (p := p) (by rw [h1]; exact h2)
    rw [← hZ, e1, h1]
    exact ⟨_, rfl, Rss.nil _, h3⟩
  rw [hZ]
  obtain ⟨w1, hw1, hX1, hb1⟩ := named w (arO z (.slice a n c))
  obtain ⟨w2, hw2, hX2, hb2⟩ := named w1 (arO 0 (.slice none 0 0))
  have hX12 := keep hX1 hb2
  obtain ⟨⟨hz, x0, x1⟩, _⟩ := boxC hX12
  have hR2 := hv.below (bsq hb1 hb2)
  obtain ⟨k, hk⟩ : ∃ k, chk ⟨z, L⟩ = k := ⟨_, rfl⟩
  have HK : Hid (chk ⟨z, L⟩ = k) := hk
  have HC : Hid (Calls Try.prog 11 #[arV z (.slice a n c)] w2 fun e w' => e = .returned (.int .i64 k) ∧ Below w2.heap.size w2 w') := by
    have := refArena_any z (.slice a n c) L w2 hR2 hI
    rw [hk] at this
    exact this
  have z0 : w.heap.size < w1.heap.size := (Array.getElem?_eq_some_iff.1 hX1).1
  have HW : Hid (Rss w2 (.slice a n c) L ∧ Below w.heap.size w w2 ∧ w2.heap[w1.heap.size]? = some (arO 0 (.slice none 0 0)) ∧ w2.heap[w.heap.size]? = some (arO z (.slice a n c)) ∧ w.heap.size < w1.heap.size) := ⟨hR2, bsq hb1 hb2, hX2, hX12, z0⟩
  unfold maxLen at hcm
  clear hv hI hX1 hX2 hX12 hb1 hb2 hR2 hn hZ hk z0
  go_enter Try.func18, Try.ntmps18
  go_wp2_with fail
  refine HC.out.mono ?_
  rintro e u ⟨rfl, hb⟩
  have HU : Hid (Rss u (.slice a n c) L ∧ Below w.heap.size w u ∧ u.heap[w1.heap.size]? = some (arO 0 (.slice none 0 0)) ∧ u.heap[w.heap.size]? = some (arO z (.slice a n c)) ∧ w.heap.size < w1.heap.size) := ⟨HW.out.1.below hb, bsq HW.out.2.1 hb, keep HW.out.2.2.1 hb, keep HW.out.2.2.2.1 hb, HW.out.2.2.2.2⟩
  clear hb HW HC x0 x1 hz
  by_cases h0 : ¬ k = 0
  · obtain ⟨uf, huf, hXf, hBf, _, _⟩ := put2 u w1.heap.size (.int .i64 0) (.slice none 0 0) HU.out.2.2.1
    obtain ⟨⟨hzu, r0, r1⟩, f0, f1⟩ := boxC HU.out.2.2.1
    obtain ⟨⟨hzf, y0, y1⟩, _⟩ := boxC hXf
    have HBf : Hid (Below w.heap.size w uf) := hBf _ _ (by have := HU.out.2.2.2.2; omega) HU.out.2.1
    have e1 : (k != 0) = true := by simpa using h0
    have HA : Hid (Z (.returned (.tuple #[arV 0 (.slice none 0 0), .int .i64 k])) uf) := HErr.out k uf (by rw [gv_chk (by rw [HK.out]; exact h0), HK.out]) h0 HBf.out
    clear h0 hXf hBf
    go_wp2
    try rw [huf]
    exact bodyPost_ret (v := .tuple #[arV 0 (.slice none 0 0), .int .i64 k]) (by simp [results, Try.results18, go_sem, hzf, y0, y1]) rfl HA.out
  have h0 : k = 0 := Classical.not_not.1 h0
  subst h0
  have e0 : ((0 : Int) != 0) = false := rfl
  have hl64 : n ≤ 64 := by rw [← HN.out]; exact (chk_ok HK.out).2.2.1
  have HGF := give_filter (p := p) HK.out
  have HGF2 : Hid ((gvC ⟨z, L⟩ p = 0 → (gvV ⟨z, L⟩ p).L = L.filter (fun x => x.1 != p) ∧ (L.filter (fun x => x.1 != p)).length + 1 = L.length) ∧ (¬ gvC ⟨z, L⟩ p = 0 → gvC ⟨z, L⟩ p = 12 ∧ L.filter (fun x => x.1 != p) = L)) := HGF
  obtain ⟨F, hF⟩ : ∃ F, L.filter (fun y => y.1 != p) = F := ⟨_, rfl⟩
  have HF : Hid (L.filter (fun y => y.1 != p) = F) := hF
  obtain ⟨⟨hzx, d0, d1⟩, _⟩ := boxC HU.out.2.2.2.1
  obtain ⟨u1, u2, hu1, hu2, hY1, hY2, hb2⟩ := laid2 u 24 (.int .i64 0) (.slice none 0 0) (.int .i64 z) (.slice none 0 0)
  obtain ⟨⟨hz1, y0, y1⟩, g0, g1⟩ := boxC hY1
  obtain ⟨⟨_, b0, b1⟩, _⟩ := boxC (keep HU.out.2.2.2.1 hb2)
  have HY2 : Hid (u2.heap[u.heap.size]? = some (arO z (.slice none 0 0)) ∧ Below u.heap.size u u2) := ⟨hY2, hb2⟩
  clear hY1 hY2 hb2 HGF hF
  go_wp2_with fail
  try rw [hu2]
  clear hu2 hu1 y0 y1 g0 g1 d0 d1
  go_loopw [22] (fun i wr => ∃ (k : Nat) (v : Value) (acc : List Sp), k ≤ n ∧ i = .int .i64 (k : Int) ∧ acc.length ≤ k ∧ wr.heap[u.heap.size]? = some (arO z v) ∧ Sps wr (u.heap.size + 1) v acc ∧ Below u.heap.size u wr ∧ Hid (acc ++ (L.drop k).filter (fun y => y.1 != p) = F)) (fun i _ => n - (intOf i).toNat)
  case atStart => exact ⟨0, .slice none 0 0, [], Nat.zero_le _, rfl, Nat.le_refl _, HY2.out.1, Sps.nil _ _, HY2.out.2, HF.out⟩
  case round =>
    obtain ⟨k, v, acc, hk, rfl, hacc, hXo, hSo, hbr, HA⟩ := hrel
    have HXo : Hid (wr.heap[u.heap.size]? = some (arO z v) ∧ Sps wr (u.heap.size + 1) v acc ∧ Below u.heap.size u wr) := ⟨hXo, hSo, hbr⟩
    obtain ⟨va, vc, hve, _, _⟩ := hSo.form
    have HBR : Hid (wr.heap[w1.heap.size]? = some (arO 0 (.slice none 0 0)) ∧ wr.heap[w.heap.size]? = some (arO z (.slice a n c))) := ⟨keep HU.out.2.2.1 hbr, keep HU.out.2.2.2.1 hbr⟩
    have hlt1 : w1.heap.size < u.heap.size := (Array.getElem?_eq_some_iff.1 HU.out.2.2.1).1
    subst hve
    obtain ⟨m, hm⟩ : ∃ m, acc.length = m := ⟨_, rfl⟩
    have HM : Hid (acc.length = m) := hm
    rw [hm] at HXo hXo hacc
    obtain ⟨⟨_, o0, o1⟩, _⟩ := boxC hXo
    obtain ⟨⟨_, i0, i1⟩, _⟩ := boxC HBR.out.2
    by_cases hlt : ¬ k < n
    · have HQ : Hid (acc = F) := by
        have := HA.out
        rw [List.drop_eq_nil_of_le (by have := HN.out; omega)] at this
        show _ = _
        simpa using this
      obtain ⟨⟨_, r0, r1⟩, f0, f1⟩ := boxC HBR.out.1
      by_cases hg : gvC ⟨z, L⟩ p = 0
      · have hmn : m + 1 = n := by rw [← HM.out, HQ.out, ← HF.out, ← HN.out]; exact (HGF2.out.1 hg).2
        have e1 : ((m : Int) == (n : Int)) = false := by rw [beq_eq_false_iff_ne]; omega
        obtain ⟨uf, huf, hXf, hBf, hkf, hsf⟩ := put2 wr w1.heap.size (.int .i64 z) (.slice va m vc) HBR.out.1
        have hne : (Value.slice va m vc).ownBlock ≠ some w1.heap.size := fun q => by have := own_block HXo.out.2.1 _ q; omega
        have HAn : Hid (Z (.returned (.tuple #[arV z (.slice va m vc), .int .i64 0])) uf) := by
          show Z _ _
          have hzv : (gvV ⟨z, L⟩ p).z = z := by rw [(gv_parts hg).2.2]
          have hs7 : Sps uf (u.heap.size + 1) (.slice va m vc) acc := by
            rw [← huf]
            exact ownsRow_setCell_other (ownsRow_setCell_other HXo.out.2.1 hne _) hne _
          rw [← HZ.out, hg]
          refine ⟨_, by rw [hzv], ?_, hBf _ _ (by have := HU.out.2.2.2.2; omega) (bsq HU.out.2.1 hbr)⟩
          rw [(HGF2.out.1 hg).1, HF.out, ← HQ.out]
          exact hs7.rss
        obtain ⟨⟨hzf, y0, y1⟩, _⟩ := boxC hXf
        clear hXo hSo hbr HA hg hXf hBf hkf hsf hne hmn hm
        go_wp2
        try rw [huf]
        exact bodyPost_ret (v := .tuple #[arV z (.slice va m vc), .int .i64 0]) (by simp [results, Try.results18, go_sem, hzf, y0, y1]) rfl HAn.out
      · obtain ⟨q1, q2⟩ := HGF2.out.2 hg
        have hmn : m = n := by rw [← HM.out, HQ.out, ← HF.out, ← HN.out, q2]
        have e1 : ((m : Int) == (n : Int)) = true := by rw [beq_iff_eq]; omega
        obtain ⟨uf, huf, hXf, hBf, hkf, hsf⟩ := put2 wr w1.heap.size (.int .i64 0) (.slice none 0 0) HBR.out.1
        have HAn : Hid (Z (.returned (.tuple #[arV 0 (.slice none 0 0), .int .i64 12])) uf) := HErr.out 12 uf q1 (by decide) (hBf _ _ (by have := HU.out.2.2.2.2; omega) (bsq HU.out.2.1 hbr))
        obtain ⟨⟨hzf, y0, y1⟩, _⟩ := boxC hXf
        clear hXo hSo hbr HA hg hXf hBf hkf hsf hmn q1 q2 hm
        go_wp2
        try rw [huf]
        exact bodyPost_ret (v := .tuple #[arV 0 (.slice none 0 0), .int .i64 12]) (by simp [results, Try.results18, go_sem, hzf, y0, y1]) rfl HAn.out
    have hlt : k < n := by omega
    have hkL : k < L.length := by have := HN.out; omega
    obtain ⟨x, hx⟩ : ∃ x, L[k]? = some x := ⟨L[k], List.getElem?_eq_getElem hkL⟩
    have HA2 : Hid (acc ++ ((if (x.1 != p) = true then [x] else []) ++ (L.drop (k + 1)).filter (fun y => y.1 != p)) = F) := by have := HA.out; rw [filt_at p hx] at this; exact this
    obtain ⟨g, off, rfl, hcell⟩ := HU.out.1.at k x hx
    obtain ⟨c0, c1⟩ := hcell wr hbr
    obtain ⟨xp, xs⟩ := x
    simp only at c0 c1 HA2
    obtain ⟨v1, v2, hv1, hv2, hY1, hY2, hb2⟩ := laid2 wr 43 (.int .i64 0) (.int .i64 0) (.int .i64 xp) (.int .i64 xs)
    obtain ⟨⟨hy, y0, y1⟩, g0, g1⟩ := boxC hY1
    obtain ⟨⟨hyf, t0, t1⟩, _⟩ := boxC hY2
    have HX2 : Hid (v2.heap[u.heap.size]? = some (arO z (.slice va m vc)) ∧ Sps v2 (u.heap.size + 1) (.slice va m vc) acc ∧ Below u.heap.size u v2) := ⟨keep HXo.out.1 hb2, HXo.out.2.1.below hb2, HXo.out.2.2.trans (hb2.mono HXo.out.2.2.size)⟩
    clear hcell hx hkL hbr hXo hSo HA hY1 hY2 hb2 hm
    cases hpp : (xp != p)
    · rw [hpp] at HA2
      have HA3 : Hid (acc ++ (L.drop (k + 1)).filter (fun y => y.1 != p) = F) := HA2.out
      clear HA2
      go_wp2_with fail
      try rw [hv2]
      go_wp2
      go_roundw
      case rel => exact ⟨k + 1, .slice va m vc, acc, by omega, by go_num, by have := HM.out; omega, HX2.out.1, HX2.out.2.1, HX2.out.2.2, HA3.out⟩
      case measure => simp [intOf]; omega
    · rw [hpp] at HA2
      have HA3 : Hid ((acc ++ [(xp, xs)]) ++ (L.drop (k + 1)).filter (fun y => y.1 != p) = F) := by have := HA2.out; rw [if_pos rfl, ← List.append_assoc] at this; exact this
      obtain ⟨v3, hv3⟩ : ∃ v3, v2.alloc (spO xp xs) = v3 := ⟨_, rfl⟩
      have hb3 : Below v2.heap.size v2 v3 := by rw [← hv3]; exact balloc _ _
      have hR3 : Rss v3 (.slice (some ⟨v2.heap.size, 0, none⟩) 1 1) [(xp, xs)] := by rw [← hv3]; exact rss_laid v2 [(xp, xs)] (by simp)
      have HX3 : Hid (v3.heap[u.heap.size]? = some (arO z (.slice va m vc)) ∧ Sps v3 (u.heap.size + 1) (.slice va m vc) acc ∧ Below u.heap.size u v3 ∧ Rss v3 (.slice (some ⟨v2.heap.size, 0, none⟩) 1 1) [(xp, xs)] ∧ u.heap.size + 1 ≤ v3.heap.size) :=
        ⟨keep HX2.out.1 hb3, HX2.out.2.1.below hb3, HX2.out.2.2.trans (hb3.mono HX2.out.2.2.size), hR3, (Array.getElem?_eq_some_iff.1 (keep HX2.out.1 hb3)).1⟩
      obtain ⟨⟨_, s0, s1⟩, _⟩ := boxC HX2.out.1
      clear HA2 hb3 hR3
      go_wp2_with
        (at_builtin
         refine wpList_sps _ rfl _ _ rfl (u.heap.size + 1) _ acc rfl (by first | exact HX3.out.2.1 | (rw [hv2, hv3]; exact HX3.out.2.1)) _ [(xp, xs)] rfl (by first | exact HX3.out.2.2.2.1 | (rw [hv2, hv3]; exact HX3.out.2.2.2.1)) (by have := HM.out; simp; omega) (by first | exact HX3.out.2.2.2.2 | (rw [hv2, hv3]; exact HX3.out.2.2.2.2)) ?_
         intro v' w' q1 q2 q3
         have q3' : Below (u.heap.size + 1) v3 w' := by first | exact q3 | (rw [hv2, hv3] at q3; exact q3)
         have hXw : w'.heap[u.heap.size]? = some (arO z (.slice va m vc)) := (q3'.block _ (by omega)).trans HX3.out.1
         have hne : v'.ownBlock ≠ some u.heap.size := box_ne q1 hXw (by decide)
         have t1 : Hid ((w'.setCell ⟨u.heap.size, 1, none⟩ v').heap[u.heap.size]? = some (arO z v') ∧ Sps (w'.setCell ⟨u.heap.size, 1, none⟩ v') (u.heap.size + 1) v' (acc ++ [(xp, xs)]) ∧ Below u.heap.size u (w'.setCell ⟨u.heap.size, 1, none⟩ v')) :=
           ⟨csetX 1 _ hXw rfl, ownsRow_setCell_other q1 hne _, (HX3.out.2.2.1.trans (q3'.mono (by omega))).setCell (Nat.le_refl _) _⟩
         obtain ⟨⟨hzw, l0, l1⟩, m0, m1⟩ := boxC hXw
         obtain ⟨wa, wn, wc, rfl⟩ : ∃ a n c, v' = .slice a n c := by obtain ⟨a, c, h, _⟩ := Sps.form q1; exact ⟨_, _, _, h⟩
         clear q1 q2 q3 q3' hXw hne)
      go_wp2
      go_roundw
      case rel => exact ⟨k + 1, .slice wa wn wc, acc ++ [(xp, xs)], by omega, by go_num, by have := HM.out; simp; omega, t1.out.1, t1.out.2.1, t1.out.2.2, HA3.out⟩
      case measure => simp [intOf]; omega
end Go.Proofs.Ytifebinpjpalhaa.arena
