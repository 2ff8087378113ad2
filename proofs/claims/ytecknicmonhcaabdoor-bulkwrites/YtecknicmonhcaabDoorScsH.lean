/- scsi: act. -/
import Derived.Test.YtecknicmonhcaabDoorScsG
namespace Go.Proofs.YtecknicmonhcaabDoor.scsi
open Go.RowKit Go.PlainAid Go.Proofs.YtecknicmonhcaabDoor.lane Go.Proofs.YtecknicmonhcaabDoor.pipe Go.Proofs.YtecknicmonhcaabDoor.strike
set_option linter.unusedVariables false
set_option linter.unusedSimpArgs false
set_option maxRecDepth 100000

theorem fm_zero (c : ByteArray) (h : fmC (nums c) = 0) : 0 < c.size ∧ frm (bt c 0) ≠ [] ∧ c.size = (frm (bt c 0)).length + 1 := by
  by_cases h0 : c.size = 0
  · have : nums c = [] := List.eq_nil_of_length_eq_zero (by rw [nums_length]; exact h0)
    rw [this] at h
    cases h
  have h0 : 0 < c.size := by omega
  rw [fm_cons c h0] at h
  refine ⟨h0, ?_, ?_⟩
  · intro q; rw [if_pos q] at h; cases h
  · split at h
    · cases h
    · split at h
      · cases h
      · omega
theorem frm_op (b : Int) (h : frm b ≠ []) : (b = 0 ∨ b = 3 ∨ b = 18 ∨ b = 26 ∨ b = 37 ∨ opB b = true) := by
  unfold frm at h
  split at h
  · omega
  · split at h
    · omega
    · split at h
      · omega
      · split at h
        · omega
        · split at h
          · rename_i q; have := (op_iff b).2 q; simp [this]
          · exact absurd rfl h
theorem sen_byt (s : Int) (h : senR s) : Byt (senL s) := by
  intro x hx
  rcases h with rfl | rfl | rfl | rfl <;> (simp [senL] at hx; omega)
theorem inq_byt : Byt inqL := by intro x hx; simp [inqL] at hx; omega
theorem mod_byt : Byt modL := by intro x hx; simp [modL] at hx; omega
set_option maxHeartbeats 4000000 in
theorem act_any (B g L cap : Nat) (d : Dk) (c x : ByteArray) (w : World) (ht : Txs w B (.slice (some ⟨g, 0, none⟩) L cap) d.b) (hB : B ≤ w.heap.size) (hn1 : 1 ≤ d.b.length) (hn2 : d.b.length ≤ 64) (h16 : ∀ y ∈ d.b, y.size = 16) (hs : senR d.s)
    (hcm : c.size ≤ maxLen) (hx : x.size ≤ maxLen) :
    Calls Tryd.prog 35 #[dkV (.slice (some ⟨g, 0, none⟩) L cap) d.s, .string c, .string x] w fun e w' => MvP B g L cap d c x w e w' := by
  obtain ⟨w0, hw0, hX, hb0⟩ := dk_named w (.slice (some ⟨g, 0, none⟩) L cap) d.s
  obtain ⟨⟨hz, x0, x1⟩, f0, f1⟩ := boxD hX
  have ht0 := ht.below hb0
  have HX : Hid (w0.heap[w.heap.size]? = some (dkO (.slice (some ⟨g, 0, none⟩) L cap) d.s)) := hX
  have HT0 : Hid (Txs w0 B (.slice (some ⟨g, 0, none⟩) L cap) d.b ∧ Below B w w0 ∧ B ≤ w0.heap.size) := ⟨ht0, hb0.mono hB, Nat.le_trans hB hb0.size⟩
  have HK : Hid (Calls Tryd.prog 49 #[.string c] w0 fun e w' => e = .returned (fmI (fmC (nums c))) ∧ Below w0.heap.size w0 w') := checkForm_any c hcm w0
  have hL := txs_len ht
  unfold MvP
  by_cases hf : fmC (nums c) ≠ 0
  · have hz : snS d.b.length (nums c) x.size = fmC (nums c) := by unfold snS; rw [if_pos hf]
    rw [hz, if_neg hf, if_neg hf]
    obtain ⟨k, hk⟩ : ∃ k, fmC (nums c) = k := ⟨_, rfl⟩
    rw [hk] at HK hf ⊢
    have hv : fmI k = .iface 83 (.agg #[.int .i64 k]) := if_neg hf
    rw [hv] at HK ⊢
    clear hz hf hk hv hX hb0 ht0 ht hB hn1 hn2 h16 hs hL
    go_enter Tryd.func35, Tryd.ntmps35
    go_wp2_with fail
    refine HK.out.mono ?_
    rintro e u ⟨rfl, hb⟩
    have HE : Hid (Txs u B (.slice (some ⟨g, 0, none⟩) L cap) d.b ∧ Below B w u) := ⟨HT0.out.1.below hb, HT0.out.2.1.trans (hb.mono HT0.out.2.2)⟩
    clear hb HK HT0
    go_wp2
    go_ret2
    exact ⟨rfl, HE.out⟩
  have hf : fmC (nums c) = 0 := Classical.not_not.1 hf
  rw [hf, show fmI 0 = .nilIface from rfl] at HK
  obtain ⟨hc0, hfn, hcs⟩ := fm_zero c hf
  have hbt := get_bt c
  have hop0 : (nums c).getD 0 0 = bt c 0 := (bt_nums c 0 hc0).symm
  have hns : opB (bt c 0) = false → snS d.b.length (nums c) x.size = 0 := fun q => by
    unfold snS; rw [if_neg (by rw [hf]; decide), hop0, q, if_neg (by decide)]
  rcases frm_op _ hfn with e | e | e | e | e | e
  · rw [hns (by rw [e]; rfl), if_pos rfl, if_pos rfl, show fmI 0 = .nilIface from rfl]
    rw [e] at hfn hcs
    have hW2 : newB d.b (nums c) x = d.b := by unfold newB; rw [hop0, e]; rfl
    rw [hW2]
    have hA2 : ansT d (nums c) = ⟨#[]⟩ := by unfold ansT; rw [hop0, e]; rfl
    rw [hA2]
    clear hf hX hb0 ht0 ht hB hn1 hn2 h16 hs hL hW2 hA2 hop0 hns hfn
    go_enter Tryd.func35, Tryd.ntmps35
    go_wp2_with fail
    refine HK.out.mono ?_
    rintro e' u ⟨rfl, hb⟩
    have HE : Hid (Txs u B (.slice (some ⟨g, 0, none⟩) L cap) d.b ∧ Below B w u ∧ B ≤ u.heap.size) := ⟨HT0.out.1.below hb, HT0.out.2.1.trans (hb.mono HT0.out.2.2), Nat.le_trans HT0.out.2.2 hb.size⟩
    obtain ⟨⟨hz', y0, y1⟩, g0, g1⟩ := boxD (keep HX.out hb)
    clear hb HK HT0 HX x0 x1 f0 f1 hz
    go_wp2
    go_ret2
    exact ⟨rfl, HE.out.1, HE.out.2.1⟩
  · rw [hns (by rw [e]; rfl), if_pos rfl, if_pos rfl, show fmI 0 = .nilIface from rfl]
    rw [e] at hfn hcs
    have hW2 : newB d.b (nums c) x = d.b := by unfold newB; rw [hop0, e]; rfl
    rw [hW2]
    have hA2 : ansT d (nums c) = strOfNums ((senL d.s).take ((nums c).getD 4 0).toNat) := by unfold ansT; rw [hop0, e]; rfl
    rw [hA2]
    have HS : Hid (∀ u, Calls Tryd.prog 51 #[.int .i64 d.s] u fun e w' => e = .returned (.string (strOfNums (senL d.s))) ∧ Below u.heap.size u w') := fun u => senseText_any d.s u hs
    have HC : Hid (∀ u, Calls Tryd.prog 50 #[.string (strOfNums (senL d.s)), .string c] u fun e w' => e = .returned (.string (strOfNums ((senL d.s).take ((nums c).getD 4 0).toNat))) ∧ Below u.heap.size u w') := fun u => (begin_any (senL d.s) c u (by rw [hcs]; decide) hcm (by simp [senL]) (sen_byt _ hs)).mono fun e w' h => ⟨h.1, h.2 ▸ Below.refl _ _⟩
    generalize strOfNums ((senL d.s).take ((nums c).getD 4 0).toNat) = T at *
    generalize strOfNums (senL d.s) = S at *
    clear hf hX hb0 ht0 ht hB hn1 hn2 h16 hs hL hW2 hA2 hop0 hns hfn
    go_enter Tryd.func35, Tryd.ntmps35
    go_wp2_with fail
    refine HK.out.mono ?_
    rintro e' u ⟨rfl, hb⟩
    have HE : Hid (Txs u B (.slice (some ⟨g, 0, none⟩) L cap) d.b ∧ Below B w u ∧ B ≤ u.heap.size) := ⟨HT0.out.1.below hb, HT0.out.2.1.trans (hb.mono HT0.out.2.2), Nat.le_trans HT0.out.2.2 hb.size⟩
    obtain ⟨⟨hz', y0, y1⟩, g0, g1⟩ := boxD (keep HX.out hb)
    clear hb HK HT0 HX x0 x1 f0 f1 hz
    go_wp2_with fail
    refine (HS.out _).mono ?_
    rintro e' u2 ⟨rfl, hb⟩
    replace HE : Hid (Txs u2 B (.slice (some ⟨g, 0, none⟩) L cap) d.b ∧ Below B w u2 ∧ B ≤ u2.heap.size) := ⟨HE.out.1.below hb, HE.out.2.1.trans (hb.mono HE.out.2.2), Nat.le_trans HE.out.2.2 hb.size⟩
    clear hb HS
    go_wp2_with fail
    refine (HC.out _).mono ?_
    rintro e' u2 ⟨rfl, hb⟩
    replace HE : Hid (Txs u2 B (.slice (some ⟨g, 0, none⟩) L cap) d.b ∧ Below B w u2 ∧ B ≤ u2.heap.size) := ⟨HE.out.1.below hb, HE.out.2.1.trans (hb.mono HE.out.2.2), Nat.le_trans HE.out.2.2 hb.size⟩
    clear hb HC
    go_wp2
    go_ret2
    exact ⟨rfl, HE.out.1, HE.out.2.1⟩
  · rw [hns (by rw [e]; rfl), if_pos rfl, if_pos rfl, show fmI 0 = .nilIface from rfl]
    rw [e] at hfn hcs
    have hW2 : newB d.b (nums c) x = d.b := by unfold newB; rw [hop0, e]; rfl
    rw [hW2]
    have hA2 : ansT d (nums c) = strOfNums (inqL.take ((nums c).getD 4 0).toNat) := by unfold ansT; rw [hop0, e]; rfl
    rw [hA2]
    have HC : Hid (∀ u, Calls Tryd.prog 50 #[.string ⟨#[0, 128, 4, 2, 31, 0, 0, 0, 112, 108, 117, 103, 116, 114, 101, 101, 100, 105, 115, 107, 32, 32, 32, 32, 32, 32, 32, 32, 32, 32, 32, 32, 49, 32, 32, 32]⟩, .string c] u fun e w' => e = .returned (.string (strOfNums (inqL.take ((nums c).getD 4 0).toNat))) ∧ Below u.heap.size u w') := fun u => (begin_any inqL c u (by rw [hcs]; decide) hcm (by simp [inqL]) inq_byt).mono fun e w' h => ⟨h.1, h.2 ▸ Below.refl _ _⟩
    generalize strOfNums (inqL.take ((nums c).getD 4 0).toNat) = T at *
    clear hf hX hb0 ht0 ht hB hn1 hn2 h16 hs hL hW2 hA2 hop0 hns hfn
    go_enter Tryd.func35, Tryd.ntmps35
    go_wp2_with fail
    refine HK.out.mono ?_
    rintro e' u ⟨rfl, hb⟩
    have HE : Hid (Txs u B (.slice (some ⟨g, 0, none⟩) L cap) d.b ∧ Below B w u ∧ B ≤ u.heap.size) := ⟨HT0.out.1.below hb, HT0.out.2.1.trans (hb.mono HT0.out.2.2), Nat.le_trans HT0.out.2.2 hb.size⟩
    obtain ⟨⟨hz', y0, y1⟩, g0, g1⟩ := boxD (keep HX.out hb)
    clear hb HK HT0 HX x0 x1 f0 f1 hz
    go_wp2_with fail
    refine (HC.out _).mono ?_
    rintro e' u2 ⟨rfl, hb⟩
    replace HE : Hid (Txs u2 B (.slice (some ⟨g, 0, none⟩) L cap) d.b ∧ Below B w u2 ∧ B ≤ u2.heap.size) := ⟨HE.out.1.below hb, HE.out.2.1.trans (hb.mono HE.out.2.2), Nat.le_trans HE.out.2.2 hb.size⟩
    clear hb HC
    go_wp2
    go_ret2
    exact ⟨rfl, HE.out.1, HE.out.2.1⟩
  · rw [hns (by rw [e]; rfl), if_pos rfl, if_pos rfl, show fmI 0 = .nilIface from rfl]
    rw [e] at hfn hcs
    have hW2 : newB d.b (nums c) x = d.b := by unfold newB; rw [hop0, e]; rfl
    rw [hW2]
    have hA2 : ansT d (nums c) = strOfNums (modL.take ((nums c).getD 4 0).toNat) := by unfold ansT; rw [hop0, e]; rfl
    rw [hA2]
    have HC : Hid (∀ u, Calls Tryd.prog 50 #[.string ⟨#[3, 0, 0, 0]⟩, .string c] u fun e w' => e = .returned (.string (strOfNums (modL.take ((nums c).getD 4 0).toNat))) ∧ Below u.heap.size u w') := fun u => (begin_any modL c u (by rw [hcs]; decide) hcm (by simp [modL]) mod_byt).mono fun e w' h => ⟨h.1, h.2 ▸ Below.refl _ _⟩
    generalize strOfNums (modL.take ((nums c).getD 4 0).toNat) = T at *
    clear hf hX hb0 ht0 ht hB hn1 hn2 h16 hs hL hW2 hA2 hop0 hns hfn
    go_enter Tryd.func35, Tryd.ntmps35
    go_wp2_with fail
    refine HK.out.mono ?_
    rintro e' u ⟨rfl, hb⟩
    have HE : Hid (Txs u B (.slice (some ⟨g, 0, none⟩) L cap) d.b ∧ Below B w u ∧ B ≤ u.heap.size) := ⟨HT0.out.1.below hb, HT0.out.2.1.trans (hb.mono HT0.out.2.2), Nat.le_trans HT0.out.2.2 hb.size⟩
    obtain ⟨⟨hz', y0, y1⟩, g0, g1⟩ := boxD (keep HX.out hb)
    clear hb HK HT0 HX x0 x1 f0 f1 hz
    go_wp2_with fail
    refine (HC.out _).mono ?_
    rintro e' u2 ⟨rfl, hb⟩
    replace HE : Hid (Txs u2 B (.slice (some ⟨g, 0, none⟩) L cap) d.b ∧ Below B w u2 ∧ B ≤ u2.heap.size) := ⟨HE.out.1.below hb, HE.out.2.1.trans (hb.mono HE.out.2.2), Nat.le_trans HE.out.2.2 hb.size⟩
    clear hb HC
    go_wp2
    go_ret2
    exact ⟨rfl, HE.out.1, HE.out.2.1⟩
  · rw [hns (by rw [e]; rfl), if_pos rfl, if_pos rfl, show fmI 0 = .nilIface from rfl]
    rw [e] at hfn hcs
    have hW2 : newB d.b (nums c) x = d.b := by unfold newB; rw [hop0, e]; rfl
    rw [hW2]
    have hA2 : ansT d (nums c) = strOfNums (be4 ((L : Int) - 1)) ++ strOfNums (be4 16) := by unfold ansT; rw [hop0, e, ← hL, ← str_append]; rfl
    rw [hA2]
    have HN : Hid (∀ u, Calls Tryd.prog 52 #[.int .i64 ((L : Int) - 1), .int .i64 4] u fun e w' => e = .returned (.string (strOfNums (be4 ((L : Int) - 1)))) ∧ Below u.heap.size u w') := fun u => number_4 _ u (by omega) (by omega)
    have HM : Hid (∀ u, Calls Tryd.prog 52 #[.int .i64 16, .int .i64 4] u fun e w' => e = .returned (.string (strOfNums (be4 16))) ∧ Below u.heap.size u w') := fun u => number_4 _ u (by omega) (by omega)
    have z1 : (strOfNums (be4 ((L : Int) - 1))).size = 4 := str_size _
    have z2 : (strOfNums (be4 16)).size = 4 := str_size _
    generalize strOfNums (be4 ((L : Int) - 1)) = T1 at *
    generalize strOfNums (be4 16) = T2 at *
    have hL1 : 1 ≤ L ∧ L ≤ 64 := by omega
    obtain ⟨hL1, hL2⟩ := hL1
    clear hf hX hb0 ht0 ht hB hn1 hn2 h16 hs hL hW2 hA2 hop0 hns hfn
    go_enter Tryd.func35, Tryd.ntmps35
    go_wp2_with fail
    refine HK.out.mono ?_
    rintro e' u ⟨rfl, hb⟩
    have HE : Hid (Txs u B (.slice (some ⟨g, 0, none⟩) L cap) d.b ∧ Below B w u ∧ B ≤ u.heap.size) := ⟨HT0.out.1.below hb, HT0.out.2.1.trans (hb.mono HT0.out.2.2), Nat.le_trans HT0.out.2.2 hb.size⟩
    obtain ⟨⟨hz', y0, y1⟩, g0, g1⟩ := boxD (keep HX.out hb)
    clear hb HK HT0 HX x0 x1 f0 f1 hz
    go_wp2_with fail
    refine (HN.out _).mono ?_
    rintro e' u2 ⟨rfl, hb⟩
    replace HE : Hid (Txs u2 B (.slice (some ⟨g, 0, none⟩) L cap) d.b ∧ Below B w u2 ∧ B ≤ u2.heap.size) := ⟨HE.out.1.below hb, HE.out.2.1.trans (hb.mono HE.out.2.2), Nat.le_trans HE.out.2.2 hb.size⟩
    clear hb HN
    go_wp2_with fail
    refine (HM.out _).mono ?_
    rintro e' u2 ⟨rfl, hb⟩
    replace HE : Hid (Txs u2 B (.slice (some ⟨g, 0, none⟩) L cap) d.b ∧ Below B w u2 ∧ B ≤ u2.heap.size) := ⟨HE.out.1.below hb, HE.out.2.1.trans (hb.mono HE.out.2.2), Nat.le_trans HE.out.2.2 hb.size⟩
    clear hb HM
    go_wp2
    go_ret2
    exact ⟨rfl, HE.out.1, HE.out.2.1⟩
  · have hc10 : c.size = 10 := by
      rw [hcs]
      rcases (op_iff _).1 e with q | q | q <;> (rw [q]; rfl)
    have HM : Hid (∀ u, Txs u B (.slice (some ⟨g, 0, none⟩) L cap) d.b → B ≤ u.heap.size → Calls Tryd.prog 53 #[dkV (.slice (some ⟨g, 0, none⟩) L cap) d.s, .string c, .string x] u fun e w' => MvP B g L cap d c x u e w') := fun u q1 q2 => move_any B g L cap d c x u q1 q2 hn1 hn2 h16 hc10 hf e hx
    unfold MvP at HM
    generalize (if snS d.b.length (nums c) x.size = 0 then ansT d (nums c) else ⟨#[]⟩) = T at *
    generalize (if snS d.b.length (nums c) x.size = 0 then newB d.b (nums c) x else d.b) = N at *
    generalize fmI (snS d.b.length (nums c) x.size) = V at *
    have hr := (op_iff _).1 e
    clear hf hX hb0 ht0 ht hB hn1 hn2 h16 hs hL hop0 hns hfn e hcs
    rcases hr with e | e | e <;> (
      go_enter Tryd.func35, Tryd.ntmps35
      go_wp2_with fail
      refine HK.out.mono ?_
      rintro e' u ⟨rfl, hb⟩
      have HE : Hid (Txs u B (.slice (some ⟨g, 0, none⟩) L cap) d.b ∧ Below B w u ∧ B ≤ u.heap.size) := ⟨HT0.out.1.below hb, HT0.out.2.1.trans (hb.mono HT0.out.2.2), Nat.le_trans HT0.out.2.2 hb.size⟩
      obtain ⟨⟨hz', y0, y1⟩, g0, g1⟩ := boxD (keep HX.out hb)
      clear hb HK HT0 HX x0 x1 f0 f1 hz
      go_wp2_with fail
      refine (HM.out _ HE.out.1 HE.out.2.2).mono ?_
      rintro e' u2 ⟨rfl, h1, h2⟩
      replace HE : Hid (Txs u2 B (.slice (some ⟨g, 0, none⟩) L cap) N ∧ Below B w u2) := ⟨h1, HE.out.2.1.trans h2⟩
      clear h1 h2 HM
      go_wp2
      go_ret2
      exact ⟨rfl, HE.out⟩)
end Go.Proofs.YtecknicmonhcaabDoor.scsi
