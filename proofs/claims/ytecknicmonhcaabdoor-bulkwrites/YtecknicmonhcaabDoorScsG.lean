/- scsi: move. -/
import Derived.Test.YtecknicmonhcaabDoorScsJ
namespace Go.Proofs.YtecknicmonhcaabDoor.scsi
open Go.RowKit Go.PlainAid Go.Proofs.YtecknicmonhcaabDoor.lane Go.Proofs.YtecknicmonhcaabDoor.pipe Go.Proofs.YtecknicmonhcaabDoor.strike
set_option linter.unusedVariables false
set_option linter.unusedSimpArgs false
set_option maxRecDepth 100000

theorem nums_part (c : ByteArray) (i j : Nat) : nums (c.extract i j) = ((nums c).drop i).take (j - i) := by
  unfold nums
  rw [ex_list, List.map_take, List.map_drop]
theorem bt_part (c : ByteArray) (i j k : Nat) (h : i + k < j) (hj : j ≤ c.size) : bt (c.extract i j) k = (nums c).getD (i + k) 0 := by
  rw [bt_nums _ _ (by rw [ByteArray.size_extract]; omega), nums_part]
  simp only [List.getD]
  rw [List.getElem?_take, if_pos (by omega), List.getElem?_drop]
theorem value_lba (c : ByteArray) (w : World) (h : c.size = 10) : Calls Tryd.prog 64 #[.string (c.extract 2 6)] w fun e w' => e = .returned (.int .i64 (lbaL (nums c))) ∧ w' = w := by
  refine (value_4 _ w (by rw [ByteArray.size_extract]; omega)).mono ?_
  rintro e u ⟨rfl, rfl⟩
  rw [bt_part c 2 6 0 (by omega) (by omega), bt_part c 2 6 1 (by omega) (by omega), bt_part c 2 6 2 (by omega) (by omega), bt_part c 2 6 3 (by omega) (by omega)]
  exact ⟨rfl, rfl⟩
theorem value_cnt (c : ByteArray) (w : World) (h : c.size = 10) : Calls Tryd.prog 64 #[.string (c.extract 7 9)] w fun e w' => e = .returned (.int .i64 (cntL (nums c))) ∧ w' = w := by
  refine (value_2 _ w (by rw [ByteArray.size_extract]; omega)).mono ?_
  rintro e u ⟨rfl, rfl⟩
  rw [bt_part c 7 9 0 (by omega) (by omega), bt_part c 7 9 1 (by omega) (by omega)]
  exact ⟨rfl, rfl⟩
theorem getD_range (c : ByteArray) (k : Nat) : 0 ≤ (nums c).getD k 0 ∧ (nums c).getD k 0 ≤ 255 := by
  by_cases h : k < c.size
  · rw [← bt_nums c k h]; exact bt_range c k
  · rw [List.getD, List.getElem?_eq_none (by rw [nums_length]; omega)]; exact ⟨by decide, by decide⟩
theorem lba_range (c : ByteArray) : 0 ≤ lbaL (nums c) ∧ lbaL (nums c) ≤ 4294967295 := by
  have h2 := getD_range c 2
  have h3 := getD_range c 3
  have h4 := getD_range c 4
  have h5 := getD_range c 5
  unfold lbaL val4
  omega
theorem cnt_range (c : ByteArray) : 0 ≤ cntL (nums c) ∧ cntL (nums c) ≤ 65535 := by
  have h2 := getD_range c 7
  have h3 := getD_range c 8
  unfold cntL
  omega
/-- what a command that is about blocks does -/
def MvP (B g L cap : Nat) (d : Dk) (c x : ByteArray) (w : World) (e : Ending) (w' : World) : Prop :=
  e = .returned (.tuple #[.string (if snS d.b.length (nums c) x.size = 0 then ansT d (nums c) else ⟨#[]⟩), fmI (snS d.b.length (nums c) x.size)]) ∧
  Txs w' B (.slice (some ⟨g, 0, none⟩) L cap) (if snS d.b.length (nums c) x.size = 0 then newB d.b (nums c) x else d.b) ∧ Below B w w'
set_option maxHeartbeats 4000000 in
theorem move_any (B g L cap : Nat) (d : Dk) (c x : ByteArray) (w : World) (ht : Txs w B (.slice (some ⟨g, 0, none⟩) L cap) d.b) (hB : B ≤ w.heap.size) (hn1 : 1 ≤ d.b.length) (hn2 : d.b.length ≤ 64) (h16 : ∀ y ∈ d.b, y.size = 16)
    (hc : c.size = 10) (hf : fmC (nums c) = 0) (hop : opB (bt c 0) = true) (hx : x.size ≤ maxLen) :
    Calls Tryd.prog 53 #[dkV (.slice (some ⟨g, 0, none⟩) L cap) d.s, .string c, .string x] w fun e w' => MvP B g L cap d c x w e w' := by
  obtain ⟨w0, hw0, hX, hb0⟩ := dk_named w (.slice (some ⟨g, 0, none⟩) L cap) d.s
  obtain ⟨⟨hz, x0, x1⟩, f0, f1⟩ := boxD hX
  have ht0 := ht.below hb0
  have HT0 : Hid (∀ m, Txs (w0.drewN m) B (.slice (some ⟨g, 0, none⟩) L cap) d.b ∧ Below B w (w0.drewN m)) := fun m => ⟨ht0.below (below_drewN (Below.refl _ _) m), below_drewN (hb0.mono hB) m⟩
  have HV4 : Hid (∀ u, Calls Tryd.prog 64 #[.string (c.extract 2 6)] u fun e w' => e = .returned (.int .i64 (lbaL (nums c))) ∧ w' = u) := fun u => value_lba c u hc
  have HV2 : Hid (∀ u, Calls Tryd.prog 64 #[.string (c.extract 7 9)] u fun e w' => e = .returned (.int .i64 (cntL (nums c))) ∧ w' = u) := fun u => value_cnt c u hc
  have hs4 : ∀ W, (Instr.slice 9 (.string c) (some (.int .i64 2)) (some (.int .i64 6)) none).run Tryd.prog W = .ok (.string (c.extract 2 6)) W := fun W => run_part c 2 6 (by omega) (by omega) (by omega) W
  have hs2 : ∀ W, (Instr.slice 9 (.string c) (some (.int .i64 7)) (some (.int .i64 9)) none).run Tryd.prog W = .ok (.string (c.extract 7 9)) W := fun W => run_part c 7 9 (by omega) (by omega) (by omega) W
  generalize c.extract 2 6 = y4 at HV4 hs4
  generalize c.extract 7 9 = y2 at HV2 hs2
  have hop0 : (nums c).getD 0 0 = bt c 0 := (bt_nums c 0 (by omega)).symm
  obtain ⟨l0, l1⟩ := lba_range c
  obtain ⟨q0, q1⟩ := cnt_range c
  have HS : Hid (snS d.b.length (nums c) x.size = if (d.b.length : Int) < lbaL (nums c) + cntL (nums c) then 33 else if bt c 0 = 42 ∧ (x.size : Int) ≠ 16 * cntL (nums c) then 36 else 0) := by
    show _ = _
    unfold snS
    rw [if_neg (by rw [hf]; decide), hop0, if_pos hop]
  have HA : Hid (ansT d (nums c) = if bt c 0 = 40 then cat ((d.b.drop (lbaL (nums c)).toNat).take (cntL (nums c)).toNat) else ⟨#[]⟩) := by
    show _ = _
    unfold ansT
    rw [hop0]
    rcases (op_iff _).1 hop with e | e | e <;> (rw [e]; simp)
  have HW : Hid (newB d.b (nums c) x = if bt c 0 = 42 then wrB d.b (lbaL (nums c)).toNat (cntL (nums c)).toNat x else d.b) := by
    show _ = _
    unfold newB
    rw [hop0]
  have HB0 : Hid (B ≤ w.heap.size) := hB
  have H16 : Hid (∀ y ∈ d.b, y.size = 16) := h16
  have hL := txs_len ht
  unfold MvP
  have hbt := get_bt c
  obtain ⟨i, hi⟩ := Int.eq_ofNat_of_zero_le l0
  obtain ⟨n, hn⟩ := Int.eq_ofNat_of_zero_le q0
  rw [hi, hn] at HS
  rw [hi, hn, Int.toNat_natCast, Int.toNat_natCast] at HA HW
  rw [hi] at HV4 l1
  rw [hn] at HV2 q1
  obtain ⟨r, hr⟩ : ∃ r, bt c 0 = r := ⟨_, rfl⟩
  rw [hr] at HS HA HW hop
  obtain ⟨z, hz⟩ : ∃ z, snS d.b.length (nums c) x.size = z := ⟨_, rfl⟩
  rw [hz] at HS ⊢
  unfold maxLen at hx
  clear hi hn l0 q0 hop0 hX hb0 ht0 hf h16 hz
  by_cases h33 : d.b.length < i + n
  · obtain rfl : z = 33 := by
      have := HS.out
      rw [if_pos (by omega)] at this
      exact this
    have e1 : ((i : Int) + (n : Int) > (d.b.length : Int)) := by omega
    rw [if_neg (by decide), if_neg (by decide), show fmI 33 = .iface 83 (.agg #[.int .i64 33]) from rfl]
    rw [hL] at e1
    clear HS HA HW H16 h33 hop hB ht hL hn1 hn2
    go_enter Tryd.func53, Tryd.ntmps53
    go_wp2_with fail
    go_quiet ((go_at_call 64; first | with_reducible exact Calls.quiet_of_same (HV4.out _) | with_reducible exact Calls.quiet_of_same (HV2.out _)))
    clear HV4 HV2 hs4 hs2
    go_wp2
    go_ret2
    exact ⟨rfl, (HT0.out _).1, (HT0.out _).2⟩
  have hin : i + n ≤ d.b.length := by omega
  have hn64 : n ≤ 64 := by omega
  rw [if_neg (by omega)] at HS
  obtain ⟨a1, ha1, hsl, hrt⟩ := txs_part ht i n hin
  have e1 : ¬ ((i : Int) + (n : Int) > (L : Int)) := by omega
  have hcap : n ≤ cap - i ∧ cap ≤ maxLen := by
    obtain ⟨_, cc, hv, h1, h2⟩ := ht.form
    injection hv with _ _ e3
    subst e3
    omega
  rcases (op_iff _).1 hop with rfl | rfl | rfl
  · obtain rfl : z = 0 := by
      have := HS.out
      rw [if_neg (by omega)] at this
      exact this
    rw [if_pos rfl, if_pos rfl, show fmI 0 = .nilIface from rfl, HA.out, HW.out, if_pos rfl, if_neg (by decide)]
    have hsz : sizes ((d.b.drop i).take n) = 16 * n := by
      have h1 := size16 ((d.b.drop i).take n) fun y hy => H16.out y (List.mem_of_mem_drop (List.mem_of_mem_take hy))
      rw [cat_size, List.length_take, List.length_drop] at h1
      omega
    have HJ : Hid (∀ m, Calls Tryd.prog 66 #[.slice a1 n (cap - i), .string ⟨#[]⟩] (w0.drewN m) fun e w' => e = .returned (.string (cat ((d.b.drop i).take n))) ∧ Below (w0.drewN m).heap.size (w0.drewN m) w') := fun m => join_any _ _ _ (hrt _ (HT0.out m).1) (by omega) (by rw [List.length_take]; omega)
    generalize cat ((d.b.drop i).take n) = T at *
    clear HS HA HW H16 h33 hop hB ht hL hn1 hn2 ha1 hrt hsz
    go_enter Tryd.func53, Tryd.ntmps53
    go_wp2_with fail
    go_quiet ((go_at_call 64; first | with_reducible exact Calls.quiet_of_same (HV4.out _) | with_reducible exact Calls.quiet_of_same (HV2.out _)))
    clear HV4 HV2 hs4 hs2
    go_wp2_with fail
    refine (HJ.out _).mono ?_
    rintro e u ⟨rfl, hb⟩
    have HE : Hid (Txs u B (.slice (some ⟨g, 0, none⟩) L cap) d.b ∧ Below B w u) := ⟨(HT0.out _).1.below hb, (HT0.out _).2.trans (hb.mono (Nat.le_trans HB0.out (HT0.out _).2.size))⟩
    clear hb HJ HT0
    go_wp2
    go_ret2
    exact ⟨rfl, HE.out⟩
  · by_cases hbad : (x.size : Int) ≠ 16 * (n : Int)
    · obtain rfl : z = 36 := by
        have := HS.out
        rw [if_pos ⟨rfl, hbad⟩] at this
        exact this
      rw [if_neg (by decide), if_neg (by decide), show fmI 36 = .iface 83 (.agg #[.int .i64 36]) from rfl]
      have HC : Hid (∀ u, Calls Tryd.prog 67 #[.slice a1 n (cap - i), .string x] u fun e w' => e = .returned (.iface 83 (.agg #[.int .i64 36])) ∧ u = w') := fun u => write_bad a1 n (cap - i) x u hn64 hx (by omega)
      clear HS HA HW H16 h33 hop hB ht hL hn1 hn2 ha1 hrt hbad
      go_enter Tryd.func53, Tryd.ntmps53
      go_wp2_with fail
      go_quiet ((go_at_call 64; first | with_reducible exact Calls.quiet_of_same (HV4.out _) | with_reducible exact Calls.quiet_of_same (HV2.out _)))
      clear HV4 HV2 hs4 hs2
      go_wp2_with fail
      refine (HC.out _).mono ?_
      rintro e u ⟨rfl, rfl⟩
      clear HC
      go_wp2
      go_ret2
      exact ⟨rfl, (HT0.out _).1, (HT0.out _).2⟩
    · have hgood : x.size = 16 * n := by omega
      obtain rfl : z = 0 := by
        have := HS.out
        rw [if_neg (by omega)] at this
        exact this
      rw [if_pos rfl, if_pos rfl, show fmI 0 = .nilIface from rfl, HA.out, HW.out, if_neg (by decide), if_pos rfl]
      have HC : Hid (∀ m, Calls Tryd.prog 67 #[.slice a1 n (cap - i), .string x] (w0.drewN m) fun e w' => e = .returned .nilIface ∧ Txs w' B (.slice (some ⟨g, 0, none⟩) L cap) (wrB d.b i n x) ∧ Below B (w0.drewN m) w') := fun m =>
        (write_good a1 n (cap - i) i x B g L cap d.b (w0.drewN m) (HT0.out m).1 hn2 hin ha1 hgood).mono fun e w' h => ⟨h.1, h.2.1, h.2.2.1⟩
      clear HS HA HW H16 h33 hop hB ht hL hn1 hn2 ha1 hrt hbad hgood
      go_enter Tryd.func53, Tryd.ntmps53
      go_wp2_with fail
      go_quiet ((go_at_call 64; first | with_reducible exact Calls.quiet_of_same (HV4.out _) | with_reducible exact Calls.quiet_of_same (HV2.out _)))
      clear HV4 HV2 hs4 hs2
      go_wp2_with fail
      refine (HC.out _).mono ?_
      rintro e u ⟨rfl, h1, h2⟩
      have HE : Hid (Txs u B (.slice (some ⟨g, 0, none⟩) L cap) (wrB d.b i n x) ∧ Below B w u) := ⟨h1, (HT0.out _).2.trans h2⟩
      clear h1 h2 HC HT0
      go_wp2
      go_ret2
      exact ⟨rfl, HE.out⟩
  · obtain rfl : z = 0 := by
      have := HS.out
      rw [if_neg (by omega)] at this
      exact this
    rw [if_pos rfl, if_pos rfl, show fmI 0 = .nilIface from rfl, HA.out, HW.out, if_neg (by decide), if_neg (by decide)]
    clear HS HA HW H16 h33 hop hB ht hL hn1 hn2 ha1 hrt
    go_enter Tryd.func53, Tryd.ntmps53
    go_wp2_with fail
    go_quiet ((go_at_call 64; first | with_reducible exact Calls.quiet_of_same (HV4.out _) | with_reducible exact Calls.quiet_of_same (HV2.out _)))
    clear HV4 HV2 hs4 hs2
    go_wp2
    go_ret2
    exact ⟨rfl, (HT0.out _).1, (HT0.out _).2⟩
end Go.Proofs.YtecknicmonhcaabDoor.scsi
