/- LaneFlips: the walk. -/
import Derived.Test.YtbpkmlgamlgicabLaneG
import Derived.Deep.QuietTactic
import Derived.BigQuiet
import Derived.WalkSmall
namespace Go.Proofs.Ytbpkmlgamlgicab.laneFlips
open Go.RowKit Go.PlainAid Go.Proofs.Ytbpkmlgamlgicab.lane

theorem unturn_get (c : Int) (l : List Int) (i : Nat) (h : i < l.length) : (unturnL c l).getD i 0 = sgn (l.getD i 0 == (c :: l).getD i 0) := by
  induction l generalizing c i with
  | nil => simp at h
  | cons x r ih =>
    unfold unturnL
    cases i with
    | zero => rfl
    | succ i =>
      have := ih x i (by simpa using h)
      simpa [List.getD] using this
theorem lev_get {l : List Int} (h : levB l = true) (i : Nat) (hi : i < l.length) : lev (l.getD i 0) = true := by
  unfold levB at h
  rw [List.all_eq_true] at h
  have : l.getD i 0 = l[i] := by simp [List.getD, List.getElem?_eq_getElem hi]
  rw [this]
  exact h _ (List.getElem_mem _)
theorem sgn_flip {x p : Int} (hx : lev x = true) (hp : lev p = true) : ¬ sgn (x == p) = sgn (flip x == p) := by
  rcases lev_cases hx with rfl | rfl <;> rcases lev_cases hp with rfl | rfl <;> decide
theorem sgn_flip' {x p : Int} (hx : lev x = true) (hp : lev p = true) : ¬ sgn (x == p) = sgn (x == flip p) := by
  rcases lev_cases hx with rfl | rfl <;> rcases lev_cases hp with rfl | rfl <;> decide
theorem getD_set (l : List Int) (a i : Nat) (v : Int) (ha : a < l.length) : (l.set a v).getD i 0 = if a = i then v else l.getD i 0 := by
  rw [List.getD, List.getD, List.getElem?_set]
  by_cases e : a = i
  · subst e; simp [ha]
  · simp [e]
/-- two rows of bits, of levels of which one is turned, differ at that one and the next -/
theorem differ (c : Int) (l : List Int) (a i : Nat) (hc : lev c = true) (hl : levB l = true) (ha : a < l.length) (hi : i < l.length) :
    ((unturnL c l).getD i 0 != (unturnL c (l.set a (flip (l.getD a 0)))).getD i 0) = (decide (i = a) || decide (i = a + 1)) := by
  rw [unturn_get c l i hi, unturn_get c _ i (by rw [List.length_set]; exact hi), getD_set l a i _ ha]
  have hx := lev_get hl i hi
  by_cases e : a = i
  · subst e
    have hp : lev ((c :: l).getD a 0) = true := by
      cases a with
      | zero => exact hc
      | succ a => exact lev_get hl a (by omega)
    have e2 : (c :: l.set a (flip (l.getD a 0))).getD a 0 = (c :: l).getD a 0 := by
      cases a with
      | zero => rfl
      | succ a =>
        show (l.set (a + 1) _).getD a 0 = l.getD a 0
        rw [getD_set l (a + 1) a _ ha, if_neg (by omega)]
    rw [if_pos rfl, e2]
    have := sgn_flip hx hp
    simpa using this
  · rw [if_neg e]
    by_cases e1 : i = a + 1
    · subst e1
      have e2 : (c :: l.set a (flip (l.getD a 0))).getD (a + 1) 0 = flip (l.getD a 0) := by
        show (l.set a _).getD a 0 = _
        rw [getD_set l a a _ ha, if_pos rfl]
      rw [e2]
      have := sgn_flip' hx (lev_get hl a ha)
      simpa using this
    · have e2 : (c :: l.set a (flip (l.getD a 0))).getD i 0 = (c :: l).getD i 0 := by
        cases i with
        | zero => rfl
        | succ i =>
          show (l.set a _).getD i 0 = l.getD i 0
          rw [getD_set l a i _ ha, if_neg (by omega)]
      rw [e2]
      simp [show ¬ i = a by omega, e1]
theorem levB_set (l : List Int) (a : Nat) (h : levB l = true) (ha : a < l.length) : levB (l.set a (flip (l.getD a 0))) = true := by
  unfold levB
  rw [List.all_eq_true]
  intro x hx
  rcases List.mem_or_eq_of_mem_set hx with hx | rfl
  · unfold levB at h
    rw [List.all_eq_true] at h
    exact h x hx
  · rw [lev_flip]; exact lev_get h a ha

set_option linter.unusedVariables false
set_option maxHeartbeats 2000000 in
theorem walk (a0 : ByteArray) (a1 : Int) (a2 : Int) (w0 : a0.size ≤ maxLen) (w1 : (Lit.int .u8 a1).wf = true) (w2 : (Lit.int .i64 a2).wf = true) (hs0 : a0.size ≤ 140737488351232) (w : World) :
    Calls Try.prog 6 #[.string a0, .int .u8 a1, .int .i64 a2] w fun e w' => e = .returned (.bool true) ∧ Below w.heap.size w w' := by
  clear w0 w1 w2
  go_enter Try.func6, Try.ntmps6
  go_wp2_with fail
  cases hl : levB (nums a0) && lev a1
  · refine (unturn_no a0 a1 _ (by omega) (Bool.and_eq_false_iff.1 hl)).mono ?_
    rintro e u1 ⟨rfl, hb1⟩
    clear hl
    go_wp2_with fail
    refine (lives_any _).mono ?_
    rintro e u2 ⟨rfl, hb2⟩
    go_wp2_with fail
    refine (lives_any _).mono ?_
    rintro e u3 ⟨rfl, hb3⟩
    go_wp2
    go_ret
    exact ⟨rfl, bseq (bseq hb1 hb2) hb3⟩
  · have h1 : levB (nums a0) = true := by simp at hl; exact hl.1
    have h2 : lev a1 = true := by simp at hl; exact hl.2
    have H1 : Hid (levB (nums a0) = true) := h1
    have H2 : Hid (lev a1 = true) := h2
    clear hl
    refine (unturn_ok a0 a1 _ (by omega) h1 h2).mono ?_
    rintro e u1 ⟨rfl, hb1⟩
    clear h1 h2
    go_wp2_with fail
    refine (lives_any _).mono ?_
    rintro e u2 ⟨rfl, hb2⟩
    replace hb1 := bseq hb1 hb2
    clear hb2
    by_cases hneg : a2 < 0
    · go_wp2
      go_ret
      exact ⟨rfl, hb1⟩
    · by_cases hge : (a0.size : Int) ≤ a2
      · have hd : decide (a2 < 0) = false := by simpa using hneg
        go_wp2
        go_ret
        exact ⟨rfl, hb1⟩
      · obtain ⟨a, rfl⟩ := Int.eq_ofNat_of_zero_le (show 0 ≤ a2 by omega)
        have ha : a < a0.size := by omega
        clear hneg hge
        have hcv := run_bytes_of_string (P := Try.prog) u2 9 27 5 a0 Try.underlying9 Try.underlying27 Try.underlying5
        have hby := byts_of u2 a0 (grownCap u2 a0.size 0 5)
        obtain ⟨cap, hcap⟩ : ∃ cap, grownCap u2 a0.size 0 5 = cap := ⟨_, rfl⟩
        rw [hcap] at hcv hby
        have hbel : Below u2.heap.size u2 (u2.drew.alloc (.cells (bytesRow a0 cap) 5 ((bytesRow a0 cap).size, (bytesRow a0 cap).size + 1))) := (Below.refl _ _).drew.alloc (Nat.le_refl _) _
        obtain ⟨u3, hu3⟩ : ∃ u3 : World, u2.drew.alloc (.cells (bytesRow a0 cap) 5 ((bytesRow a0 cap).size, (bytesRow a0 cap).size + 1)) = u3 := ⟨_, rfl⟩
        rw [hu3] at hcv hby hbel
        have hce := hby.cell a ha
        rw [← bt_nums a0 a ha] at hce
        have hfr := hby.free a ha
        have hxo := xor_one (bt a0 a) (bt_nonneg _ _) (bt_le _ _)
        have hset := hby.set a ha (flip (bt a0 a))
        have hcv2 := hset.conv (c := cap)
        have HB3 : Hid (Below u2.heap.size u2 (u3.setCell ⟨u2.heap.size, a, none⟩ (.int .u8 (flip (bt a0 a))))) := hbel.setCell (Nat.le_refl _) _
        have hln : a < (nums a0).length := by rw [nums_length]; exact ha
        have hlv := levB_set (nums a0) a H1.out hln
        rw [← bt_nums a0 a ha] at hlv
        obtain ⟨l2, hl2⟩ : ∃ l2, (nums a0).set a (flip (bt a0 a)) = l2 := ⟨_, rfl⟩
        have hlen2 : l2.length = a0.size := by rw [← hl2, List.length_set, nums_length]
        have hdiff : ∀ i, i < a0.size → (bt (strOfNums (unturnL a1 (nums a0))) i != bt (strOfNums (unturnL a1 l2)) i) = (decide (i = a) || decide (i = a + 1)) := by
          intro i hi
          have hd := differ a1 (nums a0) a i H2.out H1.out hln (by rw [nums_length]; exact hi)
          rw [← bt_nums a0 a ha, hl2] at hd
          rw [bt_nums _ i (by rw [str_size, unturnL_length, nums_length]; exact hi), bt_nums _ i (by rw [str_size, unturnL_length, hlen2]; exact hi), nums_unturn, nums_str _ (byt_row (rowB_unturn a1 l2))]
          exact hd
        rw [hl2] at hcv2 hlv
        have HLV : Hid (levB l2 = true) := hlv
        have HLN : Hid (l2.length = a0.size) := hlen2
        have HDF : Hid (∀ i, i < a0.size → (bt (strOfNums (unturnL a1 (nums a0))) i != bt (strOfNums (unturnL a1 l2)) i) = (decide (i = a) || decide (i = a + 1))) := hdiff
        clear hby hset hbel hcap hu3 hln hlv hl2 hlen2 hdiff
        go_wp2_with fail
        have hn2 : nums (strOfNums l2) = l2 := nums_str _ (byt_lev HLV.out)
        have hc2 := unturn_ok (strOfNums l2) a1 (u3.setCell ⟨u2.heap.size, a, none⟩ (.int .u8 (flip (bt a0 a)))) (by rw [str_size, HLN.out]; omega) (by rw [hn2]; exact HLV.out) H2.out
        rw [hn2] at hc2
        refine hc2.mono ?_
        rintro e u4 ⟨rfl, hb4⟩
        have HBE : Hid (Below w.heap.size w u4) := bseq (bseq hb1 HB3.out) hb4
        have hz1 : (strOfNums (unturnL a1 (nums a0))).size = a0.size := by rw [str_size, unturnL_length, nums_length]
        have hz2 : (strOfNums (unturnL a1 l2)).size = a0.size := by rw [str_size, unturnL_length, HLN.out]
        have HDF2 := HDF.out
        obtain ⟨rv, hrv⟩ : ∃ rv, strOfNums (unturnL a1 (nums a0)) = rv := ⟨_, rfl⟩
        obtain ⟨ov, hov⟩ : ∃ ov, strOfNums (unturnL a1 l2) = ov := ⟨_, rfl⟩
        rw [hrv] at hz1 HDF2 ⊢
        rw [hov] at hz2 HDF2 ⊢
        have HQ : Hid (∀ i, i < a0.size → (bt rv i != bt ov i) = (decide (i = a) || decide (i = a + 1))) := HDF2
        have b1 := get_bt rv
        have b2 := get_bt ov
        clear hcv hce hfr hxo hcv2 HB3 HLV HLN HDF HDF2 hn2 hc2 hb4 hb1 hrv hov
        go_wp2
        go_loopw [70] (fun i wr => ∃ k : Nat, k ≤ a0.size ∧ i = .int .i64 k ∧ Below w.heap.size w wr)
          (fun i _ => a0.size - (intOf i).toNat)
        case atStart => exact ⟨0, Nat.zero_le _, rfl, HBE.out⟩
        case round =>
          obtain ⟨k, hk, rfl, hbel⟩ := hrel
          by_cases hlt : k < a0.size
          · have hq := HQ.out k hlt
            have g1 : (k : Int) < (a0.size : Int) := by omega
            have g2 : k < rv.size := by omega
            have g3 : k < ov.size := by omega
            by_cases e1 : k = a
            · subst e1
              have q1 : (bt rv k != bt ov k) = true := by rw [hq]; simp
              have t1 : ((k : Int) == (k : Int)) = true := by simp
              clear hq
              go_wp2
              go_quiet (fail)
              go_wp2
              go_roundw
              case rel => exact ⟨k + 1, by omega, by go_num, below_drewN hbel _⟩
              case measure => simp [intOf]; omega
            · by_cases e2 : k = a + 1
              · have q1 : (bt rv k != bt ov k) = true := by rw [hq]; simp [e2]
                have t1 : ((k : Int) == (a : Int)) = false := by simp; omega
                have t2 : ((k : Int) - 1 == (a : Int)) = true := by simp; omega
                clear hq e2
                go_wp2
                go_quiet (fail)
                go_wp2
                go_roundw
                case rel => exact ⟨k + 1, by omega, by go_num, below_drewN hbel _⟩
                case measure => simp [intOf]; omega
              · have q1 : (bt rv k != bt ov k) = false := by rw [hq]; simp [e1, e2]
                have t1 : ((k : Int) == (a : Int)) = false := by simp; omega
                have t2 : ((k : Int) - 1 == (a : Int)) = false := by simp; omega
                clear hq
                go_wp2
                go_quiet (fail)
                go_wp2
                go_roundw
                case rel => exact ⟨k + 1, by omega, by go_num, below_drewN hbel _⟩
                case measure => simp [intOf]; omega
          · go_wp2
            go_ret
            exact ⟨rfl, hbel⟩
end Go.Proofs.Ytbpkmlgamlgicab.laneFlips
