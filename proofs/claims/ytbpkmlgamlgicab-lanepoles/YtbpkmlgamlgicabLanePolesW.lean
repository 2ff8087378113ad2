/- LanePoles: the walk. -/
import Derived.Test.YtbpkmlgamlgicabLaneG
namespace Go.Proofs.Ytbpkmlgamlgicab.lanePoles
open Go.RowKit Go.PlainAid Go.Proofs.Ytbpkmlgamlgicab.lane

theorem set_flip (l : List Int) (k : Nat) (h : k < l.length) (v : Int) (hv : v = flip (l.getD k 0)) : ((l.take k).map flip ++ l.drop k).set k v = (l.take (k + 1)).map flip ++ l.drop (k + 1) := by
  subst hv
  have hl : ((l.take k).map flip).length = k := by rw [List.length_map, List.length_take]; omega
  rw [List.set_append_right _ _ (by omega), hl, Nat.sub_self, List.drop_eq_getElem_cons h, List.set_cons_zero]
  rw [List.take_succ_eq_append_getElem h, List.map_append]
  simp [List.getD, List.getElem?_eq_getElem h]
theorem mid_get (l : List Int) (k : Nat) (h : k < l.length) : ((l.take k).map flip ++ l.drop k).getD k 0 = l.getD k 0 := by
  have hl : ((l.take k).map flip).length = k := by rw [List.length_map, List.length_take]; omega
  rw [List.getD, List.getD, List.getElem?_append_right (by omega), hl, Nat.sub_self, List.getElem?_drop]
  rfl

set_option linter.unusedVariables false
set_option maxHeartbeats 2000000 in
theorem walk (a0 : ByteArray) (a1 : Int) (w0 : a0.size ≤ maxLen) (w1 : (Lit.int .u8 a1).wf = true) (hs0 : a0.size ≤ 140737488351232) (w : World) :
    Calls Try.prog 7 #[.string a0, .int .u8 a1] w fun e w' => e = .returned (.bool true) ∧ Below w.heap.size w w' := by
  have hwf := bounds_u8 w1
  have hx2 := xor_two a1 hwf.1 hwf.2
  clear w0 w1
  obtain ⟨r1, r2, hcall⟩ : ∃ r1 r2, (∀ u : World, Calls Try.prog 13 #[.string a0, .int .u8 a1] u fun e w' => e = .returned (.tuple #[.string r1, .int .i64 r2]) ∧ Below u.heap.size u w') ∧
      (∀ u : World, Calls Try.prog 13 #[.string (strOfNums ((nums a0).map flip)), .int .u8 (flip a1)] u fun e w' => e = .returned (.tuple #[.string r1, .int .i64 r2]) ∧ Below u.heap.size u w') := by
    have hn : nums (strOfNums ((nums a0).map flip)) = (nums a0).map flip := nums_str _ (byt_flip (nums_byt a0))
    have hz : (strOfNums ((nums a0).map flip)).size = a0.size := by rw [str_size, List.length_map, nums_length]
    cases hl : levB (nums a0) && lev a1
    · have h := Bool.and_eq_false_iff.1 hl
      exact ⟨_, _, fun u => unturn_no a0 a1 u (by omega) h, fun u => unturn_no _ (flip a1) u (by omega) (by rw [hn, levB_flip, lev_flip]; exact h)⟩
    · have h1 : levB (nums a0) = true := by simp at hl; exact hl.1
      have h2 : lev a1 = true := by simp at hl; exact hl.2
      refine ⟨_, _, fun u => unturn_ok a0 a1 u (by omega) h1 h2, fun u => ?_⟩
      have := unturn_ok (strOfNums ((nums a0).map flip)) (flip a1) u (by omega) (by rw [hn, levB_flip]; exact h1) (by rw [lev_flip]; exact h2)
      rw [hn, unturn_flip] at this
      exact this
  have HC1 : Hid (∀ u : World, Calls Try.prog 13 #[.string a0, .int .u8 a1] u fun e w' => e = .returned (.tuple #[.string r1, .int .i64 r2]) ∧ Below u.heap.size u w') := hcall.1
  have HC2 : Hid (∀ u : World, Calls Try.prog 13 #[.string (strOfNums ((nums a0).map flip)), .int .u8 (flip a1)] u fun e w' => e = .returned (.tuple #[.string r1, .int .i64 r2]) ∧ Below u.heap.size u w') := hcall.2
  clear hcall
  go_enter Try.func7, Try.ntmps7
  go_wp2_with fail
  refine (HC1.out _).mono ?_
  rintro e u1 ⟨rfl, hb1⟩
  have hcv := run_bytes_of_string (P := Try.prog) u1 9 27 5 a0 Try.underlying9 Try.underlying27 Try.underlying5
  have hby := byts_of u1 a0 (grownCap u1 a0.size 0 5)
  obtain ⟨cap, hcap⟩ : ∃ cap, grownCap u1 a0.size 0 5 = cap := ⟨_, rfl⟩
  rw [hcap] at hcv hby
  have HB : Hid (Byts _ u1.heap.size a0.size (nums a0)) := hby
  have hbel : Below u1.heap.size u1 (u1.drew.alloc (.cells (bytesRow a0 cap) 5 ((bytesRow a0 cap).size, (bytesRow a0 cap).size + 1))) := (Below.refl _ _).drew.alloc (Nat.le_refl _) _
  have HW : Hid (Below u1.heap.size u1 (u1.drew.alloc (.cells (bytesRow a0 cap) 5 ((bytesRow a0 cap).size, (bytesRow a0 cap).size + 1)))) := hbel
  clear hby hcap hbel
  go_wp2
  go_loopw [21] (fun i wr => ∃ k : Nat, k ≤ a0.size ∧ i = .int .i64 k ∧ Byts wr u1.heap.size a0.size (((nums a0).take k).map flip ++ (nums a0).drop k) ∧ Below u1.heap.size u1 wr)
    (fun i _ => a0.size - (intOf i).toNat)
  case atStart => exact ⟨0, Nat.zero_le _, rfl, HB.out, HW.out⟩
  case round =>
    obtain ⟨k, hk, rfl, hbyt, hbel⟩ := hrel
    clear HB HW hcv
    by_cases hlt : k < a0.size
    · have hln : k < (nums a0).length := by rw [nums_length]; exact hlt
      have hce := hbyt.cell k hlt
      rw [mid_get _ _ hln, ← bt_nums a0 k hlt] at hce
      have hfr := hbyt.free k hlt
      have hxo := xor_one (bt a0 k) (bt_nonneg _ _) (bt_le _ _)
      have HY : Hid (Byts wr u1.heap.size a0.size (((nums a0).take k).map flip ++ (nums a0).drop k)) := hbyt
      clear hbyt
      go_wp2
      go_roundw
      case rel => exact ⟨k + 1, by omega, by go_num, by have h := HY.out.set k hlt (flip (bt a0 k)); rw [set_flip _ k hln _ (by rw [bt_nums a0 k hlt])] at h; exact h, hbel.setCell (Nat.le_refl _) _⟩
      case measure => simp [intOf]; omega
    · obtain rfl : k = a0.size := by omega
      rw [List.take_of_length_le (by rw [nums_length]; omega), drop_end _ _ (Nat.le_refl _), List.append_nil] at hbyt
      have hcv2 := hbyt.conv (c := cap)
      have HBE : Hid (Below w.heap.size w wr) := bseq hb1 hbel
      clear hbyt hbel hb1
      go_wp2_with fail
      refine (HC2.out _).mono ?_
      rintro e u2 ⟨rfl, hb2⟩
      clear hcv2
      go_wp2_with fail
      refine (lives_any _).mono ?_
      rintro e u3 ⟨rfl, hb3⟩
      go_wp2
      go_ret
      exact ⟨rfl, bseq (bseq HBE.out hb2) hb3⟩
end Go.Proofs.Ytbpkmlgamlgicab.lanePoles
