/- plugref's phy: what Sent answers. -/
import Derived.Test.YtbkdalgmhmaofaaDoorPhyB
import Derived.Test.YtbkdalgmhmaofaaDoorLaneU
import Derived.Test.YtbkdalgmhmaofaaDoorLaneV
namespace Go.Proofs.YtbkdalgmhmaofaaDoor.lane
open Go.RowKit Go.PlainAid
set_option linter.unusedVariables false

set_option maxHeartbeats 1000000 in
theorem rsent_any (s : ByteArray) (w : World) (m : Int) (hm : w.cell? ⟨0, 0, none⟩ = some (.int .i64 m)) (hs : s.size ≤ maxLen) :
    Calls Tryd.prog 6 #[.string s] w fun e w' => e = .returned (.tuple #[.string (sentS s), .int .i64 (sizedL s.size)]) ∧ Below w.heap.size w w' := by
  have hlow : 0 < w.heap.size := World.block_lt_of_cell? w _ hm
  have HM : Hid (∀ u : World, Below w.heap.size w u → u.cell? ⟨0, 0, none⟩ = some (.int .i64 m)) := fun u hb => (hb.cell (p := ⟨0, 0, none⟩) hlow).trans hm
  clear hm hlow
  unfold maxLen at hs
  rcases sized_cases s.size with ⟨h0, h1, h2⟩ | ⟨h0, h1⟩
  · have e1 : sentS s = strOfNums (sentL (nums s)) := if_pos h0
    rw [e1, h0]
    have hne : ((s.size : Int) == 0) = false := beq_eq_false_iff_ne.2 (by omega)
    clear e1 h0 hs
    have H1 : Hid (∀ w, Calls Tryd.prog 15 #[.string s] w fun e w' => e = .returned (.string (strOfNums (bitsL (nums s)))) ∧ Below w.heap.size w w') := fun w => rbits_any s w (by omega)
    have en : nums ((⟨#[48, 48, 48, 48, 48, 48, 48, 49]⟩ : ByteArray) ++ strOfNums (bitsL (nums s))) = leadL ++ bitsL (nums s) := by
      rw [nums_append, nums_str _ (byt_row (rowB_bits _))]; rfl
    have es : (strOfNums (bitsL (nums s))).size = 8 * s.size := by rw [str_size, bitsL_length, nums_length]
    have ez : ((⟨#[48, 48, 48, 48, 48, 48, 48, 49]⟩ : ByteArray) ++ strOfNums (bitsL (nums s))).size = 8 + 8 * s.size := by rw [ByteArray.size_append, es]; rfl
    obtain ⟨b, hb⟩ : ∃ b, strOfNums (bitsL (nums s)) = b := ⟨_, rfl⟩
    rw [hb] at H1 en es ez
    clear hb
    obtain ⟨c, hc⟩ : ∃ c, (⟨#[48, 48, 48, 48, 48, 48, 48, 49]⟩ : ByteArray) ++ b = c := ⟨_, rfl⟩
    rw [hc] at en ez
    have hrow : rowB (nums c) = true := by rw [en]; exact rowB_lead _
    have et : nums (strOfNums (stuffL 0 (nums c))) = stuffL 0 (nums c) := nums_str _ (byt_row (rowB_stuff _ _ hrow))
    have hz : (strOfNums (stuffL 0 (nums c))).size ≤ 756 := by
      rw [str_size]
      have := stuffL_length 0 (nums c) (by omega)
      rw [nums_length] at this
      omega
    have H2 : Hid (∀ u, Below w.heap.size w u → Calls Tryd.prog 14 #[.string c] u fun e w' => e = .returned (.tuple #[.string (strOfNums (stuffL 0 (nums c))), .int .i64 0]) ∧ Below u.heap.size u w') := fun u hu => rstuff_ok c u m (HM.out u hu) (by omega) hrow
    obtain ⟨d, hd⟩ : ∃ d, strOfNums (stuffL 0 (nums c)) = d := ⟨_, rfl⟩
    rw [hd] at H2 et hz
    clear hd
    have hrow2 : rowB (nums d) = true := by rw [et]; exact rowB_stuff _ _ hrow
    have H3 : Hid (∀ w, Calls Tryd.prog 16 #[.string d, .int .u8 74] w fun e w' => e = .returned (.tuple #[.string (strOfNums (turnL 74 (nums d))), .int .i64 0]) ∧ Below w.heap.size w w') := fun w => rturn_ok d 74 w (by omega) hrow2 rfl
    have ef : strOfNums (sentL (nums s)) = strOfNums (turnL 74 (nums d)) ++ (⟨#[48, 48, 74]⟩ : ByteArray) := by
      unfold sentL waveL
      rw [← en, ← et, str_append]; rfl
    have hzf : (strOfNums (turnL 74 (nums d))).size = d.size := by rw [str_size, turnL_length, nums_length]
    have hzg : (strOfNums (turnL 74 (nums d)) ++ (⟨#[48, 48, 74]⟩ : ByteArray)).size = d.size + 3 := by rw [ByteArray.size_append, hzf]; rfl
    rw [ef]
    clear ef et en hrow hrow2
    obtain ⟨f, hf⟩ : ∃ f, strOfNums (turnL 74 (nums d)) = f := ⟨_, rfl⟩
    rw [hf] at H3 hzf hzg ⊢
    clear hf
    go_enter Tryd.func6, Tryd.ntmps6
    go_wp2_with fail
    refine (H1.out _).mono ?_
    rintro e u1 ⟨rfl, hb1⟩
    go_wp2_with fail
    refine (H2.out _ hb1).mono ?_
    rintro e u2 ⟨rfl, hb2⟩
    replace hb1 := bsq hb1 hb2
    clear hb2
    go_wp2_with fail
    refine (H3.out _).mono ?_
    rintro e u3 ⟨rfl, hb2⟩
    replace hb1 := bsq hb1 hb2
    clear hb2
    go_wp2
    go_ret2
    exact ⟨rfl, hb1⟩
  · have e1 : sentS s = ⟨#[]⟩ := if_neg h0
    rw [e1]
    rcases h1 with h1 | h1
    · obtain rfl := str_nil s h1
      clear h0 e1
      go_enter Tryd.func6, Tryd.ntmps6
      go_wp2
      go_ret2
      exact ⟨rfl, Below.refl _ _⟩
    · have e2 : sizedL s.size = 2 := by unfold sizedL; rw [if_neg (by omega), if_pos h1]
      have hne : ((s.size : Int) == 0) = false := beq_eq_false_iff_ne.2 (by omega)
      rw [e2]
      clear h0 e1 e2
      go_enter Tryd.func6, Tryd.ntmps6
      go_wp2
      go_ret2
      exact ⟨rfl, Below.refl _ _⟩
end Go.Proofs.YtbkdalgmhmaofaaDoor.lane
