/- phy: what sized, HasPrefix, Send and Piece answer. -/
import Derived.Test.YtbkdalgmhmaofaaDoorLaneE
import Derived.Test.YtbkdalgmhmaofaaDoorPhyM
import Derived.WalkKit
import Derived.Handy
import Derived.Below
namespace Go.Proofs.YtbkdalgmhmaofaaDoor.lane
open Go.RowKit Go.PlainAid
set_option linter.unusedVariables false

theorem nums_inj {a b : ByteArray} (h : nums a = nums b) : a = b := by rw [← str_nums a, h, str_nums]
theorem bsq {w w1 w2 : World} (h1 : Below w.heap.size w w1) (h2 : Below w1.heap.size w1 w2) : Below w.heap.size w w2 := h1.trans (h2.mono h1.size)
theorem str_nil (s : ByteArray) (h : s.size = 0) : s = ⟨#[]⟩ := by
  apply nums_inj
  have : (nums s).length = 0 := by rw [nums_length]; exact h
  rw [List.eq_nil_of_length_eq_zero this]; rfl

set_option maxHeartbeats 400000 in
theorem sized_any (s : ByteArray) (w : World) (hs : s.size ≤ maxLen) :
    Calls Tryd.prog 10 #[.string s] w fun e w' => e = .returned (.int .i64 (sizedL s.size)) ∧ w = w' := by
  unfold maxLen at hs
  by_cases h0 : s.size = 0
  · obtain rfl := str_nil s h0
    go_enter Tryd.func10, Tryd.ntmps10
    go_wp2
    go_ret
    exact ⟨rfl, rfl⟩
  · have hf := str_full s (by omega)
    by_cases h80 : 80 < s.size
    · have e : sizedL s.size = 2 := by unfold sizedL; rw [if_neg h0, if_pos h80]
      rw [e]
      go_enter Tryd.func10, Tryd.ntmps10
      go_wp2
      go_ret
      exact ⟨rfl, rfl⟩
    · have e : sizedL s.size = 0 := by unfold sizedL; rw [if_neg h0, if_neg h80]
      rw [e]
      go_enter Tryd.func10, Tryd.ntmps10
      go_wp2
      go_ret
      exact ⟨rfl, rfl⟩

theorem toList_beq (a b : ByteArray) : (a.toList == b.toList) = decide (a = b) := by
  rw [ByteArray.toList_eq, ByteArray.toList_eq]
  by_cases h : a = b
  · subst h; simp
  · rw [decide_eq_false h]
    have : ¬ a.data.toList = b.data.toList := by
      intro c
      apply h
      apply ByteArray.ext
      apply Array.toList_inj.1 c
    simpa using this
theorem ext_nums (s p : ByteArray) (h : (nums s).take p.size = nums p) : s.extract 0 p.size = p := by
  apply nums_inj
  rw [nums_extract, List.drop_zero, h]
theorem ext_not (s p : ByteArray) (h : ¬ (nums s).take p.size = nums p) : ¬ s.extract 0 p.size = p := by
  intro c
  apply h
  have := congrArg nums c
  rwa [nums_extract, List.drop_zero] at this

set_option maxHeartbeats 400000 in
theorem hasPrefixLite (s p : ByteArray) (w : World) (hs : s.size ≤ maxLen) (hp : p.size ≤ maxLen) :
    Calls Tryd.prog 66 #[.string s, .string p] w fun e w' => e = .returned (.bool (decide ((nums s).take p.size = nums p))) ∧ w = w' := by
  unfold maxLen at hs hp
  by_cases hl : p.size ≤ s.size
  · by_cases h : (nums s).take p.size = nums p
    · have e := ext_nums s p h
      rw [decide_eq_true h]
      clear h
      go_enter Tryd.func66, Tryd.ntmps66
      go_wp2
      go_ret
      exact ⟨rfl, rfl⟩
    · have e : ((s.extract 0 p.size).toList == p.toList) = false := by rw [toList_beq]; exact decide_eq_false (ext_not s p h)
      rw [decide_eq_false h]
      clear h
      go_enter Tryd.func66, Tryd.ntmps66
      go_wp2
      go_ret
      exact ⟨rfl, rfl⟩
  · have h : ¬ (nums s).take p.size = nums p := by
      intro c
      have := congrArg List.length c
      rw [List.length_take, nums_length, nums_length] at this
      omega
    rw [decide_eq_false h]
    clear h
    go_enter Tryd.func66, Tryd.ntmps66
    go_wp2
    go_ret
    exact ⟨rfl, rfl⟩
theorem hasPrefix_any (s p : ByteArray) (w : World) (hs : s.size ≤ maxLen) (hp : p.size ≤ maxLen) :
    Calls Tryd.prog 51 #[.string s, .string p] w fun e w' => e = .returned (.bool (decide ((nums s).take p.size = nums p))) ∧ w = w' := by
  have H : Hid (∀ w, Calls Tryd.prog 66 #[.string s, .string p] w fun e w' => e = .returned (.bool (decide ((nums s).take p.size = nums p))) ∧ w = w') := fun w => hasPrefixLite s p w hs hp
  go_enter Tryd.func51, Tryd.ntmps51
  go_wp2_with fail
  refine (H.out _).mono ?_
  rintro e w' ⟨rfl, rfl⟩
  go_wp2
  go_ret
  exact ⟨rfl, rfl⟩

def sentS (s : ByteArray) : ByteArray := if sizedL s.size = 0 then strOfNums (sentL (nums s)) else ⟨#[]⟩
theorem sized_cases (n : Nat) : (sizedL n = 0 ∧ 1 ≤ n ∧ n ≤ 80) ∨ (¬ sizedL n = 0 ∧ (n = 0 ∨ 80 < n)) := by
  unfold sizedL
  split
  · right; simp; omega
  · split
    · right; simp; omega
    · left; simp; omega
theorem byt_end : Byt endL := by intro x hx; simp [endL] at hx; omega
theorem byt_append {a b : List Int} (ha : Byt a) (hb : Byt b) : Byt (a ++ b) := by
  intro x hx
  rcases List.mem_append.1 hx with h | h
  · exact ha x h
  · exact hb x h
theorem byt_sent (l : List Int) : Byt (sentL l) := byt_append (byt_lev (levB_wave l)) byt_end
set_option maxHeartbeats 1000000 in
theorem send_any (s : ByteArray) (w : World) (hs : s.size ≤ maxLen) :
    Calls Tryd.prog 5 #[.string s] w fun e w' => e = .returned (.tuple #[.string (sentS s), .int .i64 (sizedL s.size)]) ∧ Below w.heap.size w w' := by
  have H0 : Hid (∀ w, Calls Tryd.prog 10 #[.string s] w fun e w' => e = .returned (.int .i64 (sizedL s.size)) ∧ w = w') := fun w => sized_any s w hs
  rcases sized_cases s.size with ⟨h0, h1, h2⟩ | ⟨h0, h1⟩
  · have e1 : sentS s = strOfNums (sentL (nums s)) := if_pos h0
    rw [e1, h0]
    rw [h0] at H0
    clear e1 h0 hs
    have H1 : Hid (∀ w, Calls Tryd.prog 12 #[.string s] w fun e w' => e = .returned (.string (strOfNums (bitsL (nums s)))) ∧ Below w.heap.size w w') := fun w => bits_any s w (by omega)
    have en : nums ((⟨#[48, 48, 48, 48, 48, 48, 48, 49]⟩ : ByteArray) ++ strOfNums (bitsL (nums s))) = leadL ++ bitsL (nums s) := by
      rw [nums_append, nums_str _ (byt_row (rowB_bits _))]; rfl
    have es : (strOfNums (bitsL (nums s))).size = 8 * s.size := by rw [str_size, bitsL_length, nums_length]
    have ez : ((⟨#[48, 48, 48, 48, 48, 48, 48, 49]⟩ : ByteArray) ++ strOfNums (bitsL (nums s))).size = 8 + 8 * s.size := by rw [ByteArray.size_append, es]; rfl
    obtain ⟨b, hb⟩ : ∃ b, strOfNums (bitsL (nums s)) = b := ⟨_, rfl⟩
    rw [hb] at H1 en es ez
    clear hb
    obtain ⟨c, hc⟩ : ∃ c, (⟨#[48, 48, 48, 48, 48, 48, 48, 49]⟩ : ByteArray) ++ b = c := ⟨_, rfl⟩
    rw [hc] at en ez
    have hrow : rowB (nums c) = true := by rw [en]; exact rowB_lead _
    have et : nums (strOfNums (stuffL 0 (nums c))) = stuffL 0 (nums c) := nums_str _ (byt_row (rowB_stuff _ _ hrow))
    have hz : (strOfNums (stuffL 0 (nums c))).size ≤ 756 := by
      rw [str_size]
      have := stuffL_length 0 (nums c) (by omega)
      rw [nums_length] at this
      omega
    have H2 : Hid (∀ w, Calls Tryd.prog 11 #[.string c] w fun e w' => e = .returned (.tuple #[.string (strOfNums (stuffL 0 (nums c))), .int .i64 0]) ∧ Below w.heap.size w w') := fun w => stuff_ok c w (by omega) hrow
    obtain ⟨d, hd⟩ : ∃ d, strOfNums (stuffL 0 (nums c)) = d := ⟨_, rfl⟩
    rw [hd] at H2 et hz
    clear hd
    have hrow2 : rowB (nums d) = true := by rw [et]; exact rowB_stuff _ _ hrow
    have H3 : Hid (∀ w, Calls Tryd.prog 13 #[.string d, .int .u8 74] w fun e w' => e = .returned (.tuple #[.string (strOfNums (turnL 74 (nums d))), .int .i64 0]) ∧ Below w.heap.size w w') := fun w => turn_ok d 74 w (by omega) hrow2 rfl
    have ef : strOfNums (sentL (nums s)) = strOfNums (turnL 74 (nums d)) ++ (⟨#[48, 48, 74]⟩ : ByteArray) := by
      unfold sentL waveL
      rw [← en, ← et, str_append]; rfl
    have hzf : (strOfNums (turnL 74 (nums d))).size = d.size := by rw [str_size, turnL_length, nums_length]
    have hzg : (strOfNums (turnL 74 (nums d)) ++ (⟨#[48, 48, 74]⟩ : ByteArray)).size = d.size + 3 := by rw [ByteArray.size_append, hzf]; rfl
    rw [ef]
    clear ef et en hrow hrow2
    obtain ⟨f, hf⟩ : ∃ f, strOfNums (turnL 74 (nums d)) = f := ⟨_, rfl⟩
    rw [hf] at H3 hzf hzg ⊢
    clear hf
    go_enter Tryd.func5, Tryd.ntmps5
    go_wp2_with fail
    refine (H0.out _).mono ?_
    rintro e u ⟨rfl, rfl⟩
    go_wp2_with fail
    refine (H1.out _).mono ?_
    rintro e u1 ⟨rfl, hb1⟩
    go_wp2_with fail
    refine (H2.out _).mono ?_
    rintro e u2 ⟨rfl, hb2⟩
    replace hb1 := bsq hb1 hb2
    clear hb2
    go_wp2_with fail
    refine (H3.out _).mono ?_
    rintro e u3 ⟨rfl, hb2⟩
    replace hb1 := bsq hb1 hb2
    clear hb2
    go_wp2
    go_ret2
    exact ⟨rfl, hb1⟩
  · have e1 : sentS s = ⟨#[]⟩ := if_neg h0
    rw [e1]
    have hne : ((sizedL s.size != 0) = true) := by simpa using h0
    obtain ⟨c, hc⟩ : ∃ c, sizedL s.size = c := ⟨_, rfl⟩
    rw [hc] at H0 hne ⊢
    clear hc h0 h1 e1
    go_enter Tryd.func5, Tryd.ntmps5
    go_wp2_with fail
    refine (H0.out _).mono ?_
    rintro e u ⟨rfl, rfl⟩
    go_wp2
    go_ret2
    exact ⟨rfl, Below.refl _ _⟩
end Go.Proofs.YtbkdalgmhmaofaaDoor.lane
