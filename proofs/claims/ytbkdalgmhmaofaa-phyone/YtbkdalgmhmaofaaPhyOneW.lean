/- PhyOne: the walk. -/
import Derived.Test.YtbkdalgmhmaofaaPhyC
namespace Go.Proofs.Ytbkdalgmhmaofaa.phyOne
open Go.RowKit Go.PlainAid Go.Proofs.Ytbkdalgmhmaofaa.lane

theorem piece_sent (s : ByteArray) (h : sizedL s.size = 0) : pieceL (nums (strOfNums (waveL (nums s)))) = (0, nums s) := by
  rw [nums_str _ (byt_lev (levB_wave _))]
  exact piece_wave _ (nums_byt s) (by rw [nums_length]; exact h)
theorem sent_piece (s : ByteArray) (h : pieceC s = 0) : sizedL (pieceS s).size = 0 ∧ sentS (pieceS s) = s ++ ⟨#[48, 48, 74]⟩ ∧ s.size ≤ 756 := by
  obtain ⟨e1, e2, e3⟩ := wave_piece (nums s) (pieceL (nums s)).2 (by unfold pieceC at h; rw [← h])
  have z : sizedL (pieceS s).size = 0 := by unfold pieceS; rw [str_size]; exact e2
  refine ⟨z, ?_, ?_⟩
  · unfold sentS
    rw [if_pos z]
    unfold pieceS sentL
    rw [nums_str _ e3, e1, str_append, str_nums]; rfl
  · rw [← nums_length, ← e1]; exact wave_short _ e2
set_option linter.unusedVariables false
set_option maxHeartbeats 2000000 in
theorem walk (a0 : ByteArray) (a1 : ByteArray) (w0 : a0.size ≤ maxLen) (w1 : a1.size ≤ maxLen) (hs0 : a0.size ≤ 140737488351232) (hs1 : a1.size ≤ 140737488351232) (w : World) :
    Calls Try.prog 4 #[.string a0, .string a1] w fun e w' => e = .returned (.bool true) ∧ Below w.heap.size w w' := by
  have HL : Hid (∀ w : World, Calls Try.prog 11 #[] w fun r w' => r = .returned (.bool true) ∧ Below w.heap.size w w') := phyLives_any
  have HS : Hid (∀ w, Calls Try.prog 9 #[.string a0] w fun e w' => e = .returned (.tuple #[.string (sentS a0), .int .i64 (sizedL a0.size)]) ∧ Below w.heap.size w w') := fun w => send_any a0 w w0
  have HQ : Hid (∀ w, Calls Try.prog 7 #[.string a1] w fun e w' => e = .returned (.tuple #[.string (pieceS a1), .int .i64 (pieceC a1)]) ∧ Below w.heap.size w w') := fun w => piece_any a1 w (by omega)
  have hpart : (pieceC a1 = 0 ∧ ((pieceC a1 == 0) = true) ∧ ∃ b : ByteArray, pieceS a1 = b ∧ sizedL b.size = 0 ∧ sentS b = a1 ++ ⟨#[48, 48, 74]⟩ ∧ a1.size ≤ 756 ∧ b.size ≤ 80) ∨ ((pieceC a1 == 0) = false) := by
    by_cases h : pieceC a1 = 0
    · obtain ⟨z1, z2, z3⟩ := sent_piece a1 h
      refine .inl ⟨h, by simpa using h, _, rfl, z1, z2, z3, ?_⟩
      rcases sized_cases (pieceS a1).size with ⟨_, _, h2⟩ | ⟨h2, _⟩
      · exact h2
      · exact absurd z1 h2
    · exact .inr (by simpa using h)
  have hfst : (((sizedL a0.size == 0) = true) ∧ ∃ v : ByteArray, sentS a0 = v ++ ⟨#[48, 48, 74]⟩ ∧ v.size ≤ 756 ∧ pieceC v = 0 ∧ pieceS v = a0) ∨ ((sizedL a0.size == 0) = false) := by
    by_cases h : sizedL a0.size = 0
    · refine .inl ⟨by simpa using h, strOfNums (waveL (nums a0)), ?_, ?_, ?_, ?_⟩
      · unfold sentS sentL; rw [if_pos h, str_append]; rfl
      · rw [str_size]; exact wave_short _ (by rw [nums_length]; exact h)
      · unfold pieceC; rw [piece_sent a0 h]
      · unfold pieceS; rw [piece_sent a0 h, str_nums]
    · exact .inr (by simpa using h)
  clear w0 w1 hs0 hs1
  rcases hfst with ⟨g0, v, ev, hv, c1, c2⟩ | g0
  · have HT : Hid (∀ w, Calls Try.prog 10 #[.string (v ++ ⟨#[48, 48, 74]⟩), .string ⟨#[48, 48, 74]⟩] w fun e w' => e = .returned (.string v) ∧ w = w') := fun w => trimSuffix_yes v ⟨#[48, 48, 74]⟩ w (by rw [ByteArray.size_append]; show v.size + 3 ≤ _; omega)
    have HV : Hid (∀ w, Calls Try.prog 7 #[.string v] w fun e w' => e = .returned (.tuple #[.string a0, .int .i64 0]) ∧ Below w.heap.size w w') := fun w => by
      have := piece_any v w (by omega)
      rw [c1, c2] at this
      exact this
    rw [ev] at HS
    have g0' : Hid ((sizedL a0.size == 0) = true) := g0
    obtain ⟨z, hz⟩ : ∃ z, sizedL a0.size = z := ⟨_, rfl⟩
    rw [hz] at HS g0
    obtain ⟨y, hy⟩ : ∃ y, v ++ (⟨#[48, 48, 74]⟩ : ByteArray) = y := ⟨_, rfl⟩
    rw [hy] at HS HT
    clear c1 c2 ev g0' hz hy hv
    rcases hpart with ⟨p0, p1, b, pb, b1, b2, b3, b4⟩ | p1
    · have HB : Hid (∀ w, Calls Try.prog 9 #[.string b] w fun e w' => e = .returned (.tuple #[.string (a1 ++ ⟨#[48, 48, 74]⟩), .int .i64 0]) ∧ Below w.heap.size w w') := fun w => by
        have := send_any b w (by unfold maxLen; omega)
        rw [b2, b1] at this
        exact this
      rw [pb, p0] at HQ
      have hz : (a1 ++ (⟨#[48, 48, 74]⟩ : ByteArray)).size = a1.size + 3 := by rw [ByteArray.size_append]; rfl
      clear b1 b2 pb p0 p1
      go_enter Try.func4, Try.ntmps4
      go_wp2_with fail
      refine (HS.out _).mono ?_
      rintro e u ⟨rfl, hb⟩
      go_wp2_with fail
      refine (HT.out _).mono ?_
      rintro e u1 ⟨rfl, rfl⟩
      go_wp2_with fail
      refine (HV.out _).mono ?_
      rintro e u2 ⟨rfl, hb2⟩
      replace hb := bsq hb hb2
      clear hb2
      go_wp2_with fail
      refine (HQ.out _).mono ?_
      rintro e u3 ⟨rfl, hb2⟩
      replace hb := bsq hb hb2
      clear hb2
      go_wp2_with fail
      refine (HB.out _).mono ?_
      rintro e u4 ⟨rfl, hb2⟩
      replace hb := bsq hb hb2
      clear hb2
      go_wp2_with fail
      refine (HL.out _).mono ?_
      rintro e u5 ⟨rfl, hb2⟩
      replace hb := bsq hb hb2
      clear hb2
      go_wp2
      go_ret
      exact ⟨rfl, hb⟩
    · obtain ⟨pc, hpc⟩ : ∃ z, pieceC a1 = z := ⟨_, rfl⟩
      obtain ⟨ps, hps⟩ : ∃ z, pieceS a1 = z := ⟨_, rfl⟩
      rw [hpc] at p1 HQ
      rw [hps] at HQ
      clear hpc hps
      go_enter Try.func4, Try.ntmps4
      go_wp2_with fail
      refine (HS.out _).mono ?_
      rintro e u ⟨rfl, hb⟩
      go_wp2_with fail
      refine (HT.out _).mono ?_
      rintro e u1 ⟨rfl, rfl⟩
      go_wp2_with fail
      refine (HV.out _).mono ?_
      rintro e u2 ⟨rfl, hb2⟩
      replace hb := bsq hb hb2
      clear hb2
      go_wp2_with fail
      refine (HQ.out _).mono ?_
      rintro e u3 ⟨rfl, hb2⟩
      replace hb := bsq hb hb2
      clear hb2
      go_wp2_with fail
      refine (HL.out _).mono ?_
      rintro e u5 ⟨rfl, hb2⟩
      replace hb := bsq hb hb2
      clear hb2
      go_wp2
      go_ret
      exact ⟨rfl, hb⟩
  · obtain ⟨z, hz⟩ : ∃ z, sizedL a0.size = z := ⟨_, rfl⟩
    obtain ⟨y, hy⟩ : ∃ y, sentS a0 = y := ⟨_, rfl⟩
    rw [hz] at HS g0
    rw [hy] at HS
    clear hz hy
    rcases hpart with ⟨p0, p1, b, pb, b1, b2, b3, b4⟩ | p1
    · have HB : Hid (∀ w, Calls Try.prog 9 #[.string b] w fun e w' => e = .returned (.tuple #[.string (a1 ++ ⟨#[48, 48, 74]⟩), .int .i64 0]) ∧ Below w.heap.size w w') := fun w => by
        have := send_any b w (by unfold maxLen; omega)
        rw [b2, b1] at this
        exact this
      rw [pb, p0] at HQ
      have hz : (a1 ++ (⟨#[48, 48, 74]⟩ : ByteArray)).size = a1.size + 3 := by rw [ByteArray.size_append]; rfl
      clear b1 b2 pb p0 p1
      go_enter Try.func4, Try.ntmps4
      go_wp2_with fail
      refine (HS.out _).mono ?_
      rintro e u ⟨rfl, hb⟩
      go_wp2_with fail
      refine (HQ.out _).mono ?_
      rintro e u3 ⟨rfl, hb2⟩
      replace hb := bsq hb hb2
      clear hb2
      go_wp2_with fail
      refine (HB.out _).mono ?_
      rintro e u4 ⟨rfl, hb2⟩
      replace hb := bsq hb hb2
      clear hb2
      go_wp2_with fail
      refine (HL.out _).mono ?_
      rintro e u5 ⟨rfl, hb2⟩
      replace hb := bsq hb hb2
      clear hb2
      go_wp2
      go_ret
      exact ⟨rfl, hb⟩
    · obtain ⟨pc, hpc⟩ : ∃ z, pieceC a1 = z := ⟨_, rfl⟩
      obtain ⟨ps, hps⟩ : ∃ z, pieceS a1 = z := ⟨_, rfl⟩
      rw [hpc] at p1 HQ
      rw [hps] at HQ
      clear hpc hps
      go_enter Try.func4, Try.ntmps4
      go_wp2_with fail
      refine (HS.out _).mono ?_
      rintro e u ⟨rfl, hb⟩
      go_wp2_with fail
      refine (HQ.out _).mono ?_
      rintro e u3 ⟨rfl, hb2⟩
      replace hb := bsq hb hb2
      clear hb2
      go_wp2_with fail
      refine (HL.out _).mono ?_
      rintro e u5 ⟨rfl, hb2⟩
      replace hb := bsq hb hb2
      clear hb2
      go_wp2
      go_ret
      exact ⟨rfl, hb⟩
end Go.Proofs.Ytbkdalgmhmaofaa.phyOne
