/- UtfUnits: the walk. -/
import Derived.Test.YtfonnejaffhncaaUtfE
namespace Go.Proofs.Ytfonnejaffhncaa.utfUnits
open Go.RowKit Go.PlainAid Go.Lib Go.Proofs.Ytfonnejaffhncaa.lane Go.Proofs.Ytfonnejaffhncaa.utf
set_option linter.unusedVariables false

theorem cnt_at (s : ByteArray) (pos : Nat) (h : pos < s.size) : cnt (runesU (s.data.toList.drop pos)) = wn ((Utf8.decode s pos).1 : Int) + cnt (runesU (s.data.toList.drop (pos + (Utf8.decode s pos).2))) := by
  rw [rns_at s pos h, cnt]
theorem cnt_all (s : ByteArray) : cnt (rns s) ≤ 2 * s.size := by
  have h1 := (cnt_le (rns s)).2
  have h2 := runesU_length _ s.data.toList (Nat.le_refl _)
  rw [← size_eq] at h2
  unfold rns at h1 ⊢
  omega
set_option maxHeartbeats 2000000 in
theorem walk (a0 : ByteArray) (w0 : a0.size ≤ maxLen) (hs0 : a0.size ≤ 140737488351232) (w : World) :
    Calls Try.prog 5 #[.string a0] w fun e w' => e = .returned (.bool true) ∧ Below w.heap.size w w' := by
  have HL : Hid (∀ w : World, Calls Try.prog 11 #[] w fun r w' => r = .returned (.bool true) ∧ Below w.heap.size w w') := utfLives_any
  have hall := cnt_all a0
  obtain ⟨N, hN⟩ : ∃ N, cnt (rns a0) = N := ⟨_, rfl⟩
  rw [hN] at hall
  obtain ⟨t, z, htz, HW⟩ : ∃ (t : ByteArray) (z : Int), ((N ≤ 126 ∧ z = 0 ∧ t.size = 2 * N) ∨ (126 < N ∧ z = 2)) ∧ Hid (∀ w, Calls Try.prog 7 #[.string a0] w fun e w' => e = .returned (.tuple #[.string t, .int .i64 z]) ∧ Below w.heap.size w w') := by
    refine ⟨wtxt a0, werr a0, ?_, fun w => wide_any a0 w⟩
    have hl := wideL_length (rns a0)
    rw [hN] at hl
    by_cases h : N ≤ 126
    · left
      refine ⟨h, ?_, ?_⟩
      · unfold werr; rw [if_pos (by omega)]
      · unfold wtxt; rw [if_pos (by omega), str_size, hl]
    · right
      refine ⟨by omega, ?_⟩
      unfold werr; rw [if_neg (by omega)]
  have HN : Hid (cnt (rns a0) = N) := hN
  clear hN
  go_enter Try.func5, Try.ntmps5
  go_wp2_with fail
  refine (HW.out _).mono ?_
  rintro e u ⟨rfl, hb⟩
  go_wp2_with fail
  go_loopw [5] (fun v wr => ∃ (pos k : Nat), wr = u.iter a0 pos ∧ v = .int .i64 (k : Int) ∧ k ≤ N ∧ Hid (k + cnt (runesU (a0.data.toList.drop pos)) = N))
    (fun _ wr => a0.size - wr.iterPos u.heap.size)
  case atStart => exact ⟨0, 0, rfl, rfl, by omega, by show _ = _; rw [← HN.out]; simp [rns]⟩
  case round =>
    obtain ⟨pos, k, rfl, rfl, hk, HR⟩ := hrel
    by_cases hp : pos < a0.size
    · have hnx : ∀ ty, (Instr.next (.pointer (some ⟨u.heap.size, 0, none⟩)) true ty).run Try.prog (u.iter a0 pos) = _ := fun ty => run_next_any u a0 pos ty hp
      have hwd := decode_w a0 pos
      have h := HR.out
      rw [cnt_at a0 pos hp] at h
      have hlt : pos < pos + (Utf8.decode a0 pos).2 := by omega
      generalize ((Utf8.decode a0 pos).1 : Int) = r at hnx h
      generalize pos + (Utf8.decode a0 pos).2 = pos2 at hnx hlt h
      by_cases hr : r < 65536
      · have hw1 : wn r = 1 := by unfold wn; rw [if_pos hr]
        rw [hw1] at h
        have hk1 : k + 1 ≤ N := by omega
        have HH : Hid (k + 1 + cnt (runesU (a0.data.toList.drop pos2)) = N) := by show _ = _; omega
        have hr' : ¬ 65535 < r := by omega
        clear h HR hwd hw1 hr htz HW
        go_wp2
        go_roundw
        case rel => exact ⟨pos2, k + 1, rfl, by go_num, hk1, HH⟩
        case measure => simp; omega
      · have hw1 : wn r = 2 := by unfold wn; rw [if_neg hr]
        rw [hw1] at h
        have hk1 : k + 2 ≤ N := by omega
        have HH : Hid (k + 2 + cnt (runesU (a0.data.toList.drop pos2)) = N) := by show _ = _; omega
        have hr' : 65535 < r := by omega
        clear h HR hwd hw1 hr htz HW
        go_wp2
        go_roundw
        case rel => exact ⟨pos2, k + 2, rfl, by go_num, hk1, HH⟩
        case measure => simp; omega
    · have hnx : ∀ ty, (Instr.next (.pointer (some ⟨u.heap.size, 0, none⟩)) true ty).run Try.prog (u.iter a0 pos) = _ := fun ty => run_next_end u a0 pos ty hp
      have h := HR.out
      rw [rns_end a0 pos hp, cnt] at h
      obtain rfl : k = N := by omega
      have hbi : Below w.heap.size w (u.iter a0 pos) := hb.alloc hb.size _
      clear HR h hk HW
      rcases htz with ⟨h1, rfl, h3⟩ | ⟨h1, rfl⟩
      · have e1 : decide ((k : Int) ≤ 126) = true := by simp; omega
        have e2 : ((t.size : Int) == 2 * (k : Int)) = true := by simp; omega
        clear h1 h3
        go_wp2_with fail
        refine (HL.out _).mono ?_
        rintro e u2 ⟨rfl, hb2⟩
        go_wp2
        go_ret
        exact ⟨rfl, bsq hbi hb2⟩
      · have e1 : decide ((126 : Int) < (k : Int)) = true := by simp; omega
        clear h1
        go_wp2_with fail
        refine (HL.out _).mono ?_
        rintro e u2 ⟨rfl, hb2⟩
        go_wp2
        go_ret
        exact ⟨rfl, bsq hbi hb2⟩
end Go.Proofs.Ytfonnejaffhncaa.utfUnits
