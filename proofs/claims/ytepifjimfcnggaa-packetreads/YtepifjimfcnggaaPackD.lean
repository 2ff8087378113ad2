/- packet: what opened answers. -/
import Derived.Test.YtepifjimfcnggaaPackC
namespace Go.Proofs.Ytepifjimfcnggaa.pack
open Go.RowKit Go.PlainAid Go.Proofs.Ytepifjimfcnggaa.lane Go.Proofs.Ytepifjimfcnggaa.crc

theorem i64_and2047 (n : Nat) (h : n < 65536) : bits .and .i64 (n : Int) 2047 = ((n % 2048 : Nat) : Int) := by
  have := bits_mask .i64 32 (by decide) wraps_i64 11 (by decide) (n : Int) (by omega) (by omega)
  simpa using this
theorem i64_and127' (n : Nat) (h : n < 65536) : bits .and .i64 (n : Int) 127 = ((n % 128 : Nat) : Int) := by
  have := bits_mask .i64 32 (by decide) wraps_i64 7 (by decide) (n : Int) (by omega) (by omega)
  simpa using this
set_option maxHeartbeats 1000000 in
theorem opened_tok (s : ByteArray) (hs : s.size = 2) (w : World) :
    Calls Try.prog 28 #[.int .i64 1, .string s] w fun r w' => r = .returned (.tuple #[pk 0 ((txt (nums s) : Int) % 128) (((txt (nums s) % 2048 : Nat) : Int) / 128) 0 ⟨#[]⟩, .bool ((strOfNums (sealw (txt (nums s) % 2048))).toList == s.toList)]) ∧ Below w.heap.size w w' := by
  have HN : Hid (∀ w : World, Calls Try.prog 35 #[.string s] w fun e w' => e = .returned (.int .i64 (txt (nums s) : Nat)) ∧ ∃ q, w' = w.drewN q) := number_any s hs
  have hlt := txt_lt2 (nums s) (nums_byt s) (by rw [nums_length, hs])
  have HE : Hid (∀ w : World, Calls Try.prog 22 #[.int .i64 ((txt (nums s) % 2048 : Nat) : Int)] w fun e w' => e = .returned (.string (strOfNums (sealw (txt (nums s) % 2048)))) ∧ w' = wtwo (txt (nums s) % 2048 + 2048 * five (txt (nums s) % 2048)) w) := sealed_any _ (by omega)
  have e1 := i64_and2047 (txt (nums s)) hlt
  have e2 := i64_and127' (txt (nums s) % 2048) (by omega)
  rw [show txt (nums s) % 2048 % 128 = txt (nums s) % 128 by omega] at e2
  generalize txt (nums s) % 2048 + 2048 * five (txt (nums s) % 2048) = m at *
  generalize sealw (txt (nums s) % 2048) = S at *
  have hz : txt (nums s) % 2048 / 128 < 16 := by omega
  generalize txt (nums s) % 2048 = N at *
  generalize txt (nums s) = T at *
  go_enter Try.func28, Try.ntmps28
  go_wp2_with fail
  refine (HN.out _).mono ?_
  rintro r u ⟨rfl, q, rfl⟩
  go_wp2_with fail
  refine (HE.out _).mono ?_
  rintro r u ⟨rfl, rfl⟩
  go_wp2
  refine bodyPost_ret (v := .tuple #[pk 0 ((T : Int) % 128) ((N : Int) / 128) 0 ⟨#[]⟩, .bool ((strOfNums S).toList == s.toList)]) (by simp [results, Try.results28, go_sem]) rfl ⟨rfl, ?_⟩
  have h1 : Below w.heap.size w ((w.alloc (pcells 0 0 0 0 ⟨#[]⟩)).drewN q) := below_drewN (balloc w _) q
  have h2 := (((((h1.setCell (p := ⟨w.heap.size, 0, none⟩) (Nat.le_refl _) (.int .i64 0)).setCell (p := ⟨w.heap.size, 1, none⟩) (Nat.le_refl _) (.int .i64 ((T : Int) % 128))).setCell (p := ⟨w.heap.size, 2, none⟩) (Nat.le_refl _) (.int .i64 ((N : Int) / 128))).setCell (p := ⟨w.heap.size, 3, none⟩) (Nat.le_refl _) (.int .i64 0)).setCell (p := ⟨w.heap.size, 4, none⟩) (Nat.le_refl _) (.string ⟨#[]⟩))
  exact bsq h2 (balloc _ _)
set_option maxHeartbeats 1000000 in
theorem opened_frm (s : ByteArray) (hs : s.size = 2) (w : World) :
    Calls Try.prog 28 #[.int .i64 2, .string s] w fun r w' => r = .returned (.tuple #[pk 0 0 0 ((txt (nums s) % 2048 : Nat) : Int) ⟨#[]⟩, .bool ((strOfNums (sealw (txt (nums s) % 2048))).toList == s.toList)]) ∧ Below w.heap.size w w' := by
  have HN : Hid (∀ w : World, Calls Try.prog 35 #[.string s] w fun e w' => e = .returned (.int .i64 (txt (nums s) : Nat)) ∧ ∃ q, w' = w.drewN q) := number_any s hs
  have hlt := txt_lt2 (nums s) (nums_byt s) (by rw [nums_length, hs])
  have HE : Hid (∀ w : World, Calls Try.prog 22 #[.int .i64 ((txt (nums s) % 2048 : Nat) : Int)] w fun e w' => e = .returned (.string (strOfNums (sealw (txt (nums s) % 2048)))) ∧ w' = wtwo (txt (nums s) % 2048 + 2048 * five (txt (nums s) % 2048)) w) := sealed_any _ (by omega)
  have e1 := i64_and2047 (txt (nums s)) hlt
  generalize txt (nums s) % 2048 + 2048 * five (txt (nums s) % 2048) = m at *
  generalize sealw (txt (nums s) % 2048) = S at *
  generalize txt (nums s) % 2048 = N at *
  generalize txt (nums s) = T at *
  go_enter Try.func28, Try.ntmps28
  go_wp2_with fail
  refine (HN.out _).mono ?_
  rintro r u ⟨rfl, q, rfl⟩
  go_wp2_with fail
  refine (HE.out _).mono ?_
  rintro r u ⟨rfl, rfl⟩
  go_wp2
  refine bodyPost_ret (v := .tuple #[pk 0 0 0 (N : Int) ⟨#[]⟩, .bool ((strOfNums S).toList == s.toList)]) (by simp [results, Try.results28, go_sem]) rfl ⟨rfl, ?_⟩
  have h1 : Below w.heap.size w ((w.alloc (pcells 0 0 0 0 ⟨#[]⟩)).drewN q) := below_drewN (balloc w _) q
  have h2 := (((((h1.setCell (p := ⟨w.heap.size, 0, none⟩) (Nat.le_refl _) (.int .i64 0)).setCell (p := ⟨w.heap.size, 1, none⟩) (Nat.le_refl _) (.int .i64 0)).setCell (p := ⟨w.heap.size, 2, none⟩) (Nat.le_refl _) (.int .i64 0)).setCell (p := ⟨w.heap.size, 3, none⟩) (Nat.le_refl _) (.int .i64 (N : Int))).setCell (p := ⟨w.heap.size, 4, none⟩) (Nat.le_refl _) (.string ⟨#[]⟩))
  exact bsq h2 (balloc _ _)
theorem opened_bare (s : ByteArray) (w : World) :
    Calls Try.prog 28 #[.int .i64 4, .string s] w fun r w' => r = .returned (.tuple #[pk 0 0 0 0 ⟨#[]⟩, .bool true]) ∧ Below w.heap.size w w' := by
  go_enter Try.func28, Try.ntmps28
  go_wp2
  refine bodyPost_ret (v := .tuple #[pk 0 0 0 0 ⟨#[]⟩, .bool true]) (by simp [results, Try.results28, go_sem]) rfl ⟨rfl, balloc _ _⟩
set_option maxHeartbeats 1000000 in
theorem opened_dat (s : ByteArray) (n : Nat) (hs : s.size = n + 2) (h66 : n ≤ 64) (w : World) :
    Calls Try.prog 28 #[.int .i64 3, .string s] w fun r w' => r = .returned (.tuple #[pk 0 0 0 0 (s.extract 0 n), .bool ((strOfNums (two (more 0 (nums (s.extract 0 n))))).toList == (s.extract n s.size).toList)]) ∧ Below w.heap.size w w' := by
  have hz : (s.extract 0 n).size = n := by rw [ByteArray.size_extract]; omega
  have H6 : Hid (∀ w : World, Calls Try.prog 24 #[.string (s.extract 0 n)] w fun e w' => e = .returned (.int .u16 (more 0 (nums (s.extract 0 n)) : Nat)) ∧ w = w') := sixteen_any _ (by rw [hz]; unfold maxLen; omega)
  have HW : Hid (∀ w : World, Calls Try.prog 23 #[.int .u16 (more 0 (nums (s.extract 0 n)) : Nat)] w fun e w' => e = .returned (.string (strOfNums (two (more 0 (nums (s.extract 0 n)))))) ∧ w' = wtwo (more 0 (nums (s.extract 0 n))) w) := word_any _ (two_lt _)
  have hm := two_lt (nums (s.extract 0 n))
  generalize two (more 0 (nums (s.extract 0 n))) = S at *
  generalize more 0 (nums (s.extract 0 n)) = m at *
  have g0 : (n : Int) ≤ (s.size : Int) := by omega
  go_enter Try.func28, Try.ntmps28
  go_wp2_with fail
  go_region_with (first
    | (go_at_call 24; refine (H6.out _).mono ?_; rintro r v ⟨rfl, rfl⟩)
    | (go_at_call 23; refine (HW.out _).mono ?_; rintro r v ⟨rfl, rfl⟩))
  all_goals go_wp2
  all_goals refine bodyPost_ret (v := .tuple #[pk 0 0 0 0 (s.extract 0 n), .bool ((strOfNums S).toList == (s.extract n s.size).toList)]) (by simp [results, Try.results28, go_sem, hs]) rfl ⟨rfl, ?_⟩
  all_goals exact (bsq (balloc _ _) (balloc _ _)).drew
end Go.Proofs.Ytepifjimfcnggaa.pack
