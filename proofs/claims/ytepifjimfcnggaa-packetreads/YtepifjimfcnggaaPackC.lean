/- packet: what Write answers. -/
import Derived.Test.YtepifjimfcnggaaPackB
namespace Go.Proofs.Ytepifjimfcnggaa.pack
open Go.RowKit Go.PlainAid Go.Proofs.Ytepifjimfcnggaa.lane Go.Proofs.Ytepifjimfcnggaa.crc

theorem bsq {w w1 w2 : World} (h1 : Below w.heap.size w w1) (h2 : Below w1.heap.size w1 w2) : Below w.heap.size w w2 := h1.trans (h2.mono h1.size)
theorem balloc (w : World) (o : Obj) : Below w.heap.size w (w.alloc o) := (Below.refl _ _).alloc (Nat.le_refl _) _
/-- the world behind a text of one byte -/
abbrev wone (n : Int) (w : World) : World := w.alloc (.cells #[.int .u8 n] 5)
theorem one_conv (n : Int) (w : World) :
    (convert 35 9 (.slice (some ⟨w.heap.size, 0, none⟩) 1 1)).run Try.prog (wone n w) = .ok (.string (strOfNums [n])) (wone n w) := by
  refine run_convert_bytes_arg _ 35 5 Try.underlying35 Try.underlying5 w.heap.size 0 1 1 [n] rfl ?_ 9 Try.underlying9
  intro i hi
  match i, hi with
  | 0, _ => simp [wone]
/-- a packet's cells at block B -/
structure Pk (w : World) (B : Nat) (k a e f : Int) (d : ByteArray) : Prop where
  size : B < w.heap.size
  c0 : w.cell? ⟨B, 0, none⟩ = some (.int .i64 k)
  c1 : w.cell? ⟨B, 1, none⟩ = some (.int .i64 a)
  c2 : w.cell? ⟨B, 2, none⟩ = some (.int .i64 e)
  c3 : w.cell? ⟨B, 3, none⟩ = some (.int .i64 f)
  c4 : w.cell? ⟨B, 4, none⟩ = some (.string d)
theorem pk_alloc (w : World) (k a e f : Int) (d : ByteArray) : Pk (w.alloc (pcells k a e f d)) w.heap.size k a e f d := by
  refine ⟨by simp, ?_, ?_, ?_, ?_, ?_⟩ <;> go_simp
theorem Pk.below {w u : World} {B : Nat} {k a e f : Int} {d : ByteArray} (h : Pk w B k a e f d) (hb : Below w.heap.size w u) : Pk u B k a e f d :=
  ⟨Nat.lt_of_lt_of_le h.size hb.size, (hb.cell h.size).trans h.c0, (hb.cell h.size).trans h.c1, (hb.cell h.size).trans h.c2, (hb.cell h.size).trans h.c3, (hb.cell h.size).trans h.c4⟩
theorem ret_two {s t : ByteArray} (c : Int) (h : s = t) : Ending.returned (.tuple #[.string s, .int .i64 c]) = .returned (.tuple #[.string t, .int .i64 c]) := by rw [h]
set_option maxHeartbeats 1000000 in
theorem write_no (k a e f c : Int) (d : ByteArray) (hc : (c != 0) = true) (HC : Hid (∀ w : World, Calls Try.prog 12 #[pk k a e f d] w fun r w' => r = .returned (.int .i64 c) ∧ Below w.heap.size w w')) (w : World) :
    Calls Try.prog 11 #[pk k a e f d] w fun r w' => r = .returned (.tuple #[.string ⟨#[]⟩, .int .i64 c]) ∧ Below w.heap.size w w' := by
  go_enter Try.func11, Try.ntmps11
  go_wp2_with fail
  refine (HC.out _).mono ?_
  rintro r u ⟨rfl, hb⟩
  have HB : Hid (Below w.heap.size w u) := bsq (balloc w _) hb
  clear hb
  go_wp2
  go_ret2
  exact ⟨rfl, HB.out⟩
set_option maxHeartbeats 1000000 in
theorem write_tok (k a e f n : Nat) (d : ByteArray) (hk : k < 16) (hs : shp k = 1) (ha : a ≤ 127) (he : e ≤ 15) (hn : n = a + 128 * e)
    (HC : Hid (∀ w : World, Calls Try.prog 12 #[pk k a e f d] w fun r w' => r = .returned (.int .i64 0) ∧ Below w.heap.size w w')) (w : World) :
    Calls Try.prog 11 #[pk k a e f d] w fun r w' => r = .returned (.tuple #[.string (strOfNums (fb k :: sealw n)), .int .i64 0]) ∧ Below w.heap.size w w' := by
  have HF : Hid (∀ w : World, Calls Try.prog 20 #[.int .i64 (k : Int)] w fun e w' => e = .returned (.int .u8 (fb k)) ∧ w' = w) := first_any k hk
  have HS : Hid (∀ w : World, Calls Try.prog 21 #[.int .i64 (k : Int)] w fun e w' => e = .returned (.int .i64 1) ∧ w' = w) := by intro w; rw [← hs]; exact shape_any k w
  have HE : Hid (∀ w : World, Calls Try.prog 22 #[.int .i64 (n : Int)] w fun e w' => e = .returned (.string (strOfNums (sealw n))) ∧ w' = wtwo (n + 2048 * five n) w) := sealed_any n (by omega)
  have e3 := or_low .i64 32 7 a (128 * e) (a : Int) ((e : Int) * 128) (by decide) wraps_i64 (by omega) (by omega) (by omega) (by omega) rfl (by omega)
  rw [← hn] at e3
  have HX : Hid (strOfNums [fb k] ++ strOfNums (sealw n) = strOfNums (fb k :: sealw n)) := (str_append [fb k] (sealw n)).symm
  clear hs hn
  have hS : (strOfNums (sealw n)).size = 2 := str_size _
  have h1 : (strOfNums [fb k]).size = 1 := str_size _
  generalize fb k = F at *
  generalize sealw n = S at *
  generalize n + 2048 * five n = m at *
  go_enter Try.func11, Try.ntmps11
  go_wp2_with fail
  refine (HC.out _).mono ?_
  rintro r u ⟨rfl, hb⟩
  have HB : Hid (Below w.heap.size w u) := bsq (balloc w _) hb
  obtain ⟨hz, c0, c1, c2, c3, c4⟩ := (pk_alloc w k a e f d).below hb
  have hcv := one_conv F u
  clear hb
  go_wp2_with fail
  refine (HF.out _).mono ?_
  rintro r v ⟨rfl, rfl⟩
  go_wp2_with fail
  refine (HS.out _).mono ?_
  rintro r v ⟨rfl, rfl⟩
  go_wp2_with fail
  refine (HE.out _).mono ?_
  rintro r v ⟨rfl, rfl⟩
  go_wp2
  go_ret2
  exact ⟨ret_two 0 HX.out, bsq (bsq HB.out (balloc _ _)) (balloc _ _)⟩
set_option maxHeartbeats 1000000 in
theorem write_frm (k n : Nat) (a e : Int) (d : ByteArray) (hk : k < 16) (hs : shp k = 2) (hn : n < 2048)
    (HC : Hid (∀ w : World, Calls Try.prog 12 #[pk k a e n d] w fun r w' => r = .returned (.int .i64 0) ∧ Below w.heap.size w w')) (w : World) :
    Calls Try.prog 11 #[pk k a e n d] w fun r w' => r = .returned (.tuple #[.string (strOfNums (fb k :: sealw n)), .int .i64 0]) ∧ Below w.heap.size w w' := by
  have HF : Hid (∀ w : World, Calls Try.prog 20 #[.int .i64 (k : Int)] w fun e w' => e = .returned (.int .u8 (fb k)) ∧ w' = w) := first_any k hk
  have HS : Hid (∀ w : World, Calls Try.prog 21 #[.int .i64 (k : Int)] w fun e w' => e = .returned (.int .i64 2) ∧ w' = w) := by intro w; rw [← hs]; exact shape_any k w
  have HE : Hid (∀ w : World, Calls Try.prog 22 #[.int .i64 (n : Int)] w fun e w' => e = .returned (.string (strOfNums (sealw n))) ∧ w' = wtwo (n + 2048 * five n) w) := sealed_any n hn
  have HX : Hid (strOfNums [fb k] ++ strOfNums (sealw n) = strOfNums (fb k :: sealw n)) := (str_append [fb k] (sealw n)).symm
  clear hs
  have hS : (strOfNums (sealw n)).size = 2 := str_size _
  have h1 : (strOfNums [fb k]).size = 1 := str_size _
  generalize fb k = F at *
  generalize sealw n = S at *
  generalize n + 2048 * five n = m at *
  go_enter Try.func11, Try.ntmps11
  go_wp2_with fail
  refine (HC.out _).mono ?_
  rintro r u ⟨rfl, hb⟩
  have HB : Hid (Below w.heap.size w u) := bsq (balloc w _) hb
  obtain ⟨hz, c0, c1, c2, c3, c4⟩ := (pk_alloc w k a e n d).below hb
  have hcv := one_conv F u
  clear hb
  go_wp2_with fail
  refine (HF.out _).mono ?_
  rintro r v ⟨rfl, rfl⟩
  go_wp2_with fail
  refine (HS.out _).mono ?_
  rintro r v ⟨rfl, rfl⟩
  go_wp2_with fail
  refine (HE.out _).mono ?_
  rintro r v ⟨rfl, rfl⟩
  go_wp2
  go_ret2
  exact ⟨ret_two 0 HX.out, bsq (bsq HB.out (balloc _ _)) (balloc _ _)⟩
set_option maxHeartbeats 1000000 in
theorem write_bare (k : Nat) (a e f : Int) (d : ByteArray) (hk : k < 16) (hs : shp k = 4)
    (HC : Hid (∀ w : World, Calls Try.prog 12 #[pk k a e f d] w fun r w' => r = .returned (.int .i64 0) ∧ Below w.heap.size w w')) (w : World) :
    Calls Try.prog 11 #[pk k a e f d] w fun r w' => r = .returned (.tuple #[.string (strOfNums [fb k]), .int .i64 0]) ∧ Below w.heap.size w w' := by
  have HF : Hid (∀ w : World, Calls Try.prog 20 #[.int .i64 (k : Int)] w fun e w' => e = .returned (.int .u8 (fb k)) ∧ w' = w) := first_any k hk
  have HS : Hid (∀ w : World, Calls Try.prog 21 #[.int .i64 (k : Int)] w fun e w' => e = .returned (.int .i64 4) ∧ w' = w) := by intro w; rw [← hs]; exact shape_any k w
  clear hs
  generalize fb k = F at *
  go_enter Try.func11, Try.ntmps11
  go_wp2_with fail
  refine (HC.out _).mono ?_
  rintro r u ⟨rfl, hb⟩
  have HB : Hid (Below w.heap.size w u) := bsq (balloc w _) hb
  obtain ⟨hz, c0, c1, c2, c3, c4⟩ := (pk_alloc w k a e f d).below hb
  have hcv := one_conv F u
  clear hb
  go_wp2_with fail
  refine (HF.out _).mono ?_
  rintro r v ⟨rfl, rfl⟩
  go_wp2_with fail
  refine (HS.out _).mono ?_
  rintro r v ⟨rfl, rfl⟩
  go_wp2
  go_ret2
  exact ⟨rfl, bsq HB.out (balloc _ _)⟩
set_option maxHeartbeats 1000000 in
theorem write_dat (k : Nat) (a e f : Int) (d : ByteArray) (hk : k < 16) (hs : shp k = 3) (hd : d.size ≤ 64)
    (HC : Hid (∀ w : World, Calls Try.prog 12 #[pk k a e f d] w fun r w' => r = .returned (.int .i64 0) ∧ Below w.heap.size w w')) (w : World) :
    Calls Try.prog 11 #[pk k a e f d] w fun r w' => r = .returned (.tuple #[.string (strOfNums (fb k :: (nums d ++ two (more 0 (nums d))))), .int .i64 0]) ∧ Below w.heap.size w w' := by
  have HF : Hid (∀ w : World, Calls Try.prog 20 #[.int .i64 (k : Int)] w fun e w' => e = .returned (.int .u8 (fb k)) ∧ w' = w) := first_any k hk
  have HS : Hid (∀ w : World, Calls Try.prog 21 #[.int .i64 (k : Int)] w fun e w' => e = .returned (.int .i64 3) ∧ w' = w) := by intro w; rw [← hs]; exact shape_any k w
  have H6 : Hid (∀ w : World, Calls Try.prog 24 #[.string d] w fun e w' => e = .returned (.int .u16 (more 0 (nums d) : Nat)) ∧ w = w') := sixteen_any d (by unfold maxLen; omega)
  have HW : Hid (∀ w : World, Calls Try.prog 23 #[.int .u16 (more 0 (nums d) : Nat)] w fun e w' => e = .returned (.string (strOfNums (two (more 0 (nums d))))) ∧ w' = wtwo (more 0 (nums d)) w) := word_any _ (two_lt _)
  have HX : Hid (strOfNums [fb k] ++ d ++ strOfNums (two (more 0 (nums d))) = strOfNums (fb k :: (nums d ++ two (more 0 (nums d))))) := by
    show _ = _
    rw [show fb k :: (nums d ++ two (more 0 (nums d))) = [fb k] ++ nums d ++ two (more 0 (nums d)) by simp, str_append, str_append, str_nums]
  have hm := two_lt (nums d)
  clear hs
  generalize fb k :: (nums d ++ two (more 0 (nums d))) = R at *
  have hS : (strOfNums (two (more 0 (nums d)))).size = 2 := str_size _
  have h1 : (strOfNums [fb k]).size = 1 := str_size _
  have h2 : (strOfNums [fb k] ++ d).size = 1 + d.size := by rw [ByteArray.size_append, h1]
  generalize two (more 0 (nums d)) = S at *
  generalize fb k = F at *
  generalize more 0 (nums d) = m at *
  go_enter Try.func11, Try.ntmps11
  go_wp2_with fail
  refine (HC.out _).mono ?_
  rintro r u ⟨rfl, hb⟩
  have HB : Hid (Below w.heap.size w u) := bsq (balloc w _) hb
  obtain ⟨hz, c0, c1, c2, c3, c4⟩ := (pk_alloc w k a e f d).below hb
  have hcv := one_conv F u
  clear hb
  go_wp2_with fail
  refine (HF.out _).mono ?_
  rintro r v ⟨rfl, rfl⟩
  go_wp2_with fail
  refine (HS.out _).mono ?_
  rintro r v ⟨rfl, rfl⟩
  go_wp2_with fail
  go_region_with (first
    | (go_at_call 24; refine (H6.out _).mono ?_; rintro r v ⟨rfl, rfl⟩)
    | (go_at_call 23; refine (HW.out _).mono ?_; rintro r v ⟨rfl, rfl⟩))
  all_goals go_wp2
  all_goals go_ret2
  all_goals exact ⟨ret_two 0 HX.out, bsq (bsq HB.out (balloc _ _)).drew (balloc _ _)⟩
/-- what Check and Write answer -/
theorem write_any (k a e f : Int) (d : ByteArray) : ∃ (c : Int) (s : ByteArray), code k a e f (nums d) c ∧ (c = 0 → s = strOfNums (wtext k a e f (nums d))) ∧ (c ≠ 0 → s = ⟨#[]⟩) ∧
    (∀ w : World, Calls Try.prog 12 #[pk k a e f d] w fun r w' => r = .returned (.int .i64 c) ∧ Below w.heap.size w w') ∧
    (∀ w : World, Calls Try.prog 11 #[pk k a e f d] w fun r w' => r = .returned (.tuple #[.string s, .int .i64 c]) ∧ Below w.heap.size w w') := by
  obtain ⟨c, hc, HC⟩ := check_any k a e f d
  by_cases h0 : c = 0
  · subst h0
    have hg := (code_zero hc).1 rfl
    obtain ⟨g0, gp, gw, gl⟩ := hg
    have hr := shp_range g0
    rw [nums_length] at gl
    unfold wth at gw
    obtain ⟨a, rfl⟩ := Int.eq_ofNat_of_zero_le gw.1
    obtain ⟨e, rfl⟩ := Int.eq_ofNat_of_zero_le gw.2.2.1
    obtain ⟨f, rfl⟩ := Int.eq_ofNat_of_zero_le gw.2.2.2.2.1
    obtain ⟨k, rfl⟩ := Int.eq_ofNat_of_zero_le (show 0 ≤ k by omega)
    refine ⟨0, strOfNums (wtext k a e f (nums d)), hc, fun _ => rfl, fun h => absurd rfl h, HC, ?_⟩
    rw [wtext_cons]
    rcases shp_cases g0 with ⟨s, _⟩ | ⟨s, _⟩ | ⟨s, _⟩ | ⟨s, _⟩
    · rw [wrest_tok (.inl s)]
      have hf := gp.1 s
      exact write_tok k a e f _ d (by omega) s (by omega) (by omega) (by omega) HC
    · rw [wrest_tok (.inr s)]
      have hf := gp.2.1 s
      have := write_frm k f a e d (by omega) s (by omega) HC
      rw [show ((a : Int) + 128 * (e : Int) + (f : Int)).toNat = f by omega]
      exact this
    · rw [wrest_dat s]
      exact write_dat k a e f d (by omega) s gl HC
    · rw [wrest_bare s]
      exact write_bare k a e f d (by omega) s HC
  · exact ⟨c, ⟨#[]⟩, hc, fun h => absurd h h0, fun _ => rfl, HC, write_no k a e f c d (by simp [h0]) HC⟩
end Go.Proofs.Ytepifjimfcnggaa.pack
