/- packet: what Read answers. -/
import Derived.Test.YtepifjimfcnggaaPackD
namespace Go.Proofs.Ytepifjimfcnggaa.pack
open Go.RowKit Go.PlainAid Go.Proofs.Ytepifjimfcnggaa.lane Go.Proofs.Ytepifjimfcnggaa.crc

abbrev RD (s : ByteArray) (k a e f : Int) (d : ByteArray) (c : Int) : Prop :=
  ∀ w : World, Calls Try.prog 13 #[.string s] w fun r w' => r = .returned (.tuple #[pk k a e f d, .int .i64 c]) ∧ Below w.heap.size w w'
theorem str_none (s : ByteArray) (h : s.size = 0) : s.toList.isEmpty = true := by
  rw [ByteArray.toList_eq]
  have : s.data.toList.length = 0 := by rw [Array.length_toList]; exact h
  rw [List.eq_nil_of_length_eq_zero this]; rfl
theorem bset5 {w u : World} (h : Below w.heap.size w u) {B : Nat} (hB : w.heap.size ≤ B) (v0 v1 v2 v3 v4 : Value) :
    Below w.heap.size w (((((u.setCell ⟨B, 0, none⟩ v0).setCell ⟨B, 1, none⟩ v1).setCell ⟨B, 2, none⟩ v2).setCell ⟨B, 3, none⟩ v3).setCell ⟨B, 4, none⟩ v4) :=
  ((((h.setCell (p := ⟨B, 0, none⟩) hB v0).setCell (p := ⟨B, 1, none⟩) hB v1).setCell (p := ⟨B, 2, none⟩) hB v2).setCell (p := ⟨B, 3, none⟩) hB v3).setCell (p := ⟨B, 4, none⟩) hB v4
theorem read_nil (s : ByteArray) (h : s.size = 0) : RD s 0 0 0 0 ⟨#[]⟩ 3 := by
  intro w
  have h1 := str_none s h
  go_enter Try.func13, Try.ntmps13
  go_wp2
  exact bodyPost_ret (v := .tuple #[pk 0 0 0 0 ⟨#[]⟩, .int .i64 3]) (by simp [results, Try.results13, go_sem]) rfl ⟨rfl, balloc _ _⟩
set_option maxHeartbeats 1000000 in
theorem read_none (s : ByteArray) (k : Nat) (h : 0 < s.size) (hk : bt s 0 % 16 = (k : Int)) (h0 : shp k = 0) : RD s 0 0 0 0 ⟨#[]⟩ 4 := by
  intro w
  have h1 := str_full s h
  have hb := get_bt s
  have e1 := u8_and15 (bt s 0) (bt_nonneg s 0) (by have := bt_le s 0; omega)
  rw [hk] at e1
  have HS : Hid (∀ w : World, Calls Try.prog 21 #[.int .i64 (k : Int)] w fun e w' => e = .returned (.int .i64 0) ∧ w' = w) := by intro w; rw [← h0]; exact shape_any k w
  have hk2 : k < 16 := by omega
  clear hk h0
  go_enter Try.func13, Try.ntmps13
  go_wp2_with fail
  refine (HS.out _).mono ?_
  rintro r u ⟨rfl, rfl⟩
  go_wp2_with fail
  go_quiet (fail)
  go_wp2
  exact bodyPost_ret (v := .tuple #[pk 0 0 0 0 ⟨#[]⟩, .int .i64 4]) (by simp [results, Try.results13, go_sem]) rfl ⟨rfl, bset5 (below_drewN (balloc _ _) _) (Nat.le_refl _) ..⟩
set_option maxHeartbeats 1000000 in
theorem read_form (s : ByteArray) (k : Nat) (S : Int) (h : 0 < s.size) (hk : bt s 0 % 16 = (k : Int)) (h0 : shp k = S) (h2 : (S == 0) = false) (hf : (bt s 0 != fb k) = true) : RD s 0 0 0 0 ⟨#[]⟩ 4 := by
  intro w
  have h1 := str_full s h
  have hb := get_bt s
  have e1 := u8_and15 (bt s 0) (bt_nonneg s 0) (by have := bt_le s 0; omega)
  rw [hk] at e1
  have HS : Hid (∀ w : World, Calls Try.prog 21 #[.int .i64 (k : Int)] w fun e w' => e = .returned (.int .i64 S) ∧ w' = w) := by intro w; rw [← h0]; exact shape_any k w
  have hk2 : k < 16 := by omega
  have HF : Hid (∀ w : World, Calls Try.prog 20 #[.int .i64 (k : Int)] w fun e w' => e = .returned (.int .u8 (fb k)) ∧ w' = w) := first_any k hk2
  generalize fb k = F at *
  clear hk h0
  go_enter Try.func13, Try.ntmps13
  go_wp2_with fail
  refine (HS.out _).mono ?_
  rintro r u ⟨rfl, rfl⟩
  go_wp2_with fail
  go_quiet ((go_at_call 20; exact Calls.quiet_of_same (HF.out _)))
  go_wp2
  exact bodyPost_ret (v := .tuple #[pk 0 0 0 0 ⟨#[]⟩, .int .i64 4]) (by simp [results, Try.results13, go_sem]) rfl ⟨rfl, bset5 (below_drewN (balloc _ _) _) (Nat.le_refl _) ..⟩
set_option maxHeartbeats 1000000 in
theorem read_size (s : ByteArray) (k : Nat) (S lo hi c : Int) (h : 0 < s.size) (hm : s.size ≤ maxLen) (hk : bt s 0 % 16 = (k : Int)) (h0 : shp k = S) (h2 : (S == 0) = false) (hf : (bt s 0 != fb k) = false)
    (HZ : Hid (∀ w : World, Calls Try.prog 27 #[.int .i64 S] w fun e w' => e = .returned (.tuple #[.int .i64 lo, .int .i64 hi]) ∧ w' = w))
    (hc : ((s.size : Int) - 1 < lo ∧ c = 3) ∨ (lo ≤ (s.size : Int) - 1 ∧ hi < (s.size : Int) - 1 ∧ c = 4)) : RD s 0 0 0 0 ⟨#[]⟩ c := by
  intro w
  have h1 := str_full s h
  have hb := get_bt s
  have e1 := u8_and15 (bt s 0) (bt_nonneg s 0) (by have := bt_le s 0; omega)
  rw [hk] at e1
  have HS : Hid (∀ w : World, Calls Try.prog 21 #[.int .i64 (k : Int)] w fun e w' => e = .returned (.int .i64 S) ∧ w' = w) := by intro w; rw [← h0]; exact shape_any k w
  have hk2 : k < 16 := by omega
  have HF : Hid (∀ w : World, Calls Try.prog 20 #[.int .i64 (k : Int)] w fun e w' => e = .returned (.int .u8 (fb k)) ∧ w' = w) := first_any k hk2
  obtain ⟨n, hn⟩ : ∃ n, s.size = n + 1 := ⟨s.size - 1, by omega⟩
  have hx : (s.extract 1 (n + 1)).size = n := by rw [ByteArray.size_extract]; omega
  unfold maxLen at hm
  generalize fb k = F at *
  clear hk h0
  rcases hc with ⟨hc, rfl⟩ | ⟨hc, hd, rfl⟩
  all_goals go_enter Try.func13, Try.ntmps13
  all_goals go_wp2_with fail
  all_goals refine (HS.out _).mono ?_
  all_goals rintro r u ⟨rfl, rfl⟩
  all_goals go_wp2_with fail
  all_goals go_quiet ((go_at_call 20; exact Calls.quiet_of_same (HF.out _)))
  all_goals go_wp2_with fail
  all_goals refine (HZ.out _).mono ?_
  all_goals rintro r u ⟨rfl, rfl⟩
  all_goals go_wp2
  · exact bodyPost_ret (v := .tuple #[pk 0 0 0 0 ⟨#[]⟩, .int .i64 3]) (by simp [results, Try.results13, go_sem]) rfl ⟨rfl, bset5 (below_drewN (balloc _ _) _) (Nat.le_refl _) ..⟩
  · exact bodyPost_ret (v := .tuple #[pk 0 0 0 0 ⟨#[]⟩, .int .i64 4]) (by simp [results, Try.results13, go_sem]) rfl ⟨rfl, bset5 (below_drewN (balloc _ _) _) (Nat.le_refl _) ..⟩
theorem zero_alloc (w : World) (o : Obj) (q : Nat) (ho : o = pcells 0 0 0 0 ⟨#[]⟩) :
    Pk ((w.alloc o).drewN q) w.heap.size 0 0 0 0 ⟨#[]⟩ ∧ ((w.alloc o).drewN q).frozen? ⟨w.heap.size, 0, none⟩ = false ∧ ((w.alloc o).drewN q).frozen? ⟨w.heap.size, 1, none⟩ = false ∧
      ((w.alloc o).drewN q).frozen? ⟨w.heap.size, 2, none⟩ = false ∧ ((w.alloc o).drewN q).frozen? ⟨w.heap.size, 3, none⟩ = false ∧ ((w.alloc o).drewN q).frozen? ⟨w.heap.size, 4, none⟩ = false := by
  subst ho
  refine ⟨⟨?_, ?_, ?_, ?_, ?_, ?_⟩, ?_, ?_, ?_, ?_, ?_⟩ <;> go_simp
set_option maxHeartbeats 2000000 in
theorem read_open (s : ByteArray) (k : Nat) (S lo hi a e f : Int) (d : ByteArray) (b : Bool) (h : 0 < s.size) (hm : s.size ≤ maxLen) (hk : bt s 0 % 16 = (k : Int)) (h0 : shp k = S) (h2 : (S == 0) = false) (hf : (bt s 0 != fb k) = false)
    (HZ : Hid (∀ w : World, Calls Try.prog 27 #[.int .i64 S] w fun e w' => e = .returned (.tuple #[.int .i64 lo, .int .i64 hi]) ∧ w' = w))
    (hc : lo ≤ (s.size : Int) - 1 ∧ (s.size : Int) - 1 ≤ hi)
    (HO : Hid (∀ w : World, Calls Try.prog 28 #[.int .i64 S, .string (s.extract 1 s.size)] w fun r w' => r = .returned (.tuple #[pk 0 a e f d, .bool b]) ∧ Below w.heap.size w w')) :
    (b = true → RD s k a e f d 0) ∧ (b = false → RD s 0 0 0 0 ⟨#[]⟩ 5) := by
  have h1 := str_full s h
  have hb := get_bt s
  have e1 := u8_and15 (bt s 0) (bt_nonneg s 0) (by have := bt_le s 0; omega)
  rw [hk] at e1
  have HS : Hid (∀ w : World, Calls Try.prog 21 #[.int .i64 (k : Int)] w fun e w' => e = .returned (.int .i64 S) ∧ w' = w) := by intro w; rw [← h0]; exact shape_any k w
  have hk2 : k < 16 := by omega
  have HF : Hid (∀ w : World, Calls Try.prog 20 #[.int .i64 (k : Int)] w fun e w' => e = .returned (.int .u8 (fb k)) ∧ w' = w) := first_any k hk2
  obtain ⟨n, hn⟩ : ∃ n, s.size = n + 1 := ⟨s.size - 1, by omega⟩
  have hx : (s.extract 1 (n + 1)).size = n := by rw [ByteArray.size_extract]; omega
  unfold maxLen at hm
  rw [hn] at HO
  generalize fb k = F at *
  clear hk h0
  constructor
  all_goals rintro rfl w
  all_goals go_enter Try.func13, Try.ntmps13
  all_goals go_wp2_with fail
  all_goals refine (HS.out _).mono ?_
  all_goals rintro r u ⟨rfl, rfl⟩
  all_goals go_wp2_with fail
  all_goals go_quiet ((go_at_call 20; exact Calls.quiet_of_same (HF.out _)))
  all_goals go_wp2_with fail
  all_goals refine (HZ.out _).mono ?_
  all_goals rintro r u ⟨rfl, rfl⟩
  all_goals go_wp2_with fail
  all_goals refine (HO.out _).mono ?_
  all_goals rintro r v ⟨rfl, hbe⟩
  all_goals obtain ⟨hp, z0, z1, z2, z3, z4⟩ := zero_alloc w _ nq rfl
  all_goals obtain ⟨hz, c0, c1, c2, c3, c4⟩ := hp.below hbe
  all_goals have f0 := (hbe.frozen (p := ⟨w.heap.size, 0, none⟩) hp.size).trans z0
  all_goals have f1 := (hbe.frozen (p := ⟨w.heap.size, 1, none⟩) hp.size).trans z1
  all_goals have f2 := (hbe.frozen (p := ⟨w.heap.size, 2, none⟩) hp.size).trans z2
  all_goals have f3 := (hbe.frozen (p := ⟨w.heap.size, 3, none⟩) hp.size).trans z3
  all_goals have f4 := (hbe.frozen (p := ⟨w.heap.size, 4, none⟩) hp.size).trans z4
  all_goals have HB : Hid (Below w.heap.size w v) := bsq (below_drewN (balloc w _) nq) hbe
  all_goals clear hp z0 z1 z2 z3 z4 hbe
  all_goals go_wp2
  · exact bodyPost_ret (v := .tuple #[pk k a e f d, .int .i64 0]) (by simp [results, Try.results13, go_sem, hz, c0, c1, c2, c3, c4]) rfl ⟨rfl, bsq (bset5 HB.out (Nat.le_refl _) ..) (balloc _ _)⟩
  · exact bodyPost_ret (v := .tuple #[pk 0 0 0 0 ⟨#[]⟩, .int .i64 5]) (by simp [results, Try.results13, go_sem, hz, c0, c1, c2, c3, c4]) rfl ⟨rfl, bsq (bset5 HB.out (Nat.le_refl _) ..) (balloc _ _)⟩
end Go.Proofs.Ytepifjimfcnggaa.pack
