/- plugref's packet: what ReadPacket answers of bytes that are no packet, and of packets that have nothing but their kind. -/
import Derived.Test.YtepifjimfcnggaaPackR
namespace Go.Proofs.Ytepifjimfcnggaa.pack
open Go.RowKit Go.PlainAid Go.Proofs.Ytepifjimfcnggaa.lane Go.Proofs.Ytepifjimfcnggaa.crc
set_option linter.unusedVariables false

abbrev RR (s : ByteArray) (k a e f : Int) (d : ByteArray) (c : Int) : Prop :=
  ∀ w : World, Calls Try.prog 14 #[.string s] w fun r w' => r = .returned (.tuple #[pk k a e f d, .int .i64 c]) ∧ Below w.heap.size w w'
/-- a packet's cells at block B, that may be written -/
structure Pw (w : World) (B : Nat) (k a e f : Int) (d : ByteArray) : Prop where
  pk : Pk w B k a e f d
  f0 : w.frozen? ⟨B, 0, none⟩ = false
  f1 : w.frozen? ⟨B, 1, none⟩ = false
  f2 : w.frozen? ⟨B, 2, none⟩ = false
  f3 : w.frozen? ⟨B, 3, none⟩ = false
  f4 : w.frozen? ⟨B, 4, none⟩ = false
theorem pw_alloc (w : World) (k a e f : Int) (d : ByteArray) : Pw (w.alloc (pcells k a e f d)) w.heap.size k a e f d := by
  refine ⟨pk_alloc w k a e f d, ?_, ?_, ?_, ?_, ?_⟩ <;> go_simp
theorem Pw.below {w u : World} {B : Nat} {k a e f : Int} {d : ByteArray} (h : Pw w B k a e f d) (hb : Below w.heap.size w u) : Pw u B k a e f d :=
  ⟨h.pk.below hb, (hb.frozen h.pk.size).trans h.f0, (hb.frozen h.pk.size).trans h.f1, (hb.frozen h.pk.size).trans h.f2, (hb.frozen h.pk.size).trans h.f3, (hb.frozen h.pk.size).trans h.f4⟩
abbrev wthree (k : Int) (w : World) (q : Nat) : World := (((w.alloc (pcells 0 0 0 0 ⟨#[]⟩)).alloc (pcells 0 0 0 0 ⟨#[]⟩)).alloc (pcells k 0 0 0 ⟨#[]⟩)).drewN q
theorem below_three (k : Int) (w : World) (q : Nat) : Below w.heap.size w (wthree k w q) := below_drewN (bsq (bsq (balloc w _) (balloc _ _)) (balloc _ _)) q
theorem three (k : Int) (w : World) (q : Nat) : Pw (wthree k w q) w.heap.size 0 0 0 0 ⟨#[]⟩ ∧ Pw (wthree k w q) (w.heap.size + 1) 0 0 0 0 ⟨#[]⟩ ∧ Pw (wthree k w q) (w.heap.size + 1 + 1) k 0 0 0 ⟨#[]⟩ := by
  have b3 : ∀ w : World, Below w.heap.size w (w.drewN q) := fun w => below_drewN (Below.refl _ _) q
  refine ⟨(((pw_alloc w 0 0 0 0 ⟨#[]⟩).below (balloc _ _)).below (balloc _ _)).below (b3 _), ?_, ?_⟩
  · have h := ((pw_alloc (w.alloc (pcells 0 0 0 0 ⟨#[]⟩)) 0 0 0 0 ⟨#[]⟩).below (balloc _ (pcells k 0 0 0 ⟨#[]⟩))).below (b3 _)
    rwa [show (w.alloc (pcells 0 0 0 0 ⟨#[]⟩)).heap.size = w.heap.size + 1 by simp] at h
  · have h := (pw_alloc ((w.alloc (pcells 0 0 0 0 ⟨#[]⟩)).alloc (pcells 0 0 0 0 ⟨#[]⟩)) k 0 0 0 ⟨#[]⟩).below (b3 _)
    rwa [show ((w.alloc (pcells 0 0 0 0 ⟨#[]⟩)).alloc (pcells 0 0 0 0 ⟨#[]⟩)).heap.size = w.heap.size + 1 + 1 by simp] at h
theorem rr_nil (s : ByteArray) (h : s.size = 0) : RR s 0 0 0 0 ⟨#[]⟩ 3 := by
  intro w
  go_enter Try.func14, Try.ntmps14
  go_wp2
  exact bodyPost_ret (v := .tuple #[pk 0 0 0 0 ⟨#[]⟩, .int .i64 3]) (by simp [results, Try.results14, go_sem]) rfl ⟨rfl, bsq (balloc _ _) (balloc _ _)⟩
theorem bset5' {w u : World} (h : Below w.heap.size w u) (v0 v1 v2 v3 v4 : Value) :
    Below w.heap.size w (((((u.setCell ⟨w.heap.size, 0, none⟩ v0).setCell ⟨w.heap.size, 1, none⟩ v1).setCell ⟨w.heap.size, 2, none⟩ v2).setCell ⟨w.heap.size, 3, none⟩ v3).setCell ⟨w.heap.size, 4, none⟩ v4) := bset5 h (Nat.le_refl _) v0 v1 v2 v3 v4
set_option maxHeartbeats 1000000 in
theorem rr_sum (s : ByteArray) (k : Nat) (h : 0 < s.size) (hm : s.size ≤ maxLen) (hk : bt s 0 % 16 = (k : Int)) (hf : (bt s 0 / 16 + (k : Int) != 15) = true) : RR s 0 0 0 0 ⟨#[]⟩ 4 := by
  intro w
  have hb := get_bt s
  have b0 := bt_nonneg s 0
  have b1 := bt_le s 0
  have hk2 : k < 16 := by omega
  unfold maxLen at hm
  have HG : Hid (∀ (s : ByteArray) (w : World), Calls Try.prog 16 #[.int .i64 (k : Int), .string s] w fun e w' => e = .returned (.bool (isB k s)) ∧ w' = w) := is_gen k
  go_enter Try.func14, Try.ntmps14
  go_wp2_with fail
  go_quiet (fail)
  obtain ⟨T0, T1, T2⟩ := three k w nq
  have HB : Hid (Below w.heap.size w (wthree k w nq)) := below_three k w nq
  obtain ⟨u, hu⟩ : ∃ u, (((w.alloc (pcells 0 0 0 0 ⟨#[]⟩)).alloc (pcells 0 0 0 0 ⟨#[]⟩)).alloc (pcells k 0 0 0 ⟨#[]⟩)).drewN nq = u := ⟨_, rfl⟩
  have hu2 : wthree k w nq = u := hu
  rw [hu2] at T0 T1 T2
  replace HB : Hid (Below w.heap.size w u) := by rw [← hu2]; exact HB.out
  clear hu2
  rw [hu]
  clear hu
  obtain ⟨⟨x0, x1, x2, x3, x4, x5⟩, g0, g1, g2, g3, g4⟩ := T0
  obtain ⟨⟨y0, y1, y2, y3, y4, y5⟩, _, _, _, _, _⟩ := T1
  obtain ⟨⟨z0, z1, z2, z3, z4, z5⟩, q0, q1, q2, q3, q4⟩ := T2
  go_wp2
  exact bodyPost_ret (v := .tuple #[pk 0 0 0 0 ⟨#[]⟩, .int .i64 4]) (by simp [results, Try.results14, go_sem, x1, x2, x3, x4, x5]) rfl ⟨rfl, bset5' HB.out _ _ _ _ _⟩
set_option maxHeartbeats 1000000 in
theorem rr_none (s : ByteArray) (k : Nat) (h : 0 < s.size) (hm : s.size ≤ maxLen) (hk : bt s 0 % 16 = (k : Int)) (hf : (bt s 0 / 16 + (k : Int) != 15) = false) (hA : isB k ⟨#[1, 9, 13, 3, 11, 2, 10, 14, 5]⟩ = false) : RR s 0 0 0 0 ⟨#[]⟩ 4 := by
  intro w
  have hb := get_bt s
  have b0 := bt_nonneg s 0
  have b1 := bt_le s 0
  have hk2 : k < 16 := by omega
  unfold maxLen at hm
  have HG : Hid (∀ (s : ByteArray) (w : World), Calls Try.prog 16 #[.int .i64 (k : Int), .string s] w fun e w' => e = .returned (.bool (isB k s)) ∧ w' = w) := is_gen k
  go_enter Try.func14, Try.ntmps14
  go_wp2_with fail
  go_quiet ((go_at_call 16; exact Calls.quiet_of_same (HG.out _ _)))
  obtain ⟨T0, T1, T2⟩ := three k w nq
  have HB : Hid (Below w.heap.size w (wthree k w nq)) := below_three k w nq
  obtain ⟨u, hu⟩ : ∃ u, (((w.alloc (pcells 0 0 0 0 ⟨#[]⟩)).alloc (pcells 0 0 0 0 ⟨#[]⟩)).alloc (pcells k 0 0 0 ⟨#[]⟩)).drewN nq = u := ⟨_, rfl⟩
  have hu2 : wthree k w nq = u := hu
  rw [hu2] at T0 T1 T2
  replace HB : Hid (Below w.heap.size w u) := by rw [← hu2]; exact HB.out
  clear hu2
  rw [hu]
  clear hu
  obtain ⟨⟨x0, x1, x2, x3, x4, x5⟩, g0, g1, g2, g3, g4⟩ := T0
  obtain ⟨⟨y0, y1, y2, y3, y4, y5⟩, _, _, _, _, _⟩ := T1
  obtain ⟨⟨z0, z1, z2, z3, z4, z5⟩, q0, q1, q2, q3, q4⟩ := T2
  go_wp2
  exact bodyPost_ret (v := .tuple #[pk 0 0 0 0 ⟨#[]⟩, .int .i64 4]) (by simp [results, Try.results14, go_sem, x1, x2, x3, x4, x5]) rfl ⟨rfl, bset5' HB.out _ _ _ _ _⟩
set_option maxHeartbeats 1000000 in
theorem rr_bare_long (s : ByteArray) (k : Nat) (h : 0 < s.size) (hm : s.size ≤ maxLen) (hk : bt s 0 % 16 = (k : Int)) (hf : (bt s 0 / 16 + (k : Int) != 15) = false) (hA : isB k ⟨#[1, 9, 13, 3, 11, 2, 10, 14, 5]⟩ = true) (hB : isB k ⟨#[2, 10, 14]⟩ = true) (hl : 1 < s.size) : RR s 0 0 0 0 ⟨#[]⟩ 4 := by
  intro w
  have hb := get_bt s
  have b0 := bt_nonneg s 0
  have b1 := bt_le s 0
  have hk2 : k < 16 := by omega
  unfold maxLen at hm
  have HG : Hid (∀ (s : ByteArray) (w : World), Calls Try.prog 16 #[.int .i64 (k : Int), .string s] w fun e w' => e = .returned (.bool (isB k s)) ∧ w' = w) := is_gen k
  go_enter Try.func14, Try.ntmps14
  go_wp2_with fail
  go_quiet ((go_at_call 16; exact Calls.quiet_of_same (HG.out _ _)))
  obtain ⟨T0, T1, T2⟩ := three k w nq
  have HB : Hid (Below w.heap.size w (wthree k w nq)) := below_three k w nq
  obtain ⟨u, hu⟩ : ∃ u, (((w.alloc (pcells 0 0 0 0 ⟨#[]⟩)).alloc (pcells 0 0 0 0 ⟨#[]⟩)).alloc (pcells k 0 0 0 ⟨#[]⟩)).drewN nq = u := ⟨_, rfl⟩
  have hu2 : wthree k w nq = u := hu
  rw [hu2] at T0 T1 T2
  replace HB : Hid (Below w.heap.size w u) := by rw [← hu2]; exact HB.out
  clear hu2
  rw [hu]
  clear hu
  obtain ⟨⟨x0, x1, x2, x3, x4, x5⟩, g0, g1, g2, g3, g4⟩ := T0
  obtain ⟨⟨y0, y1, y2, y3, y4, y5⟩, _, _, _, _, _⟩ := T1
  obtain ⟨⟨z0, z1, z2, z3, z4, z5⟩, q0, q1, q2, q3, q4⟩ := T2
  go_wp2_with fail
  refine (HG.out _ _).mono ?_
  rintro r v ⟨rfl, rfl⟩
  go_wp2
  exact bodyPost_ret (v := .tuple #[pk 0 0 0 0 ⟨#[]⟩, .int .i64 4]) (by simp [results, Try.results14, go_sem, x1, x2, x3, x4, x5]) rfl ⟨rfl, bset5' HB.out _ _ _ _ _⟩
set_option maxHeartbeats 1000000 in
theorem rr_bare (s : ByteArray) (k : Nat) (h : 0 < s.size) (hm : s.size ≤ maxLen) (hk : bt s 0 % 16 = (k : Int)) (hf : (bt s 0 / 16 + (k : Int) != 15) = false) (hA : isB k ⟨#[1, 9, 13, 3, 11, 2, 10, 14, 5]⟩ = true) (hB : isB k ⟨#[2, 10, 14]⟩ = true) (hl : s.size = 1) : RR s k 0 0 0 ⟨#[]⟩ 0 := by
  intro w
  have hb := get_bt s
  have b0 := bt_nonneg s 0
  have b1 := bt_le s 0
  have hk2 : k < 16 := by omega
  unfold maxLen at hm
  have HG : Hid (∀ (s : ByteArray) (w : World), Calls Try.prog 16 #[.int .i64 (k : Int), .string s] w fun e w' => e = .returned (.bool (isB k s)) ∧ w' = w) := is_gen k
  go_enter Try.func14, Try.ntmps14
  go_wp2_with fail
  go_quiet ((go_at_call 16; exact Calls.quiet_of_same (HG.out _ _)))
  obtain ⟨T0, T1, T2⟩ := three k w nq
  have HB : Hid (Below w.heap.size w (wthree k w nq)) := below_three k w nq
  obtain ⟨u, hu⟩ : ∃ u, (((w.alloc (pcells 0 0 0 0 ⟨#[]⟩)).alloc (pcells 0 0 0 0 ⟨#[]⟩)).alloc (pcells k 0 0 0 ⟨#[]⟩)).drewN nq = u := ⟨_, rfl⟩
  have hu2 : wthree k w nq = u := hu
  rw [hu2] at T0 T1 T2
  replace HB : Hid (Below w.heap.size w u) := by rw [← hu2]; exact HB.out
  clear hu2
  rw [hu]
  clear hu
  obtain ⟨⟨x0, x1, x2, x3, x4, x5⟩, g0, g1, g2, g3, g4⟩ := T0
  obtain ⟨⟨y0, y1, y2, y3, y4, y5⟩, _, _, _, _, _⟩ := T1
  obtain ⟨⟨z0, z1, z2, z3, z4, z5⟩, q0, q1, q2, q3, q4⟩ := T2
  go_wp2_with fail
  refine (HG.out _ _).mono ?_
  rintro r v ⟨rfl, rfl⟩
  go_wp2
  exact bodyPost_ret (v := .tuple #[pk k 0 0 0 ⟨#[]⟩, .int .i64 0]) (by simp [results, Try.results14, go_sem, x1, x2, x3, x4, x5]) rfl ⟨rfl, bset5' HB.out _ _ _ _ _⟩
set_option maxHeartbeats 1000000 in
theorem rr_short (s : ByteArray) (k : Nat) (h : 0 < s.size) (hm : s.size ≤ maxLen) (hk : bt s 0 % 16 = (k : Int)) (hf : (bt s 0 / 16 + (k : Int) != 15) = false) (hA : isB k ⟨#[1, 9, 13, 3, 11, 2, 10, 14, 5]⟩ = true) (hB : isB k ⟨#[2, 10, 14]⟩ = false) (hl : s.size < 3) : RR s 0 0 0 0 ⟨#[]⟩ 3 := by
  intro w
  have hb := get_bt s
  have b0 := bt_nonneg s 0
  have b1 := bt_le s 0
  have hk2 : k < 16 := by omega
  unfold maxLen at hm
  have HG : Hid (∀ (s : ByteArray) (w : World), Calls Try.prog 16 #[.int .i64 (k : Int), .string s] w fun e w' => e = .returned (.bool (isB k s)) ∧ w' = w) := is_gen k
  go_enter Try.func14, Try.ntmps14
  go_wp2_with fail
  go_quiet ((go_at_call 16; exact Calls.quiet_of_same (HG.out _ _)))
  obtain ⟨T0, T1, T2⟩ := three k w nq
  have HB : Hid (Below w.heap.size w (wthree k w nq)) := below_three k w nq
  obtain ⟨u, hu⟩ : ∃ u, (((w.alloc (pcells 0 0 0 0 ⟨#[]⟩)).alloc (pcells 0 0 0 0 ⟨#[]⟩)).alloc (pcells k 0 0 0 ⟨#[]⟩)).drewN nq = u := ⟨_, rfl⟩
  have hu2 : wthree k w nq = u := hu
  rw [hu2] at T0 T1 T2
  replace HB : Hid (Below w.heap.size w u) := by rw [← hu2]; exact HB.out
  clear hu2
  rw [hu]
  clear hu
  obtain ⟨⟨x0, x1, x2, x3, x4, x5⟩, g0, g1, g2, g3, g4⟩ := T0
  obtain ⟨⟨y0, y1, y2, y3, y4, y5⟩, _, _, _, _, _⟩ := T1
  obtain ⟨⟨z0, z1, z2, z3, z4, z5⟩, q0, q1, q2, q3, q4⟩ := T2
  go_wp2_with fail
  refine (HG.out _ _).mono ?_
  rintro r v ⟨rfl, rfl⟩
  go_wp2
  exact bodyPost_ret (v := .tuple #[pk 0 0 0 0 ⟨#[]⟩, .int .i64 3]) (by simp [results, Try.results14, go_sem, x1, x2, x3, x4, x5]) rfl ⟨rfl, bset5' HB.out _ _ _ _ _⟩
set_option maxHeartbeats 1000000 in
theorem rr_tok_long (s : ByteArray) (k : Nat) (h : 0 < s.size) (hm : s.size ≤ maxLen) (hk : bt s 0 % 16 = (k : Int)) (hf : (bt s 0 / 16 + (k : Int) != 15) = false) (hA : isB k ⟨#[1, 9, 13, 3, 11, 2, 10, 14, 5]⟩ = true) (hB : isB k ⟨#[2, 10, 14]⟩ = false) (hD : isB k ⟨#[3, 11]⟩ = false) (hl : 3 < s.size) : RR s 0 0 0 0 ⟨#[]⟩ 4 := by
  intro w
  have hb := get_bt s
  have b0 := bt_nonneg s 0
  have b1 := bt_le s 0
  have hk2 : k < 16 := by omega
  unfold maxLen at hm
  have HG : Hid (∀ (s : ByteArray) (w : World), Calls Try.prog 16 #[.int .i64 (k : Int), .string s] w fun e w' => e = .returned (.bool (isB k s)) ∧ w' = w) := is_gen k
  go_enter Try.func14, Try.ntmps14
  go_wp2_with fail
  go_quiet ((go_at_call 16; exact Calls.quiet_of_same (HG.out _ _)))
  obtain ⟨T0, T1, T2⟩ := three k w nq
  have HB : Hid (Below w.heap.size w (wthree k w nq)) := below_three k w nq
  obtain ⟨u, hu⟩ : ∃ u, (((w.alloc (pcells 0 0 0 0 ⟨#[]⟩)).alloc (pcells 0 0 0 0 ⟨#[]⟩)).alloc (pcells k 0 0 0 ⟨#[]⟩)).drewN nq = u := ⟨_, rfl⟩
  have hu2 : wthree k w nq = u := hu
  rw [hu2] at T0 T1 T2
  replace HB : Hid (Below w.heap.size w u) := by rw [← hu2]; exact HB.out
  clear hu2
  rw [hu]
  clear hu
  obtain ⟨⟨x0, x1, x2, x3, x4, x5⟩, g0, g1, g2, g3, g4⟩ := T0
  obtain ⟨⟨y0, y1, y2, y3, y4, y5⟩, _, _, _, _, _⟩ := T1
  obtain ⟨⟨z0, z1, z2, z3, z4, z5⟩, q0, q1, q2, q3, q4⟩ := T2
  go_wp2_with fail
  refine (HG.out _ _).mono ?_
  rintro r v ⟨rfl, rfl⟩
  go_wp2_with fail
  refine (HG.out _ _).mono ?_
  rintro r v ⟨rfl, rfl⟩
  go_wp2
  exact bodyPost_ret (v := .tuple #[pk 0 0 0 0 ⟨#[]⟩, .int .i64 4]) (by simp [results, Try.results14, go_sem, x1, x2, x3, x4, x5]) rfl ⟨rfl, bset5' HB.out _ _ _ _ _⟩
end Go.Proofs.Ytepifjimfcnggaa.pack
