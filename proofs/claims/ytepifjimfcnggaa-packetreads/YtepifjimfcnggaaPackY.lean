/- plugref's packet: what ReadPacket answers of tokens, frames' numbers and data. -/
import Derived.Test.YtepifjimfcnggaaPackW
import Derived.Deep.RegionHeld3
namespace Go.Proofs.Ytepifjimfcnggaa.pack
open Go.RowKit Go.PlainAid Go.Proofs.Ytepifjimfcnggaa.lane Go.Proofs.Ytepifjimfcnggaa.crc
set_option linter.unusedVariables false

/-- the three variables of ReadPacket, and nothing else is other than before -/
structure Keep (w u : World) (k : Int) (d : ByteArray) : Prop where
  bel : Below w.heap.size w u
  t0 : Pw u w.heap.size 0 0 0 0 ⟨#[]⟩
  t1 : Pw u (w.heap.size + 1) 0 0 0 0 ⟨#[]⟩
  t2 : Pw u (w.heap.size + 1 + 1) k 0 0 0 d
theorem Keep.below {w a b : World} {k : Int} {d : ByteArray} (h : Keep w a k d) (hb : Below a.heap.size a b) : Keep w b k d := ⟨bsq h.bel hb, h.t0.below hb, h.t1.below hb, h.t2.below hb⟩
theorem Keep.drewN {w a : World} {k : Int} {d : ByteArray} (h : Keep w a k d) (q : Nat) : Keep w (a.drewN q) k d := h.below (below_drewN (Below.refl _ _) q)
theorem Keep.drew {w a : World} {k : Int} {d : ByteArray} (h : Keep w a k d) : Keep w a.drew k d := h.below (Below.refl _ _).drew
theorem setCell_size (u : World) (p : Addr) (v : Value) : (u.setCell p v).heap.size = u.heap.size := by simp
theorem Pk.other {u : World} {B B' o : Nat} {k a e f : Int} {d : ByteArray} {v : Value} (h : Pk u B k a e f d) (hB : B' ≠ B) : Pk (u.setCell ⟨B', o, none⟩ v) B k a e f d := by
  have hc : ∀ i, (u.setCell ⟨B', o, none⟩ v).cell? ⟨B, i, none⟩ = u.cell? ⟨B, i, none⟩ := fun i => World.cell?_setCell_other u ⟨B', o, none⟩ ⟨B, i, none⟩ v (fun q => hB (by injection q))
  exact ⟨by rw [setCell_size]; exact h.size, (hc 0).trans h.c0, (hc 1).trans h.c1, (hc 2).trans h.c2, (hc 3).trans h.c3, (hc 4).trans h.c4⟩
theorem Pw.other {u : World} {B B' o : Nat} {k a e f : Int} {d : ByteArray} {v : Value} (h : Pw u B k a e f d) (hB : B' ≠ B) : Pw (u.setCell ⟨B', o, none⟩ v) B k a e f d :=
  ⟨h.pk.other hB, by rw [World.frozen?_setCell]; exact h.f0, by rw [World.frozen?_setCell]; exact h.f1, by rw [World.frozen?_setCell]; exact h.f2, by rw [World.frozen?_setCell]; exact h.f3, by rw [World.frozen?_setCell]; exact h.f4⟩
theorem Pw.data {u : World} {B : Nat} {k a e f : Int} {d : ByteArray} (X : ByteArray) (h : Pw u B k a e f d) : Pw (u.setCell ⟨B, 4, none⟩ (.string X)) B k a e f X := by
  have hc : ∀ i, i ≠ 4 → (u.setCell ⟨B, 4, none⟩ (.string X)).cell? ⟨B, i, none⟩ = u.cell? ⟨B, i, none⟩ := fun i hi => World.cell?_setCell_other u ⟨B, 4, none⟩ ⟨B, i, none⟩ _ (fun q => hi (by injection q with _ q; exact q.symm))
  refine ⟨⟨by rw [setCell_size]; exact h.pk.size, (hc 0 (by omega)).trans h.pk.c0, (hc 1 (by omega)).trans h.pk.c1, (hc 2 (by omega)).trans h.pk.c2, (hc 3 (by omega)).trans h.pk.c3, World.cell?_setCell_same _ _ _ h.pk.c4⟩, ?_, ?_, ?_, ?_, ?_⟩
  all_goals rw [World.frozen?_setCell]
  · exact h.f0
  · exact h.f1
  · exact h.f2
  · exact h.f3
  · exact h.f4
theorem Keep.data {w a : World} {k : Int} {d : ByteArray} (X : ByteArray) (h : Keep w a k d) : Keep w (a.setCell ⟨w.heap.size + 1 + 1, 4, none⟩ (.string X)) k X :=
  ⟨h.bel.setCell (by show w.heap.size ≤ w.heap.size + 1 + 1; omega) _, h.t0.other (by omega), h.t1.other (by omega), h.t2.data X⟩
theorem keep_three (k : Int) (w : World) (q : Nat) : Keep w (wthree k w q) k ⟨#[]⟩ := ⟨below_three k w q, (three k w q).1, (three k w q).2.1, (three k w q).2.2⟩
theorem txt_two' (s : ByteArray) (h : s.size = 3) : nums (s.extract 1 s.size) = [bt s 1, bt s 2] := by
  rw [nums_extract, ← nums_length s, List.take_length, drop_nums s 1 (by omega), drop_nums s 2 (by omega), drop_end s 3 (by omega)]
theorem bset1 {w u : World} (h : Below w.heap.size w u) (o : Nat) (v : Value) : Below w.heap.size w (u.setCell ⟨w.heap.size + 1 + 1, o, none⟩ v) := h.setCell (p := ⟨w.heap.size + 1 + 1, o, none⟩) (by show w.heap.size ≤ w.heap.size + 1 + 1; omega) v
set_option maxHeartbeats 1000000 in
theorem rr_tok_sum (s : ByteArray) (k : Nat) (h : 0 < s.size) (hm : s.size ≤ maxLen) (hk : bt s 0 % 16 = (k : Int)) (hf : (bt s 0 / 16 + (k : Int) != 15) = false) (hA : isB k ⟨#[1, 9, 13, 3, 11, 2, 10, 14, 5]⟩ = true) (hB : isB k ⟨#[2, 10, 14]⟩ = false) (hD : isB k ⟨#[3, 11]⟩ = false) (N : Nat) (hl : s.size = 3) (eN : bt s 1 + 256 * bt s 2 = (N : Int)) (hs : ((five (N % 2048) : Int) != (N : Int) / 2048) = true) : RR s 0 0 0 0 ⟨#[]⟩ 5 := by
  intro w
  have hb := get_bt s
  have b0 := bt_nonneg s 0
  have b1 := bt_le s 0
  have hk2 : k < 16 := by omega
  unfold maxLen at hm
  have c0 := bt_nonneg s 1
  have c1 := bt_le s 1
  have d0 := bt_nonneg s 2
  have d1 := bt_le s 2
  have hN : N < 65536 := by omega
  have H5 : Hid (∀ w : World, Calls Try.prog 17 #[.int .u16 ((N : Int) % 2048)] w fun e w' => e = .returned (.tuple #[.int .u8 (five (N % 2048) : Nat), .int .i64 0]) ∧ Below w.heap.size w w') := by
    intro w
    have h := rfive_ok (N % 2048) (by omega) w
    rw [show ((N % 2048 : Nat) : Int) = (N : Int) % 2048 by omega] at h
    exact h
  have h32 := five_lt (N % 2048)
  generalize five (N % 2048) = q at *
  have HG : Hid (∀ (s : ByteArray) (w : World), Calls Try.prog 16 #[.int .i64 (k : Int), .string s] w fun e w' => e = .returned (.bool (isB k s)) ∧ w' = w) := is_gen k
  go_enter Try.func14, Try.ntmps14
  go_wp2_with fail
  go_quiet ((go_at_call 16; exact Calls.quiet_of_same (HG.out _ _)))
  have HK : Hid (Keep w (wthree k w nq) k ⟨#[]⟩) := keep_three k w nq
  obtain ⟨u, hu⟩ : ∃ u, (((w.alloc (pcells 0 0 0 0 ⟨#[]⟩)).alloc (pcells 0 0 0 0 ⟨#[]⟩)).alloc (pcells k 0 0 0 ⟨#[]⟩)).drewN nq = u := ⟨_, rfl⟩
  have hu2 : wthree k w nq = u := hu
  replace HK : Hid (Keep w u k ⟨#[]⟩) := by rw [← hu2]; exact HK.out
  clear hu2
  rw [hu]
  clear hu
  obtain ⟨_, ⟨⟨x0, x1, x2, x3, x4, x5⟩, g0, g1, g2, g3, g4⟩, ⟨⟨y0, y1, y2, y3, y4, y5⟩, _, _, _, _, _⟩, ⟨⟨z0, z1, z2, z3, z4, z5⟩, q0, q1, q2, q3, q4⟩⟩ := HK.out
  go_wp2_with fail
  refine (HG.out _ _).mono ?_
  rintro r v ⟨rfl, rfl⟩
  go_wp2_with fail
  refine (HG.out _ _).mono ?_
  rintro r v ⟨rfl, rfl⟩
  go_wp2_with fail
  go_quiet (fail)
  replace HK : Hid (Keep w (v.drewN nq) k ⟨#[]⟩) := HK.out.drewN _
  go_wp2_with fail
  refine (H5.out _).mono ?_
  rintro r v2 ⟨rfl, hbv⟩
  replace HK : Hid (Keep w v2 k ⟨#[]⟩) := HK.out.below hbv
  clear hbv
  clear x0 x1 x2 x3 x4 x5 g0 g1 g2 g3 g4 y0 y1 y2 y3 y4 y5 z0 z1 z2 z3 z4 z5 q0 q1 q2 q3 q4
  obtain ⟨_, ⟨⟨x0, x1, x2, x3, x4, x5⟩, g0, g1, g2, g3, g4⟩, ⟨⟨y0, y1, y2, y3, y4, y5⟩, _, _, _, _, _⟩, ⟨⟨z0, z1, z2, z3, z4, z5⟩, q0, q1, q2, q3, q4⟩⟩ := HK.out
  go_wp2
  exact bodyPost_ret (v := .tuple #[pk 0 0 0 0 ⟨#[]⟩, .int .i64 5]) (by simp [results, Try.results14, go_sem, x1, x2, x3, x4, x5]) rfl ⟨rfl, bset5' HK.out.bel _ _ _ _ _⟩
set_option maxHeartbeats 1000000 in
theorem rr_frm (s : ByteArray) (k : Nat) (h : 0 < s.size) (hm : s.size ≤ maxLen) (hk : bt s 0 % 16 = (k : Int)) (hf : (bt s 0 / 16 + (k : Int) != 15) = false) (hA : isB k ⟨#[1, 9, 13, 3, 11, 2, 10, 14, 5]⟩ = true) (hB : isB k ⟨#[2, 10, 14]⟩ = false) (hD : isB k ⟨#[3, 11]⟩ = false) (N : Nat) (hl : s.size = 3) (eN : bt s 1 + 256 * bt s 2 = (N : Int)) (hs : ((five (N % 2048) : Int) != (N : Int) / 2048) = false) (h5 : ((k : Int) == 5) = true) : RR s k 0 0 ((N : Int) % 2048) ⟨#[]⟩ 0 := by
  intro w
  have hb := get_bt s
  have b0 := bt_nonneg s 0
  have b1 := bt_le s 0
  have hk2 : k < 16 := by omega
  unfold maxLen at hm
  have c0 := bt_nonneg s 1
  have c1 := bt_le s 1
  have d0 := bt_nonneg s 2
  have d1 := bt_le s 2
  have hN : N < 65536 := by omega
  have H5 : Hid (∀ w : World, Calls Try.prog 17 #[.int .u16 ((N : Int) % 2048)] w fun e w' => e = .returned (.tuple #[.int .u8 (five (N % 2048) : Nat), .int .i64 0]) ∧ Below w.heap.size w w') := by
    intro w
    have h := rfive_ok (N % 2048) (by omega) w
    rw [show ((N % 2048 : Nat) : Int) = (N : Int) % 2048 by omega] at h
    exact h
  have h32 := five_lt (N % 2048)
  generalize five (N % 2048) = q at *
  have HG : Hid (∀ (s : ByteArray) (w : World), Calls Try.prog 16 #[.int .i64 (k : Int), .string s] w fun e w' => e = .returned (.bool (isB k s)) ∧ w' = w) := is_gen k
  go_enter Try.func14, Try.ntmps14
  go_wp2_with fail
  go_quiet ((go_at_call 16; exact Calls.quiet_of_same (HG.out _ _)))
  have HK : Hid (Keep w (wthree k w nq) k ⟨#[]⟩) := keep_three k w nq
  obtain ⟨u, hu⟩ : ∃ u, (((w.alloc (pcells 0 0 0 0 ⟨#[]⟩)).alloc (pcells 0 0 0 0 ⟨#[]⟩)).alloc (pcells k 0 0 0 ⟨#[]⟩)).drewN nq = u := ⟨_, rfl⟩
  have hu2 : wthree k w nq = u := hu
  replace HK : Hid (Keep w u k ⟨#[]⟩) := by rw [← hu2]; exact HK.out
  clear hu2
  rw [hu]
  clear hu
  obtain ⟨_, ⟨⟨x0, x1, x2, x3, x4, x5⟩, g0, g1, g2, g3, g4⟩, ⟨⟨y0, y1, y2, y3, y4, y5⟩, _, _, _, _, _⟩, ⟨⟨z0, z1, z2, z3, z4, z5⟩, q0, q1, q2, q3, q4⟩⟩ := HK.out
  go_wp2_with fail
  refine (HG.out _ _).mono ?_
  rintro r v ⟨rfl, rfl⟩
  go_wp2_with fail
  refine (HG.out _ _).mono ?_
  rintro r v ⟨rfl, rfl⟩
  go_wp2_with fail
  go_quiet (fail)
  replace HK : Hid (Keep w (v.drewN nq) k ⟨#[]⟩) := HK.out.drewN _
  go_wp2_with fail
  refine (H5.out _).mono ?_
  rintro r v2 ⟨rfl, hbv⟩
  replace HK : Hid (Keep w v2 k ⟨#[]⟩) := HK.out.below hbv
  clear hbv
  clear x0 x1 x2 x3 x4 x5 g0 g1 g2 g3 g4 y0 y1 y2 y3 y4 y5 z0 z1 z2 z3 z4 z5 q0 q1 q2 q3 q4
  obtain ⟨_, ⟨⟨x0, x1, x2, x3, x4, x5⟩, g0, g1, g2, g3, g4⟩, ⟨⟨y0, y1, y2, y3, y4, y5⟩, _, _, _, _, _⟩, ⟨⟨z0, z1, z2, z3, z4, z5⟩, q0, q1, q2, q3, q4⟩⟩ := HK.out
  go_wp2
  refine bodyPost_ret (v := .tuple #[pk k 0 0 ((N : Int) % 2048) ⟨#[]⟩, .int .i64 0]) (by simp [results, Try.results14, go_sem, x1, x2, x3, x4, x5]) rfl ⟨rfl, ?_⟩
  exact bset5' (bset1 HK.out.bel _ _) _ _ _ _ _
set_option maxHeartbeats 1000000 in
theorem rr_tok (s : ByteArray) (k : Nat) (h : 0 < s.size) (hm : s.size ≤ maxLen) (hk : bt s 0 % 16 = (k : Int)) (hf : (bt s 0 / 16 + (k : Int) != 15) = false) (hA : isB k ⟨#[1, 9, 13, 3, 11, 2, 10, 14, 5]⟩ = true) (hB : isB k ⟨#[2, 10, 14]⟩ = false) (hD : isB k ⟨#[3, 11]⟩ = false) (N : Nat) (hl : s.size = 3) (eN : bt s 1 + 256 * bt s 2 = (N : Int)) (hs : ((five (N % 2048) : Int) != (N : Int) / 2048) = false) (h5 : ((k : Int) == 5) = false) : RR s k ((N : Int) % 128) ((N : Int) / 128 % 16) 0 ⟨#[]⟩ 0 := by
  intro w
  have hb := get_bt s
  have b0 := bt_nonneg s 0
  have b1 := bt_le s 0
  have hk2 : k < 16 := by omega
  unfold maxLen at hm
  have c0 := bt_nonneg s 1
  have c1 := bt_le s 1
  have d0 := bt_nonneg s 2
  have d1 := bt_le s 2
  have hN : N < 65536 := by omega
  have H5 : Hid (∀ w : World, Calls Try.prog 17 #[.int .u16 ((N : Int) % 2048)] w fun e w' => e = .returned (.tuple #[.int .u8 (five (N % 2048) : Nat), .int .i64 0]) ∧ Below w.heap.size w w') := by
    intro w
    have h := rfive_ok (N % 2048) (by omega) w
    rw [show ((N % 2048 : Nat) : Int) = (N : Int) % 2048 by omega] at h
    exact h
  have h32 := five_lt (N % 2048)
  generalize five (N % 2048) = q at *
  have HG : Hid (∀ (s : ByteArray) (w : World), Calls Try.prog 16 #[.int .i64 (k : Int), .string s] w fun e w' => e = .returned (.bool (isB k s)) ∧ w' = w) := is_gen k
  go_enter Try.func14, Try.ntmps14
  go_wp2_with fail
  go_quiet ((go_at_call 16; exact Calls.quiet_of_same (HG.out _ _)))
  have HK : Hid (Keep w (wthree k w nq) k ⟨#[]⟩) := keep_three k w nq
  obtain ⟨u, hu⟩ : ∃ u, (((w.alloc (pcells 0 0 0 0 ⟨#[]⟩)).alloc (pcells 0 0 0 0 ⟨#[]⟩)).alloc (pcells k 0 0 0 ⟨#[]⟩)).drewN nq = u := ⟨_, rfl⟩
  have hu2 : wthree k w nq = u := hu
  replace HK : Hid (Keep w u k ⟨#[]⟩) := by rw [← hu2]; exact HK.out
  clear hu2
  rw [hu]
  clear hu
  obtain ⟨_, ⟨⟨x0, x1, x2, x3, x4, x5⟩, g0, g1, g2, g3, g4⟩, ⟨⟨y0, y1, y2, y3, y4, y5⟩, _, _, _, _, _⟩, ⟨⟨z0, z1, z2, z3, z4, z5⟩, q0, q1, q2, q3, q4⟩⟩ := HK.out
  go_wp2_with fail
  refine (HG.out _ _).mono ?_
  rintro r v ⟨rfl, rfl⟩
  go_wp2_with fail
  refine (HG.out _ _).mono ?_
  rintro r v ⟨rfl, rfl⟩
  go_wp2_with fail
  go_quiet (fail)
  replace HK : Hid (Keep w (v.drewN nq) k ⟨#[]⟩) := HK.out.drewN _
  go_wp2_with fail
  refine (H5.out _).mono ?_
  rintro r v2 ⟨rfl, hbv⟩
  replace HK : Hid (Keep w v2 k ⟨#[]⟩) := HK.out.below hbv
  clear hbv
  clear x0 x1 x2 x3 x4 x5 g0 g1 g2 g3 g4 y0 y1 y2 y3 y4 y5 z0 z1 z2 z3 z4 z5 q0 q1 q2 q3 q4
  obtain ⟨_, ⟨⟨x0, x1, x2, x3, x4, x5⟩, g0, g1, g2, g3, g4⟩, ⟨⟨y0, y1, y2, y3, y4, y5⟩, _, _, _, _, _⟩, ⟨⟨z0, z1, z2, z3, z4, z5⟩, q0, q1, q2, q3, q4⟩⟩ := HK.out
  go_wp2
  refine bodyPost_ret (v := .tuple #[pk k ((N : Int) % 128) ((N : Int) / 128 % 16) 0 ⟨#[]⟩, .int .i64 0]) (by simp [results, Try.results14, go_sem, x1, x2, x3, x4, x5]) rfl ⟨rfl, ?_⟩
  exact bset5' (bset1 (bset1 HK.out.bel _ _) _ _) _ _ _ _ _
end Go.Proofs.Ytepifjimfcnggaa.pack
