/- plugref's packet: what ReadPacket answers of data. -/
import Derived.Test.YtepifjimfcnggaaPackY
import Derived.Laws.Strings2
namespace Go.Proofs.Ytepifjimfcnggaa.pack
open Go.RowKit Go.PlainAid Go.Proofs.Ytepifjimfcnggaa.lane Go.Proofs.Ytepifjimfcnggaa.crc
set_option linter.unusedVariables false

set_option maxHeartbeats 1000000 in
theorem rr_dat_long (s : ByteArray) (k : Nat) (h : 0 < s.size) (hm : s.size ≤ maxLen) (hk : bt s 0 % 16 = (k : Int)) (hf : (bt s 0 / 16 + (k : Int) != 15) = false) (hA : isB k ⟨#[1, 9, 13, 3, 11, 2, 10, 14, 5]⟩ = true) (hB : isB k ⟨#[2, 10, 14]⟩ = false) (hD : isB k ⟨#[3, 11]⟩ = true) (j : Nat) (hn : s.size = j + 2) (h1j : 1 ≤ j) (hl : 65 < j) : RR s 0 0 0 0 ⟨#[]⟩ 4 := by
  intro w
  have hb := get_bt s
  have b0 := bt_nonneg s 0
  have b1 := bt_le s 0
  have hk2 : k < 16 := by omega
  unfold maxLen at hm
  have gb1 : (1 : Int) ≤ (j : Int) := by omega
  have gb2 : (j : Int) ≤ (s.size : Int) := by omega
  have hsl : ∀ w : World, (Instr.slice 9 (.string s) (some (.int .i64 1)) (some (.int .i64 (j : Int))) none).run Try.prog w = .ok (.string (s.extract 1 j)) w := by
    intro w
    have := run_slice_string (P := Try.prog) w 9 s .i64 .i64 1 (j : Int) Try.underlying9 (by omega) (by omega) (by omega)
    simpa using this
  have HG : Hid (∀ (s : ByteArray) (w : World), Calls Try.prog 16 #[.int .i64 (k : Int), .string s] w fun e w' => e = .returned (.bool (isB k s)) ∧ w' = w) := is_gen k
  go_enter Try.func14, Try.ntmps14
  go_wp2_with fail
  go_quiet ((go_at_call 16; exact Calls.quiet_of_same (HG.out _ _)))
  have HK : Hid (Keep w (wthree k w nq) k ⟨#[]⟩) := keep_three k w nq
  obtain ⟨u, hu⟩ : ∃ u, (((w.alloc (pcells 0 0 0 0 ⟨#[]⟩)).alloc (pcells 0 0 0 0 ⟨#[]⟩)).alloc (pcells k 0 0 0 ⟨#[]⟩)).drewN nq = u := ⟨_, rfl⟩
  have hu2 : wthree k w nq = u := hu
  replace HK : Hid (Keep w u k ⟨#[]⟩) := by rw [← hu2]; exact HK.out
  clear hu2
  rw [hu]
  clear hu
  obtain ⟨_, ⟨⟨x0, x1, x2, x3, x4, x5⟩, g0, g1, g2, g3, g4⟩, ⟨⟨y0, y1, y2, y3, y4, y5⟩, _, _, _, _, _⟩, ⟨⟨z0, z1, z2, z3, z4, z5⟩, q0, q1, q2, q3, q4⟩⟩ := HK.out
  go_wp2_with fail
  refine (HG.out _ _).mono ?_
  rintro r v ⟨rfl, rfl⟩
  go_wp2_with fail
  refine (HG.out _ _).mono ?_
  rintro r v ⟨rfl, rfl⟩
  go_wp2
  exact bodyPost_ret (v := .tuple #[pk 0 0 0 0 ⟨#[]⟩, .int .i64 4]) (by simp [results, Try.results14, go_sem, x1, x2, x3, x4, x5]) rfl ⟨rfl, bset5' (bset1 HK.out.bel _ _) _ _ _ _ _⟩
set_option maxHeartbeats 1000000 in
theorem rr_dat_sum (s : ByteArray) (k : Nat) (h : 0 < s.size) (hm : s.size ≤ maxLen) (hk : bt s 0 % 16 = (k : Int)) (hf : (bt s 0 / 16 + (k : Int) != 15) = false) (hA : isB k ⟨#[1, 9, 13, 3, 11, 2, 10, 14, 5]⟩ = true) (hB : isB k ⟨#[2, 10, 14]⟩ = false) (hD : isB k ⟨#[3, 11]⟩ = true) (j : Nat) (hn : s.size = j + 2) (h1j : 1 ≤ j) (hl : j ≤ 65) (hs : ((s.extract j (j + 2)).toList == (strOfNums (two (more 0 (nums (s.extract 1 j))))).toList) = false) : RR s 0 0 0 0 ⟨#[]⟩ 5 := by
  intro w
  have hb := get_bt s
  have b0 := bt_nonneg s 0
  have b1 := bt_le s 0
  have hk2 : k < 16 := by omega
  unfold maxLen at hm
  have gb1 : (1 : Int) ≤ (j : Int) := by omega
  have gb2 : (j : Int) ≤ (s.size : Int) := by omega
  have hsl : ∀ w : World, (Instr.slice 9 (.string s) (some (.int .i64 1)) (some (.int .i64 (j : Int))) none).run Try.prog w = .ok (.string (s.extract 1 j)) w := by
    intro w
    have := run_slice_string (P := Try.prog) w 9 s .i64 .i64 1 (j : Int) Try.underlying9 (by omega) (by omega) (by omega)
    simpa using this
  have hsl2 : ∀ w : World, (Instr.slice 9 (.string s) (some (.int .i64 (j : Int))) none none).run Try.prog w = .ok (.string (s.extract j (j + 2))) w := by
    intro w
    have := run_slice_string_l (P := Try.prog) w 9 s Try.underlying9 .i64 (j : Int) (by omega) (by omega)
    rw [hn] at this
    simpa using this
  have hw1 : IntKind.i64.wrap ((j : Int) + 2 - 2) = j := by rw [IntKind.wrap_i64]; omega
  have hw2 : IntKind.i64.wrap (j : Int) = j := by rw [IntKind.wrap_i64]; omega
  have hX : (s.extract 1 j).size = j - 1 := by rw [ByteArray.size_extract]; omega
  have HM : Hid (∀ w : World, Calls Try.prog 19 #[.int .u16 0, .string (s.extract 1 j)] w fun e w' => e = .returned (.int .u16 (more 0 (nums (s.extract 1 j)) : Nat)) ∧ Below w.heap.size w w') := rmore_any 0 _ (by decide) (by omega)
  have H2 : Hid (∀ w : World, Calls Try.prog 18 #[.int .i64 (more 0 (nums (s.extract 1 j)) : Nat)] w fun e w' => e = .returned (.string (strOfNums (two (more 0 (nums (s.extract 1 j)))))) ∧ w' = wtwo (more 0 (nums (s.extract 1 j))) w) := twoBytes_any _ (two_lt _)
  have hmm := two_lt (nums (s.extract 1 j))
  have q6 : IntKind.i64.wrap ((more 0 (nums (s.extract 1 j)) : Nat) : Int) = (more 0 (nums (s.extract 1 j)) : Nat) := by rw [IntKind.wrap_i64]; omega
  generalize two (more 0 (nums (s.extract 1 j))) = S at *
  generalize more 0 (nums (s.extract 1 j)) = m at *
  have HG : Hid (∀ (s : ByteArray) (w : World), Calls Try.prog 16 #[.int .i64 (k : Int), .string s] w fun e w' => e = .returned (.bool (isB k s)) ∧ w' = w) := is_gen k
  go_enter Try.func14, Try.ntmps14
  go_wp2_with fail
  go_quiet ((go_at_call 16; exact Calls.quiet_of_same (HG.out _ _)))
  have HK : Hid (Keep w (wthree k w nq) k ⟨#[]⟩) := keep_three k w nq
  obtain ⟨u, hu⟩ : ∃ u, (((w.alloc (pcells 0 0 0 0 ⟨#[]⟩)).alloc (pcells 0 0 0 0 ⟨#[]⟩)).alloc (pcells k 0 0 0 ⟨#[]⟩)).drewN nq = u := ⟨_, rfl⟩
  have hu2 : wthree k w nq = u := hu
  replace HK : Hid (Keep w u k ⟨#[]⟩) := by rw [← hu2]; exact HK.out
  clear hu2
  rw [hu]
  clear hu
  obtain ⟨_, ⟨⟨x0, x1, x2, x3, x4, x5⟩, g0, g1, g2, g3, g4⟩, ⟨⟨y0, y1, y2, y3, y4, y5⟩, _, _, _, _, _⟩, ⟨⟨z0, z1, z2, z3, z4, z5⟩, q0, q1, q2, q3, q4⟩⟩ := HK.out
  go_wp2_with fail
  refine (HG.out _ _).mono ?_
  rintro r v ⟨rfl, rfl⟩
  go_wp2_with fail
  refine (HG.out _ _).mono ?_
  rintro r v ⟨rfl, rfl⟩
  go_wp2_with fail
  replace HK : Hid (Keep w (v.setCell ⟨w.heap.size + 1 + 1, 4, none⟩ (.string (s.extract 1 j))) k (s.extract 1 j)) := HK.out.data _
  obtain ⟨u, hu⟩ : ∃ u, v.setCell ⟨w.heap.size + 1 + 1, 4, none⟩ (.string (s.extract 1 j)) = u := ⟨_, rfl⟩
  replace HK : Hid (Keep w u k (s.extract 1 j)) := by rw [← hu]; exact HK.out
  rw [hu]
  clear hu
  clear x0 x1 x2 x3 x4 x5 g0 g1 g2 g3 g4 y0 y1 y2 y3 y4 y5 z0 z1 z2 z3 z4 z5 q0 q1 q2 q3 q4
  have k0 : u.drew.cell? ⟨w.heap.size + 1 + 1, 4, none⟩ = some (.string (s.extract 1 j)) := HK.out.drew.t2.pk.c4
  have K0 : Hid (Keep w u.drew k (s.extract 1 j)) := HK.out.drew
  go_region_held3 (fun w' => w'.cell? ⟨w.heap.size + 1 + 1, 4, none⟩ = some (.string (s.extract 1 j)) ∧ Hid (Keep w w' k (s.extract 1 j))) ((refine ⟨?_, ?_⟩ <;> assumption))
    (first
    | (go_at_call 19; refine (HM.out _).mono ?_; rintro r v1 ⟨rfl, hb1⟩; have K1 : Hid (Keep w v1 k (s.extract 1 j)) := K0.out.below hb1; have k1 : v1.cell? ⟨w.heap.size + 1 + 1, 4, none⟩ = some (.string (s.extract 1 j)) := K1.out.t2.pk.c4; clear hb1)
    | (go_at_call 18; rw [q6]; refine (H2.out _).mono ?_; rintro r v2 ⟨rfl, hv2⟩; have K2 : Hid (Keep w v2 k (s.extract 1 j)) := (by rw [hv2]; exact K1.out.below (balloc _ _)); have k2 : v2.cell? ⟨w.heap.size + 1 + 1, 4, none⟩ = some (.string (s.extract 1 j)) := K2.out.t2.pk.c4; clear hv2)
    | (go_at_call 18; refine (H2.out _).mono ?_; rintro r v2 ⟨rfl, hv2⟩; have K2 : Hid (Keep w v2 k (s.extract 1 j)) := (by rw [hv2]; exact K1.out.below (balloc _ _)); have k2 : v2.cell? ⟨w.heap.size + 1 + 1, 4, none⟩ = some (.string (s.extract 1 j)) := K2.out.t2.pk.c4; clear hv2))
  all_goals clear k0 k1 k2 K0 K1 HK
  all_goals obtain ⟨_, ⟨⟨x0, x1, x2, x3, x4, x5⟩, g0, g1, g2, g3, g4⟩, ⟨⟨y0, y1, y2, y3, y4, y5⟩, _, _, _, _, _⟩, ⟨⟨z0, z1, z2, z3, z4, z5⟩, q0, q1, q2, q3, q4⟩⟩ := K2.out
  all_goals go_wp2
  all_goals exact bodyPost_ret (v := .tuple #[pk 0 0 0 0 ⟨#[]⟩, .int .i64 5]) (by simp [results, Try.results14, go_sem, x1, x2, x3, x4, x5]) rfl ⟨rfl, bset5' K2.out.bel _ _ _ _ _⟩
set_option maxHeartbeats 1000000 in
theorem rr_dat (s : ByteArray) (k : Nat) (h : 0 < s.size) (hm : s.size ≤ maxLen) (hk : bt s 0 % 16 = (k : Int)) (hf : (bt s 0 / 16 + (k : Int) != 15) = false) (hA : isB k ⟨#[1, 9, 13, 3, 11, 2, 10, 14, 5]⟩ = true) (hB : isB k ⟨#[2, 10, 14]⟩ = false) (hD : isB k ⟨#[3, 11]⟩ = true) (j : Nat) (hn : s.size = j + 2) (h1j : 1 ≤ j) (hl : j ≤ 65) (hs : ((s.extract j (j + 2)).toList == (strOfNums (two (more 0 (nums (s.extract 1 j))))).toList) = true) : RR s k 0 0 0 (s.extract 1 j) 0 := by
  intro w
  have hb := get_bt s
  have b0 := bt_nonneg s 0
  have b1 := bt_le s 0
  have hk2 : k < 16 := by omega
  unfold maxLen at hm
  have gb1 : (1 : Int) ≤ (j : Int) := by omega
  have gb2 : (j : Int) ≤ (s.size : Int) := by omega
  have hsl : ∀ w : World, (Instr.slice 9 (.string s) (some (.int .i64 1)) (some (.int .i64 (j : Int))) none).run Try.prog w = .ok (.string (s.extract 1 j)) w := by
    intro w
    have := run_slice_string (P := Try.prog) w 9 s .i64 .i64 1 (j : Int) Try.underlying9 (by omega) (by omega) (by omega)
    simpa using this
  have hsl2 : ∀ w : World, (Instr.slice 9 (.string s) (some (.int .i64 (j : Int))) none none).run Try.prog w = .ok (.string (s.extract j (j + 2))) w := by
    intro w
    have := run_slice_string_l (P := Try.prog) w 9 s Try.underlying9 .i64 (j : Int) (by omega) (by omega)
    rw [hn] at this
    simpa using this
  have hw1 : IntKind.i64.wrap ((j : Int) + 2 - 2) = j := by rw [IntKind.wrap_i64]; omega
  have hw2 : IntKind.i64.wrap (j : Int) = j := by rw [IntKind.wrap_i64]; omega
  have hX : (s.extract 1 j).size = j - 1 := by rw [ByteArray.size_extract]; omega
  have HM : Hid (∀ w : World, Calls Try.prog 19 #[.int .u16 0, .string (s.extract 1 j)] w fun e w' => e = .returned (.int .u16 (more 0 (nums (s.extract 1 j)) : Nat)) ∧ Below w.heap.size w w') := rmore_any 0 _ (by decide) (by omega)
  have H2 : Hid (∀ w : World, Calls Try.prog 18 #[.int .i64 (more 0 (nums (s.extract 1 j)) : Nat)] w fun e w' => e = .returned (.string (strOfNums (two (more 0 (nums (s.extract 1 j)))))) ∧ w' = wtwo (more 0 (nums (s.extract 1 j))) w) := twoBytes_any _ (two_lt _)
  have hmm := two_lt (nums (s.extract 1 j))
  have q6 : IntKind.i64.wrap ((more 0 (nums (s.extract 1 j)) : Nat) : Int) = (more 0 (nums (s.extract 1 j)) : Nat) := by rw [IntKind.wrap_i64]; omega
  generalize two (more 0 (nums (s.extract 1 j))) = S at *
  generalize more 0 (nums (s.extract 1 j)) = m at *
  have HG : Hid (∀ (s : ByteArray) (w : World), Calls Try.prog 16 #[.int .i64 (k : Int), .string s] w fun e w' => e = .returned (.bool (isB k s)) ∧ w' = w) := is_gen k
  go_enter Try.func14, Try.ntmps14
  go_wp2_with fail
  go_quiet ((go_at_call 16; exact Calls.quiet_of_same (HG.out _ _)))
  have HK : Hid (Keep w (wthree k w nq) k ⟨#[]⟩) := keep_three k w nq
  obtain ⟨u, hu⟩ : ∃ u, (((w.alloc (pcells 0 0 0 0 ⟨#[]⟩)).alloc (pcells 0 0 0 0 ⟨#[]⟩)).alloc (pcells k 0 0 0 ⟨#[]⟩)).drewN nq = u := ⟨_, rfl⟩
  have hu2 : wthree k w nq = u := hu
  replace HK : Hid (Keep w u k ⟨#[]⟩) := by rw [← hu2]; exact HK.out
  clear hu2
  rw [hu]
  clear hu
  obtain ⟨_, ⟨⟨x0, x1, x2, x3, x4, x5⟩, g0, g1, g2, g3, g4⟩, ⟨⟨y0, y1, y2, y3, y4, y5⟩, _, _, _, _, _⟩, ⟨⟨z0, z1, z2, z3, z4, z5⟩, q0, q1, q2, q3, q4⟩⟩ := HK.out
  go_wp2_with fail
  refine (HG.out _ _).mono ?_
  rintro r v ⟨rfl, rfl⟩
  go_wp2_with fail
  refine (HG.out _ _).mono ?_
  rintro r v ⟨rfl, rfl⟩
  go_wp2_with fail
  replace HK : Hid (Keep w (v.setCell ⟨w.heap.size + 1 + 1, 4, none⟩ (.string (s.extract 1 j))) k (s.extract 1 j)) := HK.out.data _
  obtain ⟨u, hu⟩ : ∃ u, v.setCell ⟨w.heap.size + 1 + 1, 4, none⟩ (.string (s.extract 1 j)) = u := ⟨_, rfl⟩
  replace HK : Hid (Keep w u k (s.extract 1 j)) := by rw [← hu]; exact HK.out
  rw [hu]
  clear hu
  clear x0 x1 x2 x3 x4 x5 g0 g1 g2 g3 g4 y0 y1 y2 y3 y4 y5 z0 z1 z2 z3 z4 z5 q0 q1 q2 q3 q4
  have k0 : u.drew.cell? ⟨w.heap.size + 1 + 1, 4, none⟩ = some (.string (s.extract 1 j)) := HK.out.drew.t2.pk.c4
  have K0 : Hid (Keep w u.drew k (s.extract 1 j)) := HK.out.drew
  go_region_held3 (fun w' => w'.cell? ⟨w.heap.size + 1 + 1, 4, none⟩ = some (.string (s.extract 1 j)) ∧ Hid (Keep w w' k (s.extract 1 j))) ((refine ⟨?_, ?_⟩ <;> assumption))
    (first
    | (go_at_call 19; refine (HM.out _).mono ?_; rintro r v1 ⟨rfl, hb1⟩; have K1 : Hid (Keep w v1 k (s.extract 1 j)) := K0.out.below hb1; have k1 : v1.cell? ⟨w.heap.size + 1 + 1, 4, none⟩ = some (.string (s.extract 1 j)) := K1.out.t2.pk.c4; clear hb1)
    | (go_at_call 18; rw [q6]; refine (H2.out _).mono ?_; rintro r v2 ⟨rfl, hv2⟩; have K2 : Hid (Keep w v2 k (s.extract 1 j)) := (by rw [hv2]; exact K1.out.below (balloc _ _)); have k2 : v2.cell? ⟨w.heap.size + 1 + 1, 4, none⟩ = some (.string (s.extract 1 j)) := K2.out.t2.pk.c4; clear hv2)
    | (go_at_call 18; refine (H2.out _).mono ?_; rintro r v2 ⟨rfl, hv2⟩; have K2 : Hid (Keep w v2 k (s.extract 1 j)) := (by rw [hv2]; exact K1.out.below (balloc _ _)); have k2 : v2.cell? ⟨w.heap.size + 1 + 1, 4, none⟩ = some (.string (s.extract 1 j)) := K2.out.t2.pk.c4; clear hv2))
  all_goals clear k0 k1 k2 K0 K1 HK
  all_goals obtain ⟨_, ⟨⟨x0, x1, x2, x3, x4, x5⟩, g0, g1, g2, g3, g4⟩, ⟨⟨y0, y1, y2, y3, y4, y5⟩, _, _, _, _, _⟩, ⟨⟨z0, z1, z2, z3, z4, z5⟩, q0, q1, q2, q3, q4⟩⟩ := K2.out
  all_goals go_wp2
  all_goals exact bodyPost_ret (v := .tuple #[pk k 0 0 0 (s.extract 1 j), .int .i64 0]) (by simp [results, Try.results14, go_sem, x1, x2, x3, x4, x5]) rfl ⟨rfl, bset5' K2.out.bel _ _ _ _ _⟩
end Go.Proofs.Ytepifjimfcnggaa.pack
