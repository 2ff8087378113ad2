/- plugref's utf: runeAt, walked. -/
import Derived.Test.YtebaepkghbihkaaUtfT
namespace Go.Proofs.Ytebaepkghbihkaa.utf
set_option maxRecDepth 100000
open Go.RowKit Go.PlainAid Go.Lib Go.Proofs.Ytebaepkghbihkaa.lane

theorem ret_ii {a b c d : Int} (h1 : a = b) (h2 : c = d) : Ending.returned (.tuple #[.int .i64 a, .int .i64 c]) = .returned (.tuple #[.int .i64 b, .int .i64 d]) := by rw [h1, h2]
theorem ansR_bad {n : Nat} {least c : Int} (h : badR least c) : ansR n least (some c) = (65533, 1) := by simp only [ansR]; rw [if_pos h]
theorem ansR_good {n : Nat} {least c : Int} (h : ¬ badR least c) : ansR n least (some c) = (c, (n : Int) + 1) := by simp only [ansR]; rw [if_neg h]
theorem contF_yes {s : ByteArray} {p m : Nat} {b : Int} (h1 : p < s.size) (h2 : bt s p / 64 = 2) : contF s p (m + 1) b = contF s (p + 1) m (64 * b + bt s p % 64) := by simp [contF, h1, h2]
theorem contF_no {s : ByteArray} {p m : Nat} {b : Int} (h : ¬ (p < s.size ∧ bt s p / 64 = 2)) : contF s p (m + 1) b = none := by unfold contF; rw [if_neg h]

set_option maxHeartbeats 2000000 in
theorem runeAt_two (s : ByteArray) (p : Nat) (w : World) (hs : s.size ≤ 140737488351232) (hp : p < s.size) (h0 : 192 ≤ bt s p) (h1 : bt s p < 224) :
    Calls Try.prog 104 #[.string s, .int .i64 (p : Int)] w fun e w' => e = .returned (.tuple #[.int .i64 ((Utf8.decode s p).1 : Int), .int .i64 ((Utf8.decode s p).2 : Int)]) ∧ w = w' := by
  have hb := get_bt s
  obtain ⟨R, hR⟩ : ∃ R, contF s (p + 1) 1 (bt s p - 192) = R := ⟨_, rfl⟩
  have hans := ref_two s p h0 h1
  rw [hR] at hans
  generalize ((Utf8.decode s p).1 : Int) = A at *
  generalize ((Utf8.decode s p).2 : Int) = W at *
  have HA : Hid (ansR 1 128 R = (A, W)) := hans
  have HR0 : Hid (contF s (p + 1) 1 (bt s p - 192) = R) := hR
  clear hans hR
  go_enter Try.func104, Try.ntmps104
  go_wp2
  go_loop [6, 46] (fun b k => ∃ (j : Nat) (c : Int), j ≤ 1 ∧ k = .int .i64 (j : Int) ∧ b = .int .i64 c ∧ 0 ≤ c ∧ c ≤ 16777215 ∧ Hid (((j = 0 ∧ c ≤ 63) ∨ (j = 1 ∧ c ≤ 4095) ∨ (j = 2 ∧ c ≤ 262143) ∨ j = 3) ∧ contF s (p + 1 + j) (1 - j) c = R)) (fun _ k => 4 - (RowKit.intOf k).toNat)
  case atStart => exact ⟨0, bt s p - 192, by omega, rfl, rfl, by omega, by omega, by omega, HR0.out⟩
  case round =>
    obtain ⟨j, c, hj, rfl, rfl, hc0, hc1, HR⟩ := hrel
    clear HR0
    by_cases hlt : j < 1
    · obtain ⟨hjc, hcont⟩ := HR.out
      rw [show 1 - j = (1 - (j + 1)) + 1 by omega] at hcont
      obtain ⟨q, hq⟩ : ∃ q, p + 1 + j = q := ⟨_, rfl⟩
      have hqz : (p : Int) + 1 + (j : Int) = (q : Int) := by omega
      rw [hq] at hcont
      by_cases hin : q < s.size
      · have b0 := bt_nonneg s q
        have b1 := bt_le s q
        by_cases h2 : bt s q / 64 = 2
        · rw [contF_yes hin h2] at hcont
          have e2 : (bt s q / 64 != 2) = false := by simp [h2]
          have HN : Hid (((j + 1 = 0 ∧ 64 * c + bt s q % 64 ≤ 63) ∨ (j + 1 = 1 ∧ 64 * c + bt s q % 64 ≤ 4095) ∨ (j + 1 = 2 ∧ 64 * c + bt s q % 64 ≤ 262143) ∨ j + 1 = 3) ∧ contF s (p + 1 + (j + 1)) (1 - (j + 1)) (64 * c + bt s q % 64) = R) := by
            refine ⟨by omega, ?_⟩
            rw [show p + 1 + (j + 1) = q + 1 by omega]; exact hcont
          have hcb : 64 * c + bt s q % 64 ≤ 16777215 := by omega
          clear HR hjc hcont h2
          go_wp2
          go_round
          case rel => exact ⟨j + 1, 64 * c + bt s q % 64, by omega, by go_num, rfl, by omega, hcb, HN⟩
          case measure => simp [RowKit.intOf]; omega
        · rw [contF_no (fun h => h2 h.2)] at hcont
          have e2 : (bt s q / 64 != 2) = true := by simp [h2]
          have hA := HA.out
          rw [← hcont] at hA
          have HA2 : Hid ((65533, 1) = (A, W)) := hA
          clear HR hjc hcont h2 hA HA
          go_wp2
          go_ret2
          exact ⟨ret_ii (congrArg Prod.fst HA2.out) (congrArg Prod.snd HA2.out), rfl⟩
      · rw [contF_no (fun h => hin h.1)] at hcont
        have hA := HA.out
        rw [← hcont] at hA
        have HA2 : Hid ((65533, 1) = (A, W)) := hA
        clear HR hjc hcont hA HA
        go_wp2
        go_ret2
        exact ⟨ret_ii (congrArg Prod.fst HA2.out) (congrArg Prod.snd HA2.out), rfl⟩
    · obtain rfl : j = 1 := by omega
      have hcont := HR.out.2
      rw [Nat.sub_self, contF] at hcont
      have hA := HA.out
      rw [← hcont] at hA
      clear HR hcont HA hlt
      by_cases t1 : c < 128
      · rw [ansR_bad (.inl t1)] at hA
        have HA2 : Hid ((65533, 1) = (A, W)) := hA
        clear hA
        go_wp2
        go_ret2
        exact ⟨ret_ii (congrArg Prod.fst HA2.out) (congrArg Prod.snd HA2.out), rfl⟩
      · by_cases t2 : 1114111 < c
        · rw [ansR_bad (.inr (.inl t2))] at hA
          have HA2 : Hid ((65533, 1) = (A, W)) := hA
          clear hA
          go_wp2
          go_ret2
          exact ⟨ret_ii (congrArg Prod.fst HA2.out) (congrArg Prod.snd HA2.out), rfl⟩
        · by_cases t3 : 55296 ≤ c ∧ c < 57344
          · rw [ansR_bad (.inr (.inr t3))] at hA
            have HA2 : Hid ((65533, 1) = (A, W)) := hA
            obtain ⟨t4, t5⟩ := t3
            clear hA
            go_wp2
            go_ret2
            exact ⟨ret_ii (congrArg Prod.fst HA2.out) (congrArg Prod.snd HA2.out), rfl⟩
          · rw [ansR_good (by unfold badR; omega)] at hA
            have HA2 : Hid ((c, ((1 : Nat) : Int) + 1) = (A, W)) := hA
            clear hA
            by_cases t4 : 55296 ≤ c
            · have t5 : ¬ c < 57344 := by omega
              clear t3
              go_wp2
              go_ret2
              exact ⟨ret_ii (congrArg Prod.fst HA2.out) (congrArg Prod.snd HA2.out), rfl⟩
            · clear t3
              go_wp2
              go_ret2
              exact ⟨ret_ii (congrArg Prod.fst HA2.out) (congrArg Prod.snd HA2.out), rfl⟩

set_option maxHeartbeats 2000000 in
theorem runeAt_three (s : ByteArray) (p : Nat) (w : World) (hs : s.size ≤ 140737488351232) (hp : p < s.size) (h0 : 224 ≤ bt s p) (h1 : bt s p < 240) :
    Calls Try.prog 104 #[.string s, .int .i64 (p : Int)] w fun e w' => e = .returned (.tuple #[.int .i64 ((Utf8.decode s p).1 : Int), .int .i64 ((Utf8.decode s p).2 : Int)]) ∧ w = w' := by
  have hb := get_bt s
  obtain ⟨R, hR⟩ : ∃ R, contF s (p + 1) 2 (bt s p - 224) = R := ⟨_, rfl⟩
  have hans := ref_three s p h0 h1
  rw [hR] at hans
  generalize ((Utf8.decode s p).1 : Int) = A at *
  generalize ((Utf8.decode s p).2 : Int) = W at *
  have HA : Hid (ansR 2 2048 R = (A, W)) := hans
  have HR0 : Hid (contF s (p + 1) 2 (bt s p - 224) = R) := hR
  clear hans hR
  go_enter Try.func104, Try.ntmps104
  go_wp2
  go_loop [6, 46] (fun b k => ∃ (j : Nat) (c : Int), j ≤ 2 ∧ k = .int .i64 (j : Int) ∧ b = .int .i64 c ∧ 0 ≤ c ∧ c ≤ 16777215 ∧ Hid (((j = 0 ∧ c ≤ 63) ∨ (j = 1 ∧ c ≤ 4095) ∨ (j = 2 ∧ c ≤ 262143) ∨ j = 3) ∧ contF s (p + 1 + j) (2 - j) c = R)) (fun _ k => 4 - (RowKit.intOf k).toNat)
  case atStart => exact ⟨0, bt s p - 224, by omega, rfl, rfl, by omega, by omega, by omega, HR0.out⟩
  case round =>
    obtain ⟨j, c, hj, rfl, rfl, hc0, hc1, HR⟩ := hrel
    clear HR0
    by_cases hlt : j < 2
    · obtain ⟨hjc, hcont⟩ := HR.out
      rw [show 2 - j = (2 - (j + 1)) + 1 by omega] at hcont
      obtain ⟨q, hq⟩ : ∃ q, p + 1 + j = q := ⟨_, rfl⟩
      have hqz : (p : Int) + 1 + (j : Int) = (q : Int) := by omega
      rw [hq] at hcont
      by_cases hin : q < s.size
      · have b0 := bt_nonneg s q
        have b1 := bt_le s q
        by_cases h2 : bt s q / 64 = 2
        · rw [contF_yes hin h2] at hcont
          have e2 : (bt s q / 64 != 2) = false := by simp [h2]
          have HN : Hid (((j + 1 = 0 ∧ 64 * c + bt s q % 64 ≤ 63) ∨ (j + 1 = 1 ∧ 64 * c + bt s q % 64 ≤ 4095) ∨ (j + 1 = 2 ∧ 64 * c + bt s q % 64 ≤ 262143) ∨ j + 1 = 3) ∧ contF s (p + 1 + (j + 1)) (2 - (j + 1)) (64 * c + bt s q % 64) = R) := by
            refine ⟨by omega, ?_⟩
            rw [show p + 1 + (j + 1) = q + 1 by omega]; exact hcont
          have hcb : 64 * c + bt s q % 64 ≤ 16777215 := by omega
          clear HR hjc hcont h2
          go_wp2
          go_round
          case rel => exact ⟨j + 1, 64 * c + bt s q % 64, by omega, by go_num, rfl, by omega, hcb, HN⟩
          case measure => simp [RowKit.intOf]; omega
        · rw [contF_no (fun h => h2 h.2)] at hcont
          have e2 : (bt s q / 64 != 2) = true := by simp [h2]
          have hA := HA.out
          rw [← hcont] at hA
          have HA2 : Hid ((65533, 1) = (A, W)) := hA
          clear HR hjc hcont h2 hA HA
          go_wp2
          go_ret2
          exact ⟨ret_ii (congrArg Prod.fst HA2.out) (congrArg Prod.snd HA2.out), rfl⟩
      · rw [contF_no (fun h => hin h.1)] at hcont
        have hA := HA.out
        rw [← hcont] at hA
        have HA2 : Hid ((65533, 1) = (A, W)) := hA
        clear HR hjc hcont hA HA
        go_wp2
        go_ret2
        exact ⟨ret_ii (congrArg Prod.fst HA2.out) (congrArg Prod.snd HA2.out), rfl⟩
    · obtain rfl : j = 2 := by omega
      have hcont := HR.out.2
      rw [Nat.sub_self, contF] at hcont
      have hA := HA.out
      rw [← hcont] at hA
      clear HR hcont HA hlt
      by_cases t1 : c < 2048
      · rw [ansR_bad (.inl t1)] at hA
        have HA2 : Hid ((65533, 1) = (A, W)) := hA
        clear hA
        go_wp2
        go_ret2
        exact ⟨ret_ii (congrArg Prod.fst HA2.out) (congrArg Prod.snd HA2.out), rfl⟩
      · by_cases t2 : 1114111 < c
        · rw [ansR_bad (.inr (.inl t2))] at hA
          have HA2 : Hid ((65533, 1) = (A, W)) := hA
          clear hA
          go_wp2
          go_ret2
          exact ⟨ret_ii (congrArg Prod.fst HA2.out) (congrArg Prod.snd HA2.out), rfl⟩
        · by_cases t3 : 55296 ≤ c ∧ c < 57344
          · rw [ansR_bad (.inr (.inr t3))] at hA
            have HA2 : Hid ((65533, 1) = (A, W)) := hA
            obtain ⟨t4, t5⟩ := t3
            clear hA
            go_wp2
            go_ret2
            exact ⟨ret_ii (congrArg Prod.fst HA2.out) (congrArg Prod.snd HA2.out), rfl⟩
          · rw [ansR_good (by unfold badR; omega)] at hA
            have HA2 : Hid ((c, ((2 : Nat) : Int) + 1) = (A, W)) := hA
            clear hA
            by_cases t4 : 55296 ≤ c
            · have t5 : ¬ c < 57344 := by omega
              clear t3
              go_wp2
              go_ret2
              exact ⟨ret_ii (congrArg Prod.fst HA2.out) (congrArg Prod.snd HA2.out), rfl⟩
            · clear t3
              go_wp2
              go_ret2
              exact ⟨ret_ii (congrArg Prod.fst HA2.out) (congrArg Prod.snd HA2.out), rfl⟩

set_option maxHeartbeats 2000000 in
theorem runeAt_four (s : ByteArray) (p : Nat) (w : World) (hs : s.size ≤ 140737488351232) (hp : p < s.size) (h0 : 240 ≤ bt s p) (h1 : bt s p < 248) :
    Calls Try.prog 104 #[.string s, .int .i64 (p : Int)] w fun e w' => e = .returned (.tuple #[.int .i64 ((Utf8.decode s p).1 : Int), .int .i64 ((Utf8.decode s p).2 : Int)]) ∧ w = w' := by
  have hb := get_bt s
  obtain ⟨R, hR⟩ : ∃ R, contF s (p + 1) 3 (bt s p - 240) = R := ⟨_, rfl⟩
  have hans := ref_four s p h0 h1
  rw [hR] at hans
  generalize ((Utf8.decode s p).1 : Int) = A at *
  generalize ((Utf8.decode s p).2 : Int) = W at *
  have HA : Hid (ansR 3 65536 R = (A, W)) := hans
  have HR0 : Hid (contF s (p + 1) 3 (bt s p - 240) = R) := hR
  clear hans hR
  go_enter Try.func104, Try.ntmps104
  go_wp2
  go_loop [6, 46] (fun b k => ∃ (j : Nat) (c : Int), j ≤ 3 ∧ k = .int .i64 (j : Int) ∧ b = .int .i64 c ∧ 0 ≤ c ∧ c ≤ 16777215 ∧ Hid (((j = 0 ∧ c ≤ 63) ∨ (j = 1 ∧ c ≤ 4095) ∨ (j = 2 ∧ c ≤ 262143) ∨ j = 3) ∧ contF s (p + 1 + j) (3 - j) c = R)) (fun _ k => 4 - (RowKit.intOf k).toNat)
  case atStart => exact ⟨0, bt s p - 240, by omega, rfl, rfl, by omega, by omega, by omega, HR0.out⟩
  case round =>
    obtain ⟨j, c, hj, rfl, rfl, hc0, hc1, HR⟩ := hrel
    clear HR0
    by_cases hlt : j < 3
    · obtain ⟨hjc, hcont⟩ := HR.out
      rw [show 3 - j = (3 - (j + 1)) + 1 by omega] at hcont
      obtain ⟨q, hq⟩ : ∃ q, p + 1 + j = q := ⟨_, rfl⟩
      have hqz : (p : Int) + 1 + (j : Int) = (q : Int) := by omega
      rw [hq] at hcont
      by_cases hin : q < s.size
      · have b0 := bt_nonneg s q
        have b1 := bt_le s q
        by_cases h2 : bt s q / 64 = 2
        · rw [contF_yes hin h2] at hcont
          have e2 : (bt s q / 64 != 2) = false := by simp [h2]
          have HN : Hid (((j + 1 = 0 ∧ 64 * c + bt s q % 64 ≤ 63) ∨ (j + 1 = 1 ∧ 64 * c + bt s q % 64 ≤ 4095) ∨ (j + 1 = 2 ∧ 64 * c + bt s q % 64 ≤ 262143) ∨ j + 1 = 3) ∧ contF s (p + 1 + (j + 1)) (3 - (j + 1)) (64 * c + bt s q % 64) = R) := by
            refine ⟨by omega, ?_⟩
            rw [show p + 1 + (j + 1) = q + 1 by omega]; exact hcont
          have hcb : 64 * c + bt s q % 64 ≤ 16777215 := by omega
          clear HR hjc hcont h2
          go_wp2
          go_round
          case rel => exact ⟨j + 1, 64 * c + bt s q % 64, by omega, by go_num, rfl, by omega, hcb, HN⟩
          case measure => simp [RowKit.intOf]; omega
        · rw [contF_no (fun h => h2 h.2)] at hcont
          have e2 : (bt s q / 64 != 2) = true := by simp [h2]
          have hA := HA.out
          rw [← hcont] at hA
          have HA2 : Hid ((65533, 1) = (A, W)) := hA
          clear HR hjc hcont h2 hA HA
          go_wp2
          go_ret2
          exact ⟨ret_ii (congrArg Prod.fst HA2.out) (congrArg Prod.snd HA2.out), rfl⟩
      · rw [contF_no (fun h => hin h.1)] at hcont
        have hA := HA.out
        rw [← hcont] at hA
        have HA2 : Hid ((65533, 1) = (A, W)) := hA
        clear HR hjc hcont hA HA
        go_wp2
        go_ret2
        exact ⟨ret_ii (congrArg Prod.fst HA2.out) (congrArg Prod.snd HA2.out), rfl⟩
    · obtain rfl : j = 3 := by omega
      have hcont := HR.out.2
      rw [Nat.sub_self, contF] at hcont
      have hA := HA.out
      rw [← hcont] at hA
      clear HR hcont HA hlt
      by_cases t1 : c < 65536
      · rw [ansR_bad (.inl t1)] at hA
        have HA2 : Hid ((65533, 1) = (A, W)) := hA
        clear hA
        go_wp2
        go_ret2
        exact ⟨ret_ii (congrArg Prod.fst HA2.out) (congrArg Prod.snd HA2.out), rfl⟩
      · by_cases t2 : 1114111 < c
        · rw [ansR_bad (.inr (.inl t2))] at hA
          have HA2 : Hid ((65533, 1) = (A, W)) := hA
          clear hA
          go_wp2
          go_ret2
          exact ⟨ret_ii (congrArg Prod.fst HA2.out) (congrArg Prod.snd HA2.out), rfl⟩
        · by_cases t3 : 55296 ≤ c ∧ c < 57344
          · rw [ansR_bad (.inr (.inr t3))] at hA
            have HA2 : Hid ((65533, 1) = (A, W)) := hA
            obtain ⟨t4, t5⟩ := t3
            clear hA
            go_wp2
            go_ret2
            exact ⟨ret_ii (congrArg Prod.fst HA2.out) (congrArg Prod.snd HA2.out), rfl⟩
          · rw [ansR_good (by unfold badR; omega)] at hA
            have HA2 : Hid ((c, ((3 : Nat) : Int) + 1) = (A, W)) := hA
            clear hA
            by_cases t4 : 55296 ≤ c
            · have t5 : ¬ c < 57344 := by omega
              clear t3
              go_wp2
              go_ret2
              exact ⟨ret_ii (congrArg Prod.fst HA2.out) (congrArg Prod.snd HA2.out), rfl⟩
            · clear t3
              go_wp2
              go_ret2
              exact ⟨ret_ii (congrArg Prod.fst HA2.out) (congrArg Prod.snd HA2.out), rfl⟩

set_option maxHeartbeats 1000000 in
theorem runeAt_any (s : ByteArray) (p : Nat) (w : World) (hs : s.size ≤ 140737488351232) (hp : p < s.size) :
    Calls Try.prog 104 #[.string s, .int .i64 (p : Int)] w fun e w' => e = .returned (.tuple #[.int .i64 ((Utf8.decode s p).1 : Int), .int .i64 ((Utf8.decode s p).2 : Int)]) ∧ w = w' := by
  have b0 := bt_nonneg s p
  have b1 := bt_le s p
  by_cases k1 : bt s p < 128
  · rw [ref_one s p k1]
    have hb := get_bt s
    have ez : (((bt s p).toNat : Nat) : Int) = bt s p := by omega
    simp only [ez]
    clear ez
    go_enter Try.func104, Try.ntmps104
    go_wp2
    go_ret2
    exact ⟨rfl, rfl⟩
  · by_cases k2 : 192 ≤ bt s p ∧ bt s p < 224
    · exact runeAt_two s p w hs hp k2.1 k2.2
    · by_cases k3 : 224 ≤ bt s p ∧ bt s p < 240
      · exact runeAt_three s p w hs hp k3.1 k3.2
      · by_cases k4 : 240 ≤ bt s p ∧ bt s p < 248
        · exact runeAt_four s p w hs hp k4.1 k4.2
        · rw [ref_none s p (by omega) (by omega)]
          have hb := get_bt s
          by_cases k5 : bt s p < 192
          · have k6 : ¬ 192 ≤ bt s p := by omega
            have k7 : ¬ 224 ≤ bt s p := by omega
            have k8 : ¬ 240 ≤ bt s p := by omega
            clear k2 k3 k4
            go_enter Try.func104, Try.ntmps104
            go_wp2
            go_ret2
            exact ⟨rfl, rfl⟩
          · have k6 : 248 ≤ bt s p := by omega
            clear k2 k3 k4
            go_enter Try.func104, Try.ntmps104
            go_wp2
            go_ret2
            exact ⟨rfl, rfl⟩
end Go.Proofs.Ytebaepkghbihkaa.utf
