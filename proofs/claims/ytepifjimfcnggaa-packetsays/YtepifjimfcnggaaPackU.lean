/- plugref's packet: what PacketText answers of a packet that can be sent. -/
import Derived.Test.YtepifjimfcnggaaPackR
namespace Go.Proofs.Ytepifjimfcnggaa.pack
open Go.RowKit Go.PlainAid Go.Proofs.Ytepifjimfcnggaa.lane Go.Proofs.Ytepifjimfcnggaa.crc
set_option linter.unusedVariables false

theorem ret_str {s t : ByteArray} (h : s = t) : Ending.returned (.string s) = .returned (.string t) := by rw [h]
theorem Pk.drew {w : World} {B : Nat} {k a e f : Int} {d : ByteArray} (h : Pk w B k a e f d) : Pk w.drew B k a e f d := h.below (Below.refl _ _).drew
theorem one_at (F : Int) (w : World) (o : Obj) :
    (convert 35 9 (.slice (some ⟨w.heap.size + 1, 0, none⟩) 1 1)).run Try.prog (wone F (w.alloc o)) = .ok (.string (strOfNums [F])) (wone F (w.alloc o)) := by
  have := one_conv F (w.alloc o)
  rwa [show (w.alloc o).heap.size = w.heap.size + 1 by simp] at this
set_option maxHeartbeats 1000000 in
theorem rtext_tok (k a e f n : Nat) (d : ByteArray) (F : Int) (hk : k < 16) (ha : a ≤ 127) (he : e ≤ 15) (hf : f ≤ 2047) (hn : n = a + 128 * e + f) (hn2 : n < 2048) (hF : fb k = F)
    (hT : isB k ⟨#[1, 9, 13]⟩ = true ∨ (isB k ⟨#[1, 9, 13]⟩ = false ∧ ((k : Int) == 5) = true)) (w : World) :
    Calls Try.prog 10 #[pk k a e f d] w fun r w' => r = .returned (.string (strOfNums (fb k :: sealw n))) ∧ Below w.heap.size w w' := by
  have HG : Hid (∀ (s : ByteArray) (w : World), Calls Try.prog 16 #[.int .i64 (k : Int), .string s] w fun e w' => e = .returned (.bool (isB k s)) ∧ w' = w) := is_gen k
  have H5 : Hid (∀ w : World, Calls Try.prog 17 #[.int .u16 (n : Int)] w fun e w' => e = .returned (.tuple #[.int .u8 (five n : Nat), .int .i64 0]) ∧ Below w.heap.size w w') := rfive_ok n hn2
  have h32 := five_lt n
  have H2 : Hid (∀ w : World, Calls Try.prog 18 #[.int .i64 ((n + 2048 * five n : Nat) : Int)] w fun e w' => e = .returned (.string (strOfNums (sealw n))) ∧ w' = wtwo (n + 2048 * five n) w) := twoBytes_any _ (by omega)
  have HX : Hid (strOfNums [fb k] ++ strOfNums (sealw n) = strOfNums (fb k :: sealw n)) := (str_append [fb k] (sealw n)).symm
  have hS : (strOfNums (sealw n)).size = 2 := str_size _
  have h1 : (strOfNums [fb k]).size = 1 := str_size _
  have eF : 16 * (15 - (k : Int)) + k = F := by rw [← hF]; unfold fb; omega
  have hFb := fb_byte (k := k) ⟨by omega, by omega⟩
  have eN : (a : Int) + 128 * (e : Int) + (f : Int) = (n : Int) := by omega
  have eM : (n : Int) + 2048 * ((five n : Nat) : Int) = ((n + 2048 * five n : Nat) : Int) := by omega
  rw [hF] at *
  generalize sealw n = S at *
  generalize n + 2048 * five n = m at *
  generalize five n = q at *
  clear hn
  rcases hT with hT | ⟨hT, hT5⟩
  all_goals go_enter Try.func10, Try.ntmps10
  all_goals have hcv := one_at F w (pcells k a e f d)
  all_goals go_wp2_with fail
  all_goals refine (H5.out _).mono ?_
  all_goals rintro r u ⟨rfl, hb⟩
  all_goals have HB : Hid (Below w.heap.size w u) := bsq (bsq (balloc w _) (balloc _ _)) hb
  all_goals obtain ⟨z0, c0, c1, c2, c3, c4⟩ := ((pk_alloc w k a e f d).below (balloc _ (.cells #[.int .u8 F] 5))).below hb
  all_goals clear hb hcv
  all_goals go_wp2_with fail
  all_goals refine (HG.out _ _).mono ?_
  all_goals rintro r v ⟨rfl, rfl⟩
  all_goals go_wp2_with fail
  all_goals refine (H2.out _).mono ?_
  all_goals rintro r v ⟨rfl, rfl⟩
  all_goals go_wp2
  all_goals go_ret
  all_goals exact ⟨ret_str HX.out, bsq HB.out (balloc _ _)⟩
set_option maxHeartbeats 1000000 in
theorem rtext_bare (k a e f : Nat) (d : ByteArray) (F : Int) (hk : k < 16) (ha : a = 0) (he : e = 0) (hf : f = 0) (hF : fb k = F) (h5 : ((k : Int) == 5) = false)
    (hT : isB k ⟨#[1, 9, 13]⟩ = false) (hD : isB k ⟨#[3, 11]⟩ = false) (w : World) :
    Calls Try.prog 10 #[pk k a e f d] w fun r w' => r = .returned (.string (strOfNums [fb k])) ∧ Below w.heap.size w w' := by
  subst ha he hf
  have HG : Hid (∀ (s : ByteArray) (w : World), Calls Try.prog 16 #[.int .i64 (k : Int), .string s] w fun e w' => e = .returned (.bool (isB k s)) ∧ w' = w) := is_gen k
  have H5 : Hid (∀ w : World, Calls Try.prog 17 #[.int .u16 (0 : Int)] w fun e w' => e = .returned (.tuple #[.int .u8 (five 0 : Nat), .int .i64 0]) ∧ Below w.heap.size w w') := rfive_ok 0 (by decide)
  have h32 := five_lt 0
  have h1 : (strOfNums [fb k]).size = 1 := str_size _
  have eF : 16 * (15 - (k : Int)) + k = F := by rw [← hF]; unfold fb; omega
  have hFb := fb_byte (k := k) ⟨by omega, by omega⟩
  rw [hF] at *
  generalize five 0 = q at *
  have hcv := one_at F w (pcells k 0 0 0 d)
  go_enter Try.func10, Try.ntmps10
  go_wp2_with fail
  refine (H5.out _).mono ?_
  rintro r u ⟨rfl, hb⟩
  have HB : Hid (Below w.heap.size w u) := bsq (bsq (balloc w _) (balloc _ _)) hb
  obtain ⟨z0, c0, c1, c2, c3, c4⟩ := ((pk_alloc w k 0 0 0 d).below (balloc _ (.cells #[.int .u8 F] 5))).below hb
  clear hb hcv
  go_wp2_with fail
  refine (HG.out _ _).mono ?_
  rintro r v ⟨rfl, rfl⟩
  go_wp2_with fail
  refine (HG.out _ _).mono ?_
  rintro r v ⟨rfl, rfl⟩
  go_wp2
  go_ret
  exact ⟨rfl, HB.out⟩
end Go.Proofs.Ytepifjimfcnggaa.pack
