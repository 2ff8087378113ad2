/- plugref's packet: what PacketText answers of data. -/
import Derived.Test.YtepifjimfcnggaaPackU
import Derived.Deep.RegionHeld3
namespace Go.Proofs.Ytepifjimfcnggaa.pack
open Go.RowKit Go.PlainAid Go.Proofs.Ytepifjimfcnggaa.lane Go.Proofs.Ytepifjimfcnggaa.crc
set_option linter.unusedVariables false

set_option maxHeartbeats 1000000 in
theorem rtext_dat (k a e f : Nat) (d : ByteArray) (F : Int) (hk : k < 16) (ha : a = 0) (he : e = 0) (hf : f = 0) (hF : fb k = F) (h5 : ((k : Int) == 5) = false)
    (hT : isB k ⟨#[1, 9, 13]⟩ = false) (hD : isB k ⟨#[3, 11]⟩ = true) (hd : d.size ≤ 64) (w : World) :
    Calls Try.prog 10 #[pk k a e f d] w fun r w' => r = .returned (.string (strOfNums (fb k :: (nums d ++ two (more 0 (nums d)))))) ∧ Below w.heap.size w w' := by
  subst ha he hf
  have HG : Hid (∀ (s : ByteArray) (w : World), Calls Try.prog 16 #[.int .i64 (k : Int), .string s] w fun e w' => e = .returned (.bool (isB k s)) ∧ w' = w) := is_gen k
  have H5 : Hid (∀ w : World, Calls Try.prog 17 #[.int .u16 (0 : Int)] w fun e w' => e = .returned (.tuple #[.int .u8 (five 0 : Nat), .int .i64 0]) ∧ Below w.heap.size w w') := rfive_ok 0 (by decide)
  have h32 := five_lt 0
  have h1 : (strOfNums [fb k]).size = 1 := str_size _
  have eF : 16 * (15 - (k : Int)) + k = F := by rw [← hF]; unfold fb; omega
  have hFb := fb_byte (k := k) ⟨by omega, by omega⟩
  have HM : Hid (∀ w : World, Calls Try.prog 19 #[.int .u16 0, .string d] w fun e w' => e = .returned (.int .u16 (more 0 (nums d) : Nat)) ∧ Below w.heap.size w w') := rmore_any 0 d (by decide) (by omega)
  have H2 : Hid (∀ w : World, Calls Try.prog 18 #[.int .i64 (more 0 (nums d) : Nat)] w fun e w' => e = .returned (.string (strOfNums (two (more 0 (nums d))))) ∧ w' = wtwo (more 0 (nums d)) w) := twoBytes_any _ (two_lt _)
  have HX : Hid (strOfNums [fb k] ++ d ++ strOfNums (two (more 0 (nums d))) = strOfNums (fb k :: (nums d ++ two (more 0 (nums d))))) := by
    show _ = _
    rw [show fb k :: (nums d ++ two (more 0 (nums d))) = [fb k] ++ nums d ++ two (more 0 (nums d)) by simp, str_append, str_append, str_nums]
  have hm := two_lt (nums d)
  have hS : (strOfNums (two (more 0 (nums d)))).size = 2 := str_size _
  have h2 : (strOfNums [fb k] ++ d).size = 1 + d.size := by rw [ByteArray.size_append, h1]
  rw [hF] at *
  generalize F :: (nums d ++ two (more 0 (nums d))) = R at *
  generalize two (more 0 (nums d)) = S at *
  generalize more 0 (nums d) = m at *
  generalize five 0 = q at *
  have hcv := one_at F w (pcells k 0 0 0 d)
  go_enter Try.func10, Try.ntmps10
  go_wp2_with fail
  refine (H5.out _).mono ?_
  rintro r u ⟨rfl, hb⟩
  have HB : Hid (Below w.heap.size w u) := bsq (bsq (balloc w _) (balloc _ _)) hb
  have hp := ((pk_alloc w k 0 0 0 d).below (balloc _ (.cells #[.int .u8 F] 5))).below hb
  have HP : Hid (Pk u.drew w.heap.size k 0 0 0 d) := hp.drew
  obtain ⟨z0, c0, c1, c2, c3, c4⟩ := hp
  clear hb hcv
  go_wp2_with fail
  refine (HG.out _ _).mono ?_
  rintro r v ⟨rfl, rfl⟩
  go_wp2_with fail
  refine (HG.out _ _).mono ?_
  rintro r v ⟨rfl, rfl⟩
  go_wp2_with fail
  have q1 : v.drew.cell? ⟨w.heap.size, 4, none⟩ = some (.string d) := c4
  have q2 : w.heap.size < v.drew.heap.size := z0
  have q3 : Hid (Below w.heap.size w v.drew) := HB.out.drew
  have q4 : ¬ 9223372036854775807 < 1 + d.size := by omega
  have q5 : ¬ 9223372036854775807 < 1 + d.size + 2 := by omega
  have q6 : IntKind.i64.wrap (m : Int) = m := by rw [IntKind.wrap_i64]; omega
  go_region_held3 (fun w' => w'.cell? ⟨w.heap.size, 4, none⟩ = some (.string d) ∧ w.heap.size < w'.heap.size ∧ Hid (Below w.heap.size w w')) ((refine ⟨?_, ?_, ?_⟩ <;> assumption))
    (first
    | (go_at_call 19; refine (HM.out _).mono ?_; rintro r v1 ⟨rfl, hb1⟩; have k1 : Hid (Below w.heap.size w v1) := bsq q3.out hb1; have k2 : w.heap.size < v1.heap.size := Nat.lt_of_lt_of_le q2 hb1.size; have k3 : v1.cell? ⟨w.heap.size, 4, none⟩ = some (.string d) := (hb1.cell (p := ⟨w.heap.size, 4, none⟩) q2).trans q1; clear hb1)
    | (go_at_call 18; rw [q6]; refine (H2.out _).mono ?_; rintro r v2 ⟨rfl, hv2⟩; have k4 : Hid (Below w.heap.size w v2) := (by rw [hv2]; exact bsq k1.out (balloc _ _)); have k5 : w.heap.size < v2.heap.size := (by rw [hv2]; exact Nat.lt_of_lt_of_le k2 (balloc v1 _).size); have k6 : v2.cell? ⟨w.heap.size, 4, none⟩ = some (.string d) := (by rw [hv2]; exact ((balloc v1 _).cell (p := ⟨w.heap.size, 4, none⟩) k2).trans k3); clear hv2)
    | (go_at_call 18; refine (H2.out _).mono ?_; rintro r v2 ⟨rfl, hv2⟩; have k4 : Hid (Below w.heap.size w v2) := (by rw [hv2]; exact bsq k1.out (balloc _ _)); have k5 : w.heap.size < v2.heap.size := (by rw [hv2]; exact Nat.lt_of_lt_of_le k2 (balloc v1 _).size); have k6 : v2.cell? ⟨w.heap.size, 4, none⟩ = some (.string d) := (by rw [hv2]; exact ((balloc v1 _).cell (p := ⟨w.heap.size, 4, none⟩) k2).trans k3); clear hv2))
  all_goals go_wp2
  all_goals go_ret
  all_goals exact ⟨ret_str HX.out, k4.out⟩
end Go.Proofs.Ytepifjimfcnggaa.pack
