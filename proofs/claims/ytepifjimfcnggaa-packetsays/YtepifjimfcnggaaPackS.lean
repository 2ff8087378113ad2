/- plugref's packet: what Packet answers. -/
import Derived.Test.YtepifjimfcnggaaPackR
namespace Go.Proofs.Ytepifjimfcnggaa.pack
open Go.RowKit Go.PlainAid Go.Proofs.Ytepifjimfcnggaa.lane Go.Proofs.Ytepifjimfcnggaa.crc
set_option linter.unusedVariables false

set_option maxHeartbeats 1000000 in
theorem ref_none (k a e f : Int) (d : ByteArray) (hT : isB k ⟨#[1, 9, 13]⟩ = false) (hD : isB k ⟨#[3, 11]⟩ = false) (hB : isB k ⟨#[2, 10, 14]⟩ = false) (h5 : (k != 5) = true) (w : World) :
    Calls Try.prog 9 #[pk k a e f d] w fun r w' => r = .returned (.int .i64 1) ∧ Below w.heap.size w w' := by
  have HG : Hid (∀ (s : ByteArray) (w : World), Calls Try.prog 16 #[.int .i64 k, .string s] w fun e w' => e = .returned (.bool (isB k s)) ∧ w' = w) := is_gen k
  go_enter Try.func9, Try.ntmps9
  go_wp2_with fail
  go_quiet ((go_at_call 16; exact Calls.quiet_of_same (HG.out _ _)))
  have HBE : Hid (Below w.heap.size w ((w.alloc (pcells k a e f d)).drewN nq)) := below_drewN (balloc w _) _
  obtain ⟨z0, c0, c1, c2, c3, c4⟩ := (pk_alloc w k a e f d).below (below_drewN (Below.refl _ _) nq)
  obtain ⟨u, hu⟩ : ∃ u : World, (w.alloc (pcells k a e f d)).drewN nq = u := ⟨_, rfl⟩
  rw [hu] at z0 c0 c1 c2 c3 c4
  replace HBE : Hid (Below w.heap.size w u) := by rw [← hu]; exact HBE.out
  rw [hu]
  clear hu
  go_wp2_with fail
  refine (HG.out _ _).mono ?_
  rintro r u ⟨rfl, rfl⟩
  go_wp2_with fail
  all_goals go_ret
  all_goals exact ⟨rfl, HBE.out⟩
set_option maxHeartbeats 1000000 in
theorem ref_tok_alo (k a e f : Int) (d : ByteArray) (hT : isB k ⟨#[1, 9, 13]⟩ = true) (hD : isB k ⟨#[3, 11]⟩ = false) (h5 : (k != 5) = true) (h1 : a < 0) (w : World) :
    Calls Try.prog 9 #[pk k a e f d] w fun r w' => r = .returned (.int .i64 1) ∧ Below w.heap.size w w' := by
  have HG : Hid (∀ (s : ByteArray) (w : World), Calls Try.prog 16 #[.int .i64 k, .string s] w fun e w' => e = .returned (.bool (isB k s)) ∧ w' = w) := is_gen k
  go_enter Try.func9, Try.ntmps9
  go_wp2_with fail
  go_quiet ((go_at_call 16; exact Calls.quiet_of_same (HG.out _ _)))
  have HBE : Hid (Below w.heap.size w ((w.alloc (pcells k a e f d)).drewN nq)) := below_drewN (balloc w _) _
  obtain ⟨z0, c0, c1, c2, c3, c4⟩ := (pk_alloc w k a e f d).below (below_drewN (Below.refl _ _) nq)
  obtain ⟨u, hu⟩ : ∃ u : World, (w.alloc (pcells k a e f d)).drewN nq = u := ⟨_, rfl⟩
  rw [hu] at z0 c0 c1 c2 c3 c4
  replace HBE : Hid (Below w.heap.size w u) := by rw [← hu]; exact HBE.out
  rw [hu]
  clear hu
  go_wp2_with fail
  all_goals go_ret
  all_goals exact ⟨rfl, HBE.out⟩
set_option maxHeartbeats 1000000 in
theorem ref_tok_ahi (k a e f : Int) (d : ByteArray) (hT : isB k ⟨#[1, 9, 13]⟩ = true) (hD : isB k ⟨#[3, 11]⟩ = false) (h5 : (k != 5) = true) (h1 : 0 ≤ a) (h2 : 128 ≤ a) (w : World) :
    Calls Try.prog 9 #[pk k a e f d] w fun r w' => r = .returned (.int .i64 1) ∧ Below w.heap.size w w' := by
  have HG : Hid (∀ (s : ByteArray) (w : World), Calls Try.prog 16 #[.int .i64 k, .string s] w fun e w' => e = .returned (.bool (isB k s)) ∧ w' = w) := is_gen k
  go_enter Try.func9, Try.ntmps9
  go_wp2_with fail
  go_quiet ((go_at_call 16; exact Calls.quiet_of_same (HG.out _ _)))
  have HBE : Hid (Below w.heap.size w ((w.alloc (pcells k a e f d)).drewN nq)) := below_drewN (balloc w _) _
  obtain ⟨z0, c0, c1, c2, c3, c4⟩ := (pk_alloc w k a e f d).below (below_drewN (Below.refl _ _) nq)
  obtain ⟨u, hu⟩ : ∃ u : World, (w.alloc (pcells k a e f d)).drewN nq = u := ⟨_, rfl⟩
  rw [hu] at z0 c0 c1 c2 c3 c4
  replace HBE : Hid (Below w.heap.size w u) := by rw [← hu]; exact HBE.out
  rw [hu]
  clear hu
  go_wp2_with fail
  all_goals go_ret
  all_goals exact ⟨rfl, HBE.out⟩
set_option maxHeartbeats 1000000 in
theorem ref_tok_elo (k a e f : Int) (d : ByteArray) (hT : isB k ⟨#[1, 9, 13]⟩ = true) (hD : isB k ⟨#[3, 11]⟩ = false) (h5 : (k != 5) = true) (h1 : 0 ≤ a) (h2 : a < 128) (h3 : e < 0) (w : World) :
    Calls Try.prog 9 #[pk k a e f d] w fun r w' => r = .returned (.int .i64 1) ∧ Below w.heap.size w w' := by
  have HG : Hid (∀ (s : ByteArray) (w : World), Calls Try.prog 16 #[.int .i64 k, .string s] w fun e w' => e = .returned (.bool (isB k s)) ∧ w' = w) := is_gen k
  go_enter Try.func9, Try.ntmps9
  go_wp2_with fail
  go_quiet ((go_at_call 16; exact Calls.quiet_of_same (HG.out _ _)))
  have HBE : Hid (Below w.heap.size w ((w.alloc (pcells k a e f d)).drewN nq)) := below_drewN (balloc w _) _
  obtain ⟨z0, c0, c1, c2, c3, c4⟩ := (pk_alloc w k a e f d).below (below_drewN (Below.refl _ _) nq)
  obtain ⟨u, hu⟩ : ∃ u : World, (w.alloc (pcells k a e f d)).drewN nq = u := ⟨_, rfl⟩
  rw [hu] at z0 c0 c1 c2 c3 c4
  replace HBE : Hid (Below w.heap.size w u) := by rw [← hu]; exact HBE.out
  rw [hu]
  clear hu
  go_wp2_with fail
  all_goals go_ret
  all_goals exact ⟨rfl, HBE.out⟩
set_option maxHeartbeats 1000000 in
theorem ref_tok_ehi (k a e f : Int) (d : ByteArray) (hT : isB k ⟨#[1, 9, 13]⟩ = true) (hD : isB k ⟨#[3, 11]⟩ = false) (h5 : (k != 5) = true) (h1 : 0 ≤ a) (h2 : a < 128) (h3 : 0 ≤ e) (h4 : 16 ≤ e) (w : World) :
    Calls Try.prog 9 #[pk k a e f d] w fun r w' => r = .returned (.int .i64 1) ∧ Below w.heap.size w w' := by
  have HG : Hid (∀ (s : ByteArray) (w : World), Calls Try.prog 16 #[.int .i64 k, .string s] w fun e w' => e = .returned (.bool (isB k s)) ∧ w' = w) := is_gen k
  go_enter Try.func9, Try.ntmps9
  go_wp2_with fail
  go_quiet ((go_at_call 16; exact Calls.quiet_of_same (HG.out _ _)))
  have HBE : Hid (Below w.heap.size w ((w.alloc (pcells k a e f d)).drewN nq)) := below_drewN (balloc w _) _
  obtain ⟨z0, c0, c1, c2, c3, c4⟩ := (pk_alloc w k a e f d).below (below_drewN (Below.refl _ _) nq)
  obtain ⟨u, hu⟩ : ∃ u : World, (w.alloc (pcells k a e f d)).drewN nq = u := ⟨_, rfl⟩
  rw [hu] at z0 c0 c1 c2 c3 c4
  replace HBE : Hid (Below w.heap.size w u) := by rw [← hu]; exact HBE.out
  rw [hu]
  clear hu
  go_wp2_with fail
  all_goals go_ret
  all_goals exact ⟨rfl, HBE.out⟩
set_option maxHeartbeats 1000000 in
theorem ref_tok_f (k a e f : Int) (d : ByteArray) (hT : isB k ⟨#[1, 9, 13]⟩ = true) (hD : isB k ⟨#[3, 11]⟩ = false) (h5 : (k != 5) = true) (h1 : 0 ≤ a) (h2 : a < 128) (h3 : 0 ≤ e) (h4 : e < 16) (h6 : (f != 0) = true) (w : World) :
    Calls Try.prog 9 #[pk k a e f d] w fun r w' => r = .returned (.int .i64 1) ∧ Below w.heap.size w w' := by
  have HG : Hid (∀ (s : ByteArray) (w : World), Calls Try.prog 16 #[.int .i64 k, .string s] w fun e w' => e = .returned (.bool (isB k s)) ∧ w' = w) := is_gen k
  go_enter Try.func9, Try.ntmps9
  go_wp2_with fail
  go_quiet ((go_at_call 16; exact Calls.quiet_of_same (HG.out _ _)))
  have HBE : Hid (Below w.heap.size w ((w.alloc (pcells k a e f d)).drewN nq)) := below_drewN (balloc w _) _
  obtain ⟨z0, c0, c1, c2, c3, c4⟩ := (pk_alloc w k a e f d).below (below_drewN (Below.refl _ _) nq)
  obtain ⟨u, hu⟩ : ∃ u : World, (w.alloc (pcells k a e f d)).drewN nq = u := ⟨_, rfl⟩
  rw [hu] at z0 c0 c1 c2 c3 c4
  replace HBE : Hid (Below w.heap.size w u) := by rw [← hu]; exact HBE.out
  rw [hu]
  clear hu
  go_wp2_with fail
  all_goals go_ret
  all_goals exact ⟨rfl, HBE.out⟩
set_option maxHeartbeats 1000000 in
theorem ref_tok_d (k a e f : Int) (d : ByteArray) (hT : isB k ⟨#[1, 9, 13]⟩ = true) (hD : isB k ⟨#[3, 11]⟩ = false) (h5 : (k != 5) = true) (h1 : 0 ≤ a) (h2 : a < 128) (h3 : 0 ≤ e) (h4 : e < 16) (h6 : f = 0) (h7 : d.toList.isEmpty = false) (w : World) :
    Calls Try.prog 9 #[pk k a e f d] w fun r w' => r = .returned (.int .i64 1) ∧ Below w.heap.size w w' := by
  subst h6
  have HG : Hid (∀ (s : ByteArray) (w : World), Calls Try.prog 16 #[.int .i64 k, .string s] w fun e w' => e = .returned (.bool (isB k s)) ∧ w' = w) := is_gen k
  go_enter Try.func9, Try.ntmps9
  go_wp2_with fail
  go_quiet ((go_at_call 16; exact Calls.quiet_of_same (HG.out _ _)))
  have HBE : Hid (Below w.heap.size w ((w.alloc (pcells k a e 0 d)).drewN nq)) := below_drewN (balloc w _) _
  obtain ⟨z0, c0, c1, c2, c3, c4⟩ := (pk_alloc w k a e 0 d).below (below_drewN (Below.refl _ _) nq)
  obtain ⟨u, hu⟩ : ∃ u : World, (w.alloc (pcells k a e 0 d)).drewN nq = u := ⟨_, rfl⟩
  rw [hu] at z0 c0 c1 c2 c3 c4
  replace HBE : Hid (Below w.heap.size w u) := by rw [← hu]; exact HBE.out
  rw [hu]
  clear hu
  go_wp2_with fail
  all_goals go_ret
  all_goals exact ⟨rfl, HBE.out⟩
set_option maxHeartbeats 1000000 in
theorem ref_tok_ok (k a e f : Int) (d : ByteArray) (hT : isB k ⟨#[1, 9, 13]⟩ = true) (hD : isB k ⟨#[3, 11]⟩ = false) (h5 : (k != 5) = true) (h1 : 0 ≤ a) (h2 : a < 128) (h3 : 0 ≤ e) (h4 : e < 16) (h6 : f = 0) (h7 : d.toList.isEmpty = true) (h8 : d.size = 0) (w : World) :
    Calls Try.prog 9 #[pk k a e f d] w fun r w' => r = .returned (.int .i64 0) ∧ Below w.heap.size w w' := by
  subst h6
  have HG : Hid (∀ (s : ByteArray) (w : World), Calls Try.prog 16 #[.int .i64 k, .string s] w fun e w' => e = .returned (.bool (isB k s)) ∧ w' = w) := is_gen k
  go_enter Try.func9, Try.ntmps9
  go_wp2_with fail
  go_quiet ((go_at_call 16; exact Calls.quiet_of_same (HG.out _ _)))
  have HBE : Hid (Below w.heap.size w ((w.alloc (pcells k a e 0 d)).drewN nq)) := below_drewN (balloc w _) _
  obtain ⟨z0, c0, c1, c2, c3, c4⟩ := (pk_alloc w k a e 0 d).below (below_drewN (Below.refl _ _) nq)
  obtain ⟨u, hu⟩ : ∃ u : World, (w.alloc (pcells k a e 0 d)).drewN nq = u := ⟨_, rfl⟩
  rw [hu] at z0 c0 c1 c2 c3 c4
  replace HBE : Hid (Below w.heap.size w u) := by rw [← hu]; exact HBE.out
  rw [hu]
  clear hu
  go_wp2_with fail
  all_goals go_ret
  all_goals exact ⟨rfl, HBE.out⟩
set_option maxHeartbeats 1000000 in
theorem ref_frm_a (k a e f : Int) (d : ByteArray) (hT : isB k ⟨#[1, 9, 13]⟩ = false) (hD : isB k ⟨#[3, 11]⟩ = false) (hB : isB k ⟨#[2, 10, 14]⟩ = false) (h5 : (k != 5) = false) (h1 : (a != 0) = true) (w : World) :
    Calls Try.prog 9 #[pk k a e f d] w fun r w' => r = .returned (.int .i64 1) ∧ Below w.heap.size w w' := by
  have HG : Hid (∀ (s : ByteArray) (w : World), Calls Try.prog 16 #[.int .i64 k, .string s] w fun e w' => e = .returned (.bool (isB k s)) ∧ w' = w) := is_gen k
  go_enter Try.func9, Try.ntmps9
  go_wp2_with fail
  go_quiet ((go_at_call 16; exact Calls.quiet_of_same (HG.out _ _)))
  have HBE : Hid (Below w.heap.size w ((w.alloc (pcells k a e f d)).drewN nq)) := below_drewN (balloc w _) _
  obtain ⟨z0, c0, c1, c2, c3, c4⟩ := (pk_alloc w k a e f d).below (below_drewN (Below.refl _ _) nq)
  obtain ⟨u, hu⟩ : ∃ u : World, (w.alloc (pcells k a e f d)).drewN nq = u := ⟨_, rfl⟩
  rw [hu] at z0 c0 c1 c2 c3 c4
  replace HBE : Hid (Below w.heap.size w u) := by rw [← hu]; exact HBE.out
  rw [hu]
  clear hu
  go_wp2_with fail
  refine (HG.out _ _).mono ?_
  rintro r u ⟨rfl, rfl⟩
  go_wp2_with fail
  all_goals go_ret
  all_goals exact ⟨rfl, HBE.out⟩
set_option maxHeartbeats 1000000 in
theorem ref_frm_e (k a e f : Int) (d : ByteArray) (hT : isB k ⟨#[1, 9, 13]⟩ = false) (hD : isB k ⟨#[3, 11]⟩ = false) (hB : isB k ⟨#[2, 10, 14]⟩ = false) (h5 : (k != 5) = false) (h1 : a = 0) (h2 : (e != 0) = true) (w : World) :
    Calls Try.prog 9 #[pk k a e f d] w fun r w' => r = .returned (.int .i64 1) ∧ Below w.heap.size w w' := by
  subst h1
  have HG : Hid (∀ (s : ByteArray) (w : World), Calls Try.prog 16 #[.int .i64 k, .string s] w fun e w' => e = .returned (.bool (isB k s)) ∧ w' = w) := is_gen k
  go_enter Try.func9, Try.ntmps9
  go_wp2_with fail
  go_quiet ((go_at_call 16; exact Calls.quiet_of_same (HG.out _ _)))
  have HBE : Hid (Below w.heap.size w ((w.alloc (pcells k 0 e f d)).drewN nq)) := below_drewN (balloc w _) _
  obtain ⟨z0, c0, c1, c2, c3, c4⟩ := (pk_alloc w k 0 e f d).below (below_drewN (Below.refl _ _) nq)
  obtain ⟨u, hu⟩ : ∃ u : World, (w.alloc (pcells k 0 e f d)).drewN nq = u := ⟨_, rfl⟩
  rw [hu] at z0 c0 c1 c2 c3 c4
  replace HBE : Hid (Below w.heap.size w u) := by rw [← hu]; exact HBE.out
  rw [hu]
  clear hu
  go_wp2_with fail
  refine (HG.out _ _).mono ?_
  rintro r u ⟨rfl, rfl⟩
  go_wp2_with fail
  all_goals go_ret
  all_goals exact ⟨rfl, HBE.out⟩
set_option maxHeartbeats 1000000 in
theorem ref_frm_lo (k a e f : Int) (d : ByteArray) (hT : isB k ⟨#[1, 9, 13]⟩ = false) (hD : isB k ⟨#[3, 11]⟩ = false) (hB : isB k ⟨#[2, 10, 14]⟩ = false) (h5 : (k != 5) = false) (h1 : a = 0) (h2 : e = 0) (h3 : f < 0) (w : World) :
    Calls Try.prog 9 #[pk k a e f d] w fun r w' => r = .returned (.int .i64 1) ∧ Below w.heap.size w w' := by
  subst h1 h2
  have HG : Hid (∀ (s : ByteArray) (w : World), Calls Try.prog 16 #[.int .i64 k, .string s] w fun e w' => e = .returned (.bool (isB k s)) ∧ w' = w) := is_gen k
  go_enter Try.func9, Try.ntmps9
  go_wp2_with fail
  go_quiet ((go_at_call 16; exact Calls.quiet_of_same (HG.out _ _)))
  have HBE : Hid (Below w.heap.size w ((w.alloc (pcells k 0 0 f d)).drewN nq)) := below_drewN (balloc w _) _
  obtain ⟨z0, c0, c1, c2, c3, c4⟩ := (pk_alloc w k 0 0 f d).below (below_drewN (Below.refl _ _) nq)
  obtain ⟨u, hu⟩ : ∃ u : World, (w.alloc (pcells k 0 0 f d)).drewN nq = u := ⟨_, rfl⟩
  rw [hu] at z0 c0 c1 c2 c3 c4
  replace HBE : Hid (Below w.heap.size w u) := by rw [← hu]; exact HBE.out
  rw [hu]
  clear hu
  go_wp2_with fail
  refine (HG.out _ _).mono ?_
  rintro r u ⟨rfl, rfl⟩
  go_wp2_with fail
  all_goals go_ret
  all_goals exact ⟨rfl, HBE.out⟩
set_option maxHeartbeats 1000000 in
theorem ref_frm_hi (k a e f : Int) (d : ByteArray) (hT : isB k ⟨#[1, 9, 13]⟩ = false) (hD : isB k ⟨#[3, 11]⟩ = false) (hB : isB k ⟨#[2, 10, 14]⟩ = false) (h5 : (k != 5) = false) (h1 : a = 0) (h2 : e = 0) (h3 : 0 ≤ f) (h4 : 2048 ≤ f) (w : World) :
    Calls Try.prog 9 #[pk k a e f d] w fun r w' => r = .returned (.int .i64 1) ∧ Below w.heap.size w w' := by
  subst h1 h2
  have HG : Hid (∀ (s : ByteArray) (w : World), Calls Try.prog 16 #[.int .i64 k, .string s] w fun e w' => e = .returned (.bool (isB k s)) ∧ w' = w) := is_gen k
  go_enter Try.func9, Try.ntmps9
  go_wp2_with fail
  go_quiet ((go_at_call 16; exact Calls.quiet_of_same (HG.out _ _)))
  have HBE : Hid (Below w.heap.size w ((w.alloc (pcells k 0 0 f d)).drewN nq)) := below_drewN (balloc w _) _
  obtain ⟨z0, c0, c1, c2, c3, c4⟩ := (pk_alloc w k 0 0 f d).below (below_drewN (Below.refl _ _) nq)
  obtain ⟨u, hu⟩ : ∃ u : World, (w.alloc (pcells k 0 0 f d)).drewN nq = u := ⟨_, rfl⟩
  rw [hu] at z0 c0 c1 c2 c3 c4
  replace HBE : Hid (Below w.heap.size w u) := by rw [← hu]; exact HBE.out
  rw [hu]
  clear hu
  go_wp2_with fail
  refine (HG.out _ _).mono ?_
  rintro r u ⟨rfl, rfl⟩
  go_wp2_with fail
  all_goals go_ret
  all_goals exact ⟨rfl, HBE.out⟩
set_option maxHeartbeats 1000000 in
theorem ref_frm_d (k a e f : Int) (d : ByteArray) (hT : isB k ⟨#[1, 9, 13]⟩ = false) (hD : isB k ⟨#[3, 11]⟩ = false) (hB : isB k ⟨#[2, 10, 14]⟩ = false) (h5 : (k != 5) = false) (h1 : a = 0) (h2 : e = 0) (h3 : 0 ≤ f) (h4 : f < 2048) (h7 : d.toList.isEmpty = false) (w : World) :
    Calls Try.prog 9 #[pk k a e f d] w fun r w' => r = .returned (.int .i64 1) ∧ Below w.heap.size w w' := by
  subst h1 h2
  have HG : Hid (∀ (s : ByteArray) (w : World), Calls Try.prog 16 #[.int .i64 k, .string s] w fun e w' => e = .returned (.bool (isB k s)) ∧ w' = w) := is_gen k
  go_enter Try.func9, Try.ntmps9
  go_wp2_with fail
  go_quiet ((go_at_call 16; exact Calls.quiet_of_same (HG.out _ _)))
  have HBE : Hid (Below w.heap.size w ((w.alloc (pcells k 0 0 f d)).drewN nq)) := below_drewN (balloc w _) _
  obtain ⟨z0, c0, c1, c2, c3, c4⟩ := (pk_alloc w k 0 0 f d).below (below_drewN (Below.refl _ _) nq)
  obtain ⟨u, hu⟩ : ∃ u : World, (w.alloc (pcells k 0 0 f d)).drewN nq = u := ⟨_, rfl⟩
  rw [hu] at z0 c0 c1 c2 c3 c4
  replace HBE : Hid (Below w.heap.size w u) := by rw [← hu]; exact HBE.out
  rw [hu]
  clear hu
  go_wp2_with fail
  refine (HG.out _ _).mono ?_
  rintro r u ⟨rfl, rfl⟩
  go_wp2_with fail
  all_goals go_ret
  all_goals exact ⟨rfl, HBE.out⟩
set_option maxHeartbeats 1000000 in
theorem ref_frm_ok (k a e f : Int) (d : ByteArray) (hT : isB k ⟨#[1, 9, 13]⟩ = false) (hD : isB k ⟨#[3, 11]⟩ = false) (hB : isB k ⟨#[2, 10, 14]⟩ = false) (h5 : (k != 5) = false) (h1 : a = 0) (h2 : e = 0) (h3 : 0 ≤ f) (h4 : f < 2048) (h7 : d.toList.isEmpty = true) (h8 : d.size = 0) (w : World) :
    Calls Try.prog 9 #[pk k a e f d] w fun r w' => r = .returned (.int .i64 0) ∧ Below w.heap.size w w' := by
  subst h1 h2
  have HG : Hid (∀ (s : ByteArray) (w : World), Calls Try.prog 16 #[.int .i64 k, .string s] w fun e w' => e = .returned (.bool (isB k s)) ∧ w' = w) := is_gen k
  go_enter Try.func9, Try.ntmps9
  go_wp2_with fail
  go_quiet ((go_at_call 16; exact Calls.quiet_of_same (HG.out _ _)))
  have HBE : Hid (Below w.heap.size w ((w.alloc (pcells k 0 0 f d)).drewN nq)) := below_drewN (balloc w _) _
  obtain ⟨z0, c0, c1, c2, c3, c4⟩ := (pk_alloc w k 0 0 f d).below (below_drewN (Below.refl _ _) nq)
  obtain ⟨u, hu⟩ : ∃ u : World, (w.alloc (pcells k 0 0 f d)).drewN nq = u := ⟨_, rfl⟩
  rw [hu] at z0 c0 c1 c2 c3 c4
  replace HBE : Hid (Below w.heap.size w u) := by rw [← hu]; exact HBE.out
  rw [hu]
  clear hu
  go_wp2_with fail
  refine (HG.out _ _).mono ?_
  rintro r u ⟨rfl, rfl⟩
  go_wp2_with fail
  all_goals go_ret
  all_goals exact ⟨rfl, HBE.out⟩
set_option maxHeartbeats 1000000 in
theorem ref_bare_a (k a e f : Int) (d : ByteArray) (hT : isB k ⟨#[1, 9, 13]⟩ = false) (hD : isB k ⟨#[3, 11]⟩ = false) (hB : isB k ⟨#[2, 10, 14]⟩ = true) (h5 : (k != 5) = true) (h1 : (a != 0) = true) (w : World) :
    Calls Try.prog 9 #[pk k a e f d] w fun r w' => r = .returned (.int .i64 1) ∧ Below w.heap.size w w' := by
  have HG : Hid (∀ (s : ByteArray) (w : World), Calls Try.prog 16 #[.int .i64 k, .string s] w fun e w' => e = .returned (.bool (isB k s)) ∧ w' = w) := is_gen k
  go_enter Try.func9, Try.ntmps9
  go_wp2_with fail
  go_quiet ((go_at_call 16; exact Calls.quiet_of_same (HG.out _ _)))
  have HBE : Hid (Below w.heap.size w ((w.alloc (pcells k a e f d)).drewN nq)) := below_drewN (balloc w _) _
  obtain ⟨z0, c0, c1, c2, c3, c4⟩ := (pk_alloc w k a e f d).below (below_drewN (Below.refl _ _) nq)
  obtain ⟨u, hu⟩ : ∃ u : World, (w.alloc (pcells k a e f d)).drewN nq = u := ⟨_, rfl⟩
  rw [hu] at z0 c0 c1 c2 c3 c4
  replace HBE : Hid (Below w.heap.size w u) := by rw [← hu]; exact HBE.out
  rw [hu]
  clear hu
  go_wp2_with fail
  refine (HG.out _ _).mono ?_
  rintro r u ⟨rfl, rfl⟩
  go_wp2_with fail
  all_goals go_ret
  all_goals exact ⟨rfl, HBE.out⟩
set_option maxHeartbeats 1000000 in
theorem ref_bare_e (k a e f : Int) (d : ByteArray) (hT : isB k ⟨#[1, 9, 13]⟩ = false) (hD : isB k ⟨#[3, 11]⟩ = false) (hB : isB k ⟨#[2, 10, 14]⟩ = true) (h5 : (k != 5) = true) (h1 : a = 0) (h2 : (e != 0) = true) (w : World) :
    Calls Try.prog 9 #[pk k a e f d] w fun r w' => r = .returned (.int .i64 1) ∧ Below w.heap.size w w' := by
  subst h1
  have HG : Hid (∀ (s : ByteArray) (w : World), Calls Try.prog 16 #[.int .i64 k, .string s] w fun e w' => e = .returned (.bool (isB k s)) ∧ w' = w) := is_gen k
  go_enter Try.func9, Try.ntmps9
  go_wp2_with fail
  go_quiet ((go_at_call 16; exact Calls.quiet_of_same (HG.out _ _)))
  have HBE : Hid (Below w.heap.size w ((w.alloc (pcells k 0 e f d)).drewN nq)) := below_drewN (balloc w _) _
  obtain ⟨z0, c0, c1, c2, c3, c4⟩ := (pk_alloc w k 0 e f d).below (below_drewN (Below.refl _ _) nq)
  obtain ⟨u, hu⟩ : ∃ u : World, (w.alloc (pcells k 0 e f d)).drewN nq = u := ⟨_, rfl⟩
  rw [hu] at z0 c0 c1 c2 c3 c4
  replace HBE : Hid (Below w.heap.size w u) := by rw [← hu]; exact HBE.out
  rw [hu]
  clear hu
  go_wp2_with fail
  refine (HG.out _ _).mono ?_
  rintro r u ⟨rfl, rfl⟩
  go_wp2_with fail
  all_goals go_ret
  all_goals exact ⟨rfl, HBE.out⟩
set_option maxHeartbeats 1000000 in
theorem ref_bare_f (k a e f : Int) (d : ByteArray) (hT : isB k ⟨#[1, 9, 13]⟩ = false) (hD : isB k ⟨#[3, 11]⟩ = false) (hB : isB k ⟨#[2, 10, 14]⟩ = true) (h5 : (k != 5) = true) (h1 : a = 0) (h2 : e = 0) (h3 : (f != 0) = true) (w : World) :
    Calls Try.prog 9 #[pk k a e f d] w fun r w' => r = .returned (.int .i64 1) ∧ Below w.heap.size w w' := by
  subst h1 h2
  have HG : Hid (∀ (s : ByteArray) (w : World), Calls Try.prog 16 #[.int .i64 k, .string s] w fun e w' => e = .returned (.bool (isB k s)) ∧ w' = w) := is_gen k
  go_enter Try.func9, Try.ntmps9
  go_wp2_with fail
  go_quiet ((go_at_call 16; exact Calls.quiet_of_same (HG.out _ _)))
  have HBE : Hid (Below w.heap.size w ((w.alloc (pcells k 0 0 f d)).drewN nq)) := below_drewN (balloc w _) _
  obtain ⟨z0, c0, c1, c2, c3, c4⟩ := (pk_alloc w k 0 0 f d).below (below_drewN (Below.refl _ _) nq)
  obtain ⟨u, hu⟩ : ∃ u : World, (w.alloc (pcells k 0 0 f d)).drewN nq = u := ⟨_, rfl⟩
  rw [hu] at z0 c0 c1 c2 c3 c4
  replace HBE : Hid (Below w.heap.size w u) := by rw [← hu]; exact HBE.out
  rw [hu]
  clear hu
  go_wp2_with fail
  refine (HG.out _ _).mono ?_
  rintro r u ⟨rfl, rfl⟩
  go_wp2_with fail
  all_goals go_ret
  all_goals exact ⟨rfl, HBE.out⟩
set_option maxHeartbeats 1000000 in
theorem ref_bare_d (k a e f : Int) (d : ByteArray) (hT : isB k ⟨#[1, 9, 13]⟩ = false) (hD : isB k ⟨#[3, 11]⟩ = false) (hB : isB k ⟨#[2, 10, 14]⟩ = true) (h5 : (k != 5) = true) (h1 : a = 0) (h2 : e = 0) (h3 : f = 0) (h7 : d.toList.isEmpty = false) (w : World) :
    Calls Try.prog 9 #[pk k a e f d] w fun r w' => r = .returned (.int .i64 1) ∧ Below w.heap.size w w' := by
  subst h1 h2 h3
  have HG : Hid (∀ (s : ByteArray) (w : World), Calls Try.prog 16 #[.int .i64 k, .string s] w fun e w' => e = .returned (.bool (isB k s)) ∧ w' = w) := is_gen k
  go_enter Try.func9, Try.ntmps9
  go_wp2_with fail
  go_quiet ((go_at_call 16; exact Calls.quiet_of_same (HG.out _ _)))
  have HBE : Hid (Below w.heap.size w ((w.alloc (pcells k 0 0 0 d)).drewN nq)) := below_drewN (balloc w _) _
  obtain ⟨z0, c0, c1, c2, c3, c4⟩ := (pk_alloc w k 0 0 0 d).below (below_drewN (Below.refl _ _) nq)
  obtain ⟨u, hu⟩ : ∃ u : World, (w.alloc (pcells k 0 0 0 d)).drewN nq = u := ⟨_, rfl⟩
  rw [hu] at z0 c0 c1 c2 c3 c4
  replace HBE : Hid (Below w.heap.size w u) := by rw [← hu]; exact HBE.out
  rw [hu]
  clear hu
  go_wp2_with fail
  refine (HG.out _ _).mono ?_
  rintro r u ⟨rfl, rfl⟩
  go_wp2_with fail
  all_goals go_ret
  all_goals exact ⟨rfl, HBE.out⟩
set_option maxHeartbeats 1000000 in
theorem ref_bare_ok (k a e f : Int) (d : ByteArray) (hT : isB k ⟨#[1, 9, 13]⟩ = false) (hD : isB k ⟨#[3, 11]⟩ = false) (hB : isB k ⟨#[2, 10, 14]⟩ = true) (h5 : (k != 5) = true) (h1 : a = 0) (h2 : e = 0) (h3 : f = 0) (h7 : d.toList.isEmpty = true) (h8 : d.size = 0) (w : World) :
    Calls Try.prog 9 #[pk k a e f d] w fun r w' => r = .returned (.int .i64 0) ∧ Below w.heap.size w w' := by
  subst h1 h2 h3
  have HG : Hid (∀ (s : ByteArray) (w : World), Calls Try.prog 16 #[.int .i64 k, .string s] w fun e w' => e = .returned (.bool (isB k s)) ∧ w' = w) := is_gen k
  go_enter Try.func9, Try.ntmps9
  go_wp2_with fail
  go_quiet ((go_at_call 16; exact Calls.quiet_of_same (HG.out _ _)))
  have HBE : Hid (Below w.heap.size w ((w.alloc (pcells k 0 0 0 d)).drewN nq)) := below_drewN (balloc w _) _
  obtain ⟨z0, c0, c1, c2, c3, c4⟩ := (pk_alloc w k 0 0 0 d).below (below_drewN (Below.refl _ _) nq)
  obtain ⟨u, hu⟩ : ∃ u : World, (w.alloc (pcells k 0 0 0 d)).drewN nq = u := ⟨_, rfl⟩
  rw [hu] at z0 c0 c1 c2 c3 c4
  replace HBE : Hid (Below w.heap.size w u) := by rw [← hu]; exact HBE.out
  rw [hu]
  clear hu
  go_wp2_with fail
  refine (HG.out _ _).mono ?_
  rintro r u ⟨rfl, rfl⟩
  go_wp2_with fail
  all_goals go_ret
  all_goals exact ⟨rfl, HBE.out⟩
set_option maxHeartbeats 1000000 in
theorem ref_dat_a (k a e f : Int) (d : ByteArray) (hT : isB k ⟨#[1, 9, 13]⟩ = false) (hD : isB k ⟨#[3, 11]⟩ = true) (h5 : (k != 5) = true) (h1 : (a != 0) = true) (w : World) :
    Calls Try.prog 9 #[pk k a e f d] w fun r w' => r = .returned (.int .i64 1) ∧ Below w.heap.size w w' := by
  have HG : Hid (∀ (s : ByteArray) (w : World), Calls Try.prog 16 #[.int .i64 k, .string s] w fun e w' => e = .returned (.bool (isB k s)) ∧ w' = w) := is_gen k
  go_enter Try.func9, Try.ntmps9
  go_wp2_with fail
  go_quiet ((go_at_call 16; exact Calls.quiet_of_same (HG.out _ _)))
  have HBE : Hid (Below w.heap.size w ((w.alloc (pcells k a e f d)).drewN nq)) := below_drewN (balloc w _) _
  obtain ⟨z0, c0, c1, c2, c3, c4⟩ := (pk_alloc w k a e f d).below (below_drewN (Below.refl _ _) nq)
  obtain ⟨u, hu⟩ : ∃ u : World, (w.alloc (pcells k a e f d)).drewN nq = u := ⟨_, rfl⟩
  rw [hu] at z0 c0 c1 c2 c3 c4
  replace HBE : Hid (Below w.heap.size w u) := by rw [← hu]; exact HBE.out
  rw [hu]
  clear hu
  go_wp2_with fail
  all_goals go_ret
  all_goals exact ⟨rfl, HBE.out⟩
set_option maxHeartbeats 1000000 in
theorem ref_dat_e (k a e f : Int) (d : ByteArray) (hT : isB k ⟨#[1, 9, 13]⟩ = false) (hD : isB k ⟨#[3, 11]⟩ = true) (h5 : (k != 5) = true) (h1 : a = 0) (h2 : (e != 0) = true) (w : World) :
    Calls Try.prog 9 #[pk k a e f d] w fun r w' => r = .returned (.int .i64 1) ∧ Below w.heap.size w w' := by
  subst h1
  have HG : Hid (∀ (s : ByteArray) (w : World), Calls Try.prog 16 #[.int .i64 k, .string s] w fun e w' => e = .returned (.bool (isB k s)) ∧ w' = w) := is_gen k
  go_enter Try.func9, Try.ntmps9
  go_wp2_with fail
  go_quiet ((go_at_call 16; exact Calls.quiet_of_same (HG.out _ _)))
  have HBE : Hid (Below w.heap.size w ((w.alloc (pcells k 0 e f d)).drewN nq)) := below_drewN (balloc w _) _
  obtain ⟨z0, c0, c1, c2, c3, c4⟩ := (pk_alloc w k 0 e f d).below (below_drewN (Below.refl _ _) nq)
  obtain ⟨u, hu⟩ : ∃ u : World, (w.alloc (pcells k 0 e f d)).drewN nq = u := ⟨_, rfl⟩
  rw [hu] at z0 c0 c1 c2 c3 c4
  replace HBE : Hid (Below w.heap.size w u) := by rw [← hu]; exact HBE.out
  rw [hu]
  clear hu
  go_wp2_with fail
  all_goals go_ret
  all_goals exact ⟨rfl, HBE.out⟩
set_option maxHeartbeats 1000000 in
theorem ref_dat_f (k a e f : Int) (d : ByteArray) (hT : isB k ⟨#[1, 9, 13]⟩ = false) (hD : isB k ⟨#[3, 11]⟩ = true) (h5 : (k != 5) = true) (h1 : a = 0) (h2 : e = 0) (h3 : (f != 0) = true) (w : World) :
    Calls Try.prog 9 #[pk k a e f d] w fun r w' => r = .returned (.int .i64 1) ∧ Below w.heap.size w w' := by
  subst h1 h2
  have HG : Hid (∀ (s : ByteArray) (w : World), Calls Try.prog 16 #[.int .i64 k, .string s] w fun e w' => e = .returned (.bool (isB k s)) ∧ w' = w) := is_gen k
  go_enter Try.func9, Try.ntmps9
  go_wp2_with fail
  go_quiet ((go_at_call 16; exact Calls.quiet_of_same (HG.out _ _)))
  have HBE : Hid (Below w.heap.size w ((w.alloc (pcells k 0 0 f d)).drewN nq)) := below_drewN (balloc w _) _
  obtain ⟨z0, c0, c1, c2, c3, c4⟩ := (pk_alloc w k 0 0 f d).below (below_drewN (Below.refl _ _) nq)
  obtain ⟨u, hu⟩ : ∃ u : World, (w.alloc (pcells k 0 0 f d)).drewN nq = u := ⟨_, rfl⟩
  rw [hu] at z0 c0 c1 c2 c3 c4
  replace HBE : Hid (Below w.heap.size w u) := by rw [← hu]; exact HBE.out
  rw [hu]
  clear hu
  go_wp2_with fail
  all_goals go_ret
  all_goals exact ⟨rfl, HBE.out⟩
set_option maxHeartbeats 1000000 in
theorem ref_dat_long (k a e f : Int) (d : ByteArray) (hT : isB k ⟨#[1, 9, 13]⟩ = false) (hD : isB k ⟨#[3, 11]⟩ = true) (h5 : (k != 5) = true) (h1 : a = 0) (h2 : e = 0) (h3 : f = 0) (h8 : 64 < d.size) (w : World) :
    Calls Try.prog 9 #[pk k a e f d] w fun r w' => r = .returned (.int .i64 2) ∧ Below w.heap.size w w' := by
  subst h1 h2 h3
  have HG : Hid (∀ (s : ByteArray) (w : World), Calls Try.prog 16 #[.int .i64 k, .string s] w fun e w' => e = .returned (.bool (isB k s)) ∧ w' = w) := is_gen k
  go_enter Try.func9, Try.ntmps9
  go_wp2_with fail
  go_quiet ((go_at_call 16; exact Calls.quiet_of_same (HG.out _ _)))
  have HBE : Hid (Below w.heap.size w ((w.alloc (pcells k 0 0 0 d)).drewN nq)) := below_drewN (balloc w _) _
  obtain ⟨z0, c0, c1, c2, c3, c4⟩ := (pk_alloc w k 0 0 0 d).below (below_drewN (Below.refl _ _) nq)
  obtain ⟨u, hu⟩ : ∃ u : World, (w.alloc (pcells k 0 0 0 d)).drewN nq = u := ⟨_, rfl⟩
  rw [hu] at z0 c0 c1 c2 c3 c4
  replace HBE : Hid (Below w.heap.size w u) := by rw [← hu]; exact HBE.out
  rw [hu]
  clear hu
  go_wp2_with fail
  all_goals go_ret
  all_goals exact ⟨rfl, HBE.out⟩
set_option maxHeartbeats 1000000 in
theorem ref_dat_ok (k a e f : Int) (d : ByteArray) (hT : isB k ⟨#[1, 9, 13]⟩ = false) (hD : isB k ⟨#[3, 11]⟩ = true) (h5 : (k != 5) = true) (h1 : a = 0) (h2 : e = 0) (h3 : f = 0) (h8 : d.size ≤ 64) (w : World) :
    Calls Try.prog 9 #[pk k a e f d] w fun r w' => r = .returned (.int .i64 0) ∧ Below w.heap.size w w' := by
  subst h1 h2 h3
  have HG : Hid (∀ (s : ByteArray) (w : World), Calls Try.prog 16 #[.int .i64 k, .string s] w fun e w' => e = .returned (.bool (isB k s)) ∧ w' = w) := is_gen k
  go_enter Try.func9, Try.ntmps9
  go_wp2_with fail
  go_quiet ((go_at_call 16; exact Calls.quiet_of_same (HG.out _ _)))
  have HBE : Hid (Below w.heap.size w ((w.alloc (pcells k 0 0 0 d)).drewN nq)) := below_drewN (balloc w _) _
  obtain ⟨z0, c0, c1, c2, c3, c4⟩ := (pk_alloc w k 0 0 0 d).below (below_drewN (Below.refl _ _) nq)
  obtain ⟨u, hu⟩ : ∃ u : World, (w.alloc (pcells k 0 0 0 d)).drewN nq = u := ⟨_, rfl⟩
  rw [hu] at z0 c0 c1 c2 c3 c4
  replace HBE : Hid (Below w.heap.size w u) := by rw [← hu]; exact HBE.out
  rw [hu]
  clear hu
  go_wp2_with fail
  all_goals go_ret
  all_goals exact ⟨rfl, HBE.out⟩
theorem emp_iff (d : ByteArray) : d.toList.isEmpty = true ↔ d.size = 0 := by
  constructor
  · intro h
    by_cases h0 : d.size = 0
    · exact h0
    · rw [str_full d (by omega)] at h; cases h
  · exact str_none d
/-- plugref's Packet answers what Check answers -/
theorem rpacket_any (k a e f : Int) (d : ByteArray) (c : Int) (hc : code k a e f (nums d) c) (w : World) :
    Calls Try.prog 9 #[pk k a e f d] w fun r w' => r = .returned (.int .i64 c) ∧ Below w.heap.size w w' := by
  have hl := nums_length d
  have hT := isB_tok k
  have hD := isB_dat k
  have hB := isB_bare k
  have hE : nums d = [] ↔ d.size = 0 := by rw [← hl]; exact List.length_eq_zero_iff.symm
  unfold code good plc wth at hc
  rw [hl, hE] at hc
  obtain ⟨n, hn⟩ : ∃ n, d.size = n := ⟨_, rfl⟩
  rw [hn] at hc
  by_cases h0 : shp k = 0
  · obtain rfl : c = 1 := by simp [h0] at hc; exact hc
    refine ref_none k a e f d (by rw [hT]; simp [h0]) (by rw [hD]; simp [h0]) (by rw [hB]; simp [h0]) ?_ w
    have : k ≠ 5 := by rintro rfl; revert h0; decide
    simp [this]
  rcases shp_cases h0 with ⟨s, hk⟩ | ⟨s, hk⟩ | ⟨s, hk⟩ | ⟨s, hk⟩
  all_goals simp only [s] at hT hD hB hc
  all_goals simp at hT hD hB hc
  · have h5 : (k != 5) = true := by simp; omega
    by_cases a1 : a < 0
    · obtain rfl : c = 1 := by omega
      exact ref_tok_alo k a e f d hT hD h5 a1 w
    by_cases a2 : 128 ≤ a
    · obtain rfl : c = 1 := by omega
      exact ref_tok_ahi k a e f d hT hD h5 (by omega) a2 w
    by_cases e1 : e < 0
    · obtain rfl : c = 1 := by omega
      exact ref_tok_elo k a e f d hT hD h5 (by omega) (by omega) e1 w
    by_cases e2 : 16 ≤ e
    · obtain rfl : c = 1 := by omega
      exact ref_tok_ehi k a e f d hT hD h5 (by omega) (by omega) (by omega) e2 w
    by_cases f1 : f = 0
    · by_cases d1 : d.size = 0
      · obtain rfl : c = 0 := by omega
        exact ref_tok_ok k a e f d hT hD h5 (by omega) (by omega) (by omega) (by omega) f1 ((emp_iff d).2 d1) d1 w
      · obtain rfl : c = 1 := by omega
        exact ref_tok_d k a e f d hT hD h5 (by omega) (by omega) (by omega) (by omega) f1 (str_full d (by omega)) w
    · obtain rfl : c = 1 := by omega
      exact ref_tok_f k a e f d hT hD h5 (by omega) (by omega) (by omega) (by omega) (by simp [f1]) w
  · have h5 : (k != 5) = false := by simp [hk]
    by_cases a1 : a = 0
    · by_cases e1 : e = 0
      · by_cases f1 : f < 0
        · obtain rfl : c = 1 := by omega
          exact ref_frm_lo k a e f d hT hD hB h5 a1 e1 f1 w
        by_cases f2 : 2048 ≤ f
        · obtain rfl : c = 1 := by omega
          exact ref_frm_hi k a e f d hT hD hB h5 a1 e1 (by omega) f2 w
        by_cases d1 : d.size = 0
        · obtain rfl : c = 0 := by omega
          exact ref_frm_ok k a e f d hT hD hB h5 a1 e1 (by omega) (by omega) ((emp_iff d).2 d1) d1 w
        · obtain rfl : c = 1 := by omega
          exact ref_frm_d k a e f d hT hD hB h5 a1 e1 (by omega) (by omega) (str_full d (by omega)) w
      · obtain rfl : c = 1 := by omega
        exact ref_frm_e k a e f d hT hD hB h5 a1 (by simp [e1]) w
    · obtain rfl : c = 1 := by omega
      exact ref_frm_a k a e f d hT hD hB h5 (by simp [a1]) w
  · have h5 : (k != 5) = true := by simp; omega
    by_cases a1 : a = 0
    · by_cases e1 : e = 0
      · by_cases f1 : f = 0
        · by_cases d1 : d.size ≤ 64
          · obtain rfl : c = 0 := by omega
            exact ref_dat_ok k a e f d hT hD h5 a1 e1 f1 d1 w
          · obtain rfl : c = 2 := by omega
            exact ref_dat_long k a e f d hT hD h5 a1 e1 f1 (by omega) w
        · obtain rfl : c = 1 := by omega
          exact ref_dat_f k a e f d hT hD h5 a1 e1 (by simp [f1]) w
      · obtain rfl : c = 1 := by omega
        exact ref_dat_e k a e f d hT hD h5 a1 (by simp [e1]) w
    · obtain rfl : c = 1 := by omega
      exact ref_dat_a k a e f d hT hD h5 (by simp [a1]) w
  · have h5 : (k != 5) = true := by simp; omega
    by_cases a1 : a = 0
    · by_cases e1 : e = 0
      · by_cases f1 : f = 0
        · by_cases d1 : d.size = 0
          · obtain rfl : c = 0 := by omega
            exact ref_bare_ok k a e f d hT hD hB h5 a1 e1 f1 ((emp_iff d).2 d1) d1 w
          · obtain rfl : c = 1 := by omega
            exact ref_bare_d k a e f d hT hD hB h5 a1 e1 f1 (str_full d (by omega)) w
        · obtain rfl : c = 1 := by omega
          exact ref_bare_f k a e f d hT hD hB h5 a1 e1 (by simp [f1]) w
      · obtain rfl : c = 1 := by omega
        exact ref_bare_e k a e f d hT hD hB h5 a1 (by simp [e1]) w
    · obtain rfl : c = 1 := by omega
      exact ref_bare_a k a e f d hT hD hB h5 (by simp [a1]) w
end Go.Proofs.Ytepifjimfcnggaa.pack
