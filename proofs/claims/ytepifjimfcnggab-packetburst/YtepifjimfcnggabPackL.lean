/- packet: what packetLives answers. -/
import Derived.Test.YtepifjimfcnggabPackF
namespace Go.Proofs.Ytepifjimfcnggab.pack
open Go.RowKit Go.PlainAid Go.Proofs.Ytepifjimfcnggab.lane Go.Proofs.Ytepifjimfcnggab.crc

theorem str_ack : strOfNums (wtext 2 0 0 0 []) = ⟨#[210]⟩ := by
  have : wtext 2 0 0 0 [] = [210] := by decide
  rw [this]; rfl
set_option maxHeartbeats 1000000 in
theorem lives_any (w : World) : Calls Try.prog 7 #[] w fun r w' => r = .returned (.bool true) ∧ Below w.heap.size w w' := by
  have hg : good 2 0 0 0 (nums ⟨#[]⟩) := by
    refine ⟨by decide, ⟨?_, ?_, ?_, ?_⟩, by unfold wth; decide, by decide⟩
    all_goals (intro h; first | (exfalso; revert h; decide) | decide)
  obtain ⟨c, s, hc, h1, _, _, HW⟩ := write_any 2 0 0 0 ⟨#[]⟩
  obtain rfl : c = 0 := (code_zero hc).2 hg
  have hs := h1 rfl
  rw [nums_nil, str_ack] at hs
  subst hs
  have HW : Hid _ := HW
  clear hc h1 hg
  go_enter Try.func7, Try.ntmps7
  go_wp2_with fail
  refine (HW.out _).mono ?_
  rintro r u ⟨rfl, hb⟩
  have HB : Hid (Below w.heap.size w u) := hb
  clear hb
  go_wp2
  go_ret
  exact ⟨rfl, HB.out⟩
theorem pk_two (w : World) (k a e f k' a' e' f' : Int) (d d' : ByteArray) :
    Pk ((w.alloc (pcells k a e f d)).alloc (pcells k' a' e' f' d')) w.heap.size k a e f d ∧ Pk ((w.alloc (pcells k a e f d)).alloc (pcells k' a' e' f' d')) (w.heap.size + 1) k' a' e' f' d' := by
  refine ⟨(pk_alloc w k a e f d).below (balloc _ _), ?_⟩
  have := pk_alloc (w.alloc (pcells k a e f d)) k' a' e' f' d'
  simpa using this
end Go.Proofs.Ytepifjimfcnggab.pack
