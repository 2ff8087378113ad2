/- PacketReads: the walk. -/
import Derived.Test.YtepifjimfcnggaaPackQ
namespace Go.Proofs.Ytepifjimfcnggaa.packetReads
open Go.RowKit Go.PlainAid Go.Proofs.Ytepifjimfcnggaa.lane Go.Proofs.Ytepifjimfcnggaa.crc Go.Proofs.Ytepifjimfcnggaa.pack

set_option linter.unusedVariables false
set_option maxHeartbeats 2000000 in
theorem walk (a0 : ByteArray) (w0 : a0.size ≤ maxLen) (w : World) :
    Calls Try.prog 4 #[.string a0] w fun e w' => e = .returned (.bool true) ∧ Below w.heap.size w w' := by
  obtain ⟨k, a, e, f, d, c, HR, hg⟩ := read_any a0 w0
  obtain ⟨k', a', e', f', d', c', HR', hg'⟩ := rread_any a0 w0
  obtain ⟨rfl, hs⟩ := got_same hg hg'
  replace HR : Hid _ := HR
  replace HR' : Hid _ := HR'
  have heq := eql_pk k a e f d k' a' e' f' d'
  rw [hs] at heq
  clear hg hg' hs w0
  go_enter Try.func4, Try.ntmps4
  go_wp2_with fail
  refine (HR.out _).mono ?_
  rintro r u1 ⟨rfl, hb1⟩
  have HB : Hid (Below w.heap.size w (u1.alloc (pcells k a e f d))) := bsq hb1 (balloc _ _)
  have P1 : Hid _ := pk_alloc u1 k a e f d
  clear hb1
  go_wp2_with fail
  refine (HR'.out _).mono ?_
  rintro r u2 ⟨rfl, hb2⟩
  have HB2 : Hid (Below w.heap.size w (u2.alloc (pcells k' a' e' f' d'))) := bsq (bsq HB.out hb2) (balloc _ _)
  obtain ⟨z0, z1, z2, z3, z4, z5⟩ := P1.out.below hb2
  clear hb2 HB P1
  go_wp2
  go_ret
  exact ⟨rfl, HB2.out⟩
end Go.Proofs.Ytepifjimfcnggaa.packetReads
