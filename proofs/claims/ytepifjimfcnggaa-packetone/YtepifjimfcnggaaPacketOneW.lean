/- PacketOne: the walk. -/
import Derived.Test.YtepifjimfcnggaaPackL
namespace Go.Proofs.Ytepifjimfcnggaa.packetOne
open Go.RowKit Go.PlainAid Go.Proofs.Ytepifjimfcnggaa.lane Go.Proofs.Ytepifjimfcnggaa.crc Go.Proofs.Ytepifjimfcnggaa.pack

set_option linter.unusedVariables false
set_option maxHeartbeats 2000000 in
theorem walk (a0 : ByteArray) (w0 : a0.size ≤ maxLen) (w : World) :
    Calls Try.prog 6 #[.string a0] w fun e w' => e = .returned (.bool true) ∧ Below w.heap.size w w' := by
  obtain ⟨k, a, e, f, d, c, HR, hc, hgot⟩ := read_any a0 w0
  have HR : Hid _ := HR
  have HL : Hid (∀ w : World, Calls Try.prog 15 #[] w fun r w' => r = .returned (.bool true) ∧ Below w.heap.size w w') := lives_any
  clear w0 hc
  rcases hgot with ⟨h, rfl, rfl, rfl, rfl, rfl⟩ | ⟨rfl, h0, r, hl, hrb, hrr, e1, e2, e3, e4⟩
  · have z' : (c != 0) = true := by simp [h]
    have heq := eql_pk 0 0 0 0 ⟨#[]⟩ 0 0 0 0 ⟨#[]⟩
    rw [(same_iff ..).2 ⟨rfl, rfl, rfl, rfl, rfl⟩] at heq
    clear h
    go_enter Try.func6, Try.ntmps6
    go_wp2_with fail
    refine (HR.out _).mono ?_
    rintro r u1 ⟨rfl, hb1⟩
    have HB : Hid (Below w.heap.size w (u1.alloc (pcells 0 0 0 0 ⟨#[]⟩))) := bsq hb1 (balloc _ _)
    have P1 : Hid _ := pk_alloc u1 0 0 0 0 ⟨#[]⟩
    clear hb1
    go_wp2_with fail
    refine (HL.out _).mono ?_
    rintro r u2 ⟨rfl, hb2⟩
    have HB2 : Hid (Below w.heap.size w u2) := bsq HB.out hb2
    have Q2 : Hid _ := P1.out.below hb2
    clear hb2 P1 HB
    go_wp2_with fail
    refine (HL.out _).mono ?_
    rintro r u3 ⟨rfl, hb3⟩
    have HB3 : Hid (Below w.heap.size w u3) := bsq HB2.out hb3
    obtain ⟨z0, z1, z2, z3, z4, z5⟩ := Q2.out.below hb3
    clear hb3 Q2 HB2
    go_wp2
    go_ret
    exact ⟨rfl, HB3.out⟩
  · obtain ⟨c, s, hc, h1, h2, HC, HW⟩ := write_any k a e f d
    obtain ⟨hg, hw⟩ := one hrb h0 hrr
    rw [← e1, ← e2, ← e3, ← e4] at hg hw
    obtain rfl : c = 0 := (code_zero hc).2 hg
    have hs : s = a0 := by rw [h1 rfl, wtext_cons, hw, ← hl, str_nums]
    subst hs
    have HW : Hid _ := HW
    clear h1 h2 hc hg hw e1 e2 e3 e4 hrr hrb hl HC
    go_enter Try.func6, Try.ntmps6
    go_wp2_with fail
    refine (HR.out _).mono ?_
    rintro r u1 ⟨rfl, hb1⟩
    have HB : Hid (Below w.heap.size w (u1.alloc (pcells k a e f d))) := bsq hb1 (balloc _ _)
    have P1 : Hid _ := pk_alloc u1 k a e f d
    clear hb1
    go_wp2_with fail
    refine (HL.out _).mono ?_
    rintro r u2 ⟨rfl, hb2⟩
    have HB2 : Hid (Below w.heap.size w u2) := bsq HB.out hb2
    obtain ⟨z0, z1, z2, z3, z4, z5⟩ := P1.out.below hb2
    clear hb2 P1 HB
    go_wp2_with fail
    refine (HW.out _).mono ?_
    rintro r u3 ⟨rfl, hb3⟩
    have HB3 : Hid (Below w.heap.size w u3) := bsq HB2.out hb3
    clear hb3 HB2 z0 z1 z2 z3 z4 z5
    go_wp2
    go_ret
    exact ⟨rfl, HB3.out⟩
end Go.Proofs.Ytepifjimfcnggaa.packetOne
