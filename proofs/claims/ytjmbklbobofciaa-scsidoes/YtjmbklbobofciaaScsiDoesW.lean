/- ScsiDoes: the walk. -/
import Derived.Test.YtjmbklbobofciaaScsX
import Derived.Test.YtjmbklbobofciaaScsP
namespace Go.Proofs.Ytjmbklbobofciaa.scsiDoes
open Go.RowKit Go.PlainAid Go.Proofs.Ytjmbklbobofciaa.lane Go.Proofs.Ytjmbklbobofciaa.pipe Go.Proofs.Ytjmbklbobofciaa.strike Go.Proofs.Ytjmbklbobofciaa.scsi
set_option linter.unusedVariables false
set_option linter.unusedSimpArgs false
set_option maxRecDepth 100000

set_option maxHeartbeats 4000000 in
theorem walk (x0 : Value) (l0 : List ByteArray) (s0 : Int) (a1 a2 : ByteArray) (w1 : a1.size ≤ maxLen) (w2 : a2.size ≤ maxLen) (w : World) (hp : Rts w x0 l0) (hk : l0.length * 16 ≤ reachBytes) :
    Calls Try.prog 4 #[dkV x0 s0, .string a1, .string a2] w fun e w' => e = .returned (.bool true) ∧ Below w.heap.size w w' := by
  obtain ⟨T, hT⟩ : ∃ T, doT ⟨l0, s0⟩ a1 a2 = T := ⟨_, rfl⟩
  obtain ⟨C, hC⟩ : ∃ C, doC ⟨l0, s0⟩ a1 a2 = C := ⟨_, rfl⟩
  obtain ⟨N, hN⟩ : ∃ N, (doD ⟨l0, s0⟩ a1 a2).b = N := ⟨_, rfl⟩
  obtain ⟨S, hS⟩ : ∃ S, (doD ⟨l0, s0⟩ a1 a2).s = S := ⟨_, rfl⟩
  have HDO : Hid (∀ u, Rts u x0 l0 → Calls Try.prog 17 #[dkV x0 s0, .string a1, .string a2] u fun e w' => ∃ a cp, e = .returned (.tuple #[dkV (.slice a N.length cp) S, .string T, .int .i64 C]) ∧ Txs w' u.heap.size (.slice a N.length cp) N ∧ Below u.heap.size u w') := fun u h => do_named x0 ⟨l0, s0⟩ a1 a2 hk w1 w2 T C N S hT hC hN hS u h
  have HDD : Hid (∀ u, Rts u x0 l0 → Calls Try.prog 18 #[dkV x0 s0, .string a1, .string a2] u fun e w' => ∃ a cp, e = .returned (.tuple #[dkV (.slice a N.length cp) S, .string T, .int .i64 C]) ∧ Rts w' (.slice a N.length cp) N ∧ Below u.heap.size u w') := fun u h => by
    refine (done_any x0 ⟨l0, s0⟩ a1 a2 u h w1 w2).mono ?_
    rintro e w' ⟨v, rfl, hr, hb⟩
    rw [hN] at hr
    obtain ⟨a, cp, rfl, _, _⟩ := rts_form hr
    exact ⟨a, cp, by rw [hS, hT, hC], hr, hb⟩
  obtain ⟨xa, xc, rfl, _, _⟩ := rts_form hp
  obtain ⟨u0, hu0, hX0, hb0⟩ := dk_named w (.slice xa l0.length xc) s0
  obtain ⟨⟨_, x0, x1⟩, f0, f1⟩ := boxD hX0
  have HR : Hid (Rts u0 (.slice xa l0.length xc) l0 ∧ Below w.heap.size w u0 ∧ u0.heap[w.heap.size]? = some (dkO (.slice xa l0.length xc) s0)) := ⟨hp.below hb0, hb0, hX0⟩
  have hTT : (T.toList == T.toList) = true := by simp
  clear hp hX0 hb0 hk hT hC hN hS
  generalize l0.length = n0 at *
  generalize hn1 : N.length = n1 at *
  go_enter Try.func4, Try.ntmps4
  go_wp2_with fail
  refine (HDO.out _ HR.out.1).mono ?_
  rintro e u ⟨a, cp, rfl, ht, hb⟩
  obtain ⟨u1, uf, hu1, huf, hX1, hXf, hbf⟩ := dk_param u (.slice a n1 cp) S
  obtain ⟨⟨_, y0, y1⟩, g0, g1⟩ := boxD hX1
  have HB : Hid (Below w.heap.size w uf ∧ uf.heap[u.heap.size]? = some (dkO (.slice a n1 cp) S) ∧ uf.heap[w.heap.size]? = some (dkO (.slice xa n0 xc) s0) ∧ Rts uf (.slice a n1 cp) N ∧ Rts uf (.slice xa n0 xc) l0) := ⟨bsq HR.out.2.1 (bsq hb hbf), hXf, keep HR.out.2.2 (bsq hb hbf), ht.rts.below hbf, HR.out.1.below (bsq hb hbf)⟩
  clear HDO HR ht hb hX1 hXf hbf x0 x1 f0 f1
  obtain ⟨⟨_, x0, x1⟩, f0, f1⟩ := boxD HB.out.2.2.1
  go_wp2_with fail
  refine (HDD.out _ HB.out.2.2.2.2).mono ?_
  rintro e u2 ⟨b, cq, rfl, ht, hb⟩
  obtain ⟨u3, u4, hu3, hu4, hX3, hX4, hbf⟩ := dk_param u2 (.slice b n1 cq) S
  obtain ⟨⟨_, p0, p1⟩, q0, q1⟩ := boxD hX3
  obtain ⟨⟨_, i0, i1⟩, _⟩ := boxD hX4
  obtain ⟨⟨_, k0, k1⟩, _⟩ := boxD (keep HB.out.2.1 (bsq hb hbf))
  have HB4 : Hid (Below w.heap.size w u4) := bsq HB.out.1 (bsq hb hbf)
  have HE : Hid (Calls Try.prog 14 #[dkV (.slice a n1 cp) S, dkV (.slice b n1 cq) S] u4 fun e w' => e = .returned (.bool true) ∧ Below u4.heap.size u4 w') := by
    have := same_any _ _ N N S S u4 (HB.out.2.2.2.1.below (bsq hb hbf)) (ht.below hbf)
    rw [decide_eq_true rfl, decide_eq_true rfl] at this
    exact this
  clear HDD HB ht hb hX3 hX4 hbf x0 x1 f0 f1 y0 y1 g0 g1
  go_wp2_with fail
  refine HE.out.mono ?_
  rintro e u5 ⟨rfl, hb⟩
  have HB5 : Hid (Below w.heap.size w u5) := bsq HB4.out hb
  clear HE HB4 hb
  go_wp2
  go_ret
  exact ⟨rfl, HB5.out⟩
end Go.Proofs.Ytjmbklbobofciaa.scsiDoes
