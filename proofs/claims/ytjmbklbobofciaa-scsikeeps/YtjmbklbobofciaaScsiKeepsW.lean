/- ScsiKeeps: the walk. -/
import Derived.Test.YtjmbklbobofciaaScsP
namespace Go.Proofs.Ytjmbklbobofciaa.scsiKeeps
open Go.RowKit Go.PlainAid Go.Proofs.Ytjmbklbobofciaa.lane Go.Proofs.Ytjmbklbobofciaa.pipe Go.Proofs.Ytjmbklbobofciaa.strike Go.Proofs.Ytjmbklbobofciaa.scsi
set_option linter.unusedVariables false
set_option linter.unusedSimpArgs false
set_option maxRecDepth 100000

set_option maxHeartbeats 4000000 in
theorem walk (x0 : Value) (l0 : List ByteArray) (s0 : Int) (a1 a2 : ByteArray) (w1 : a1.size ≤ maxLen) (w2 : a2.size ≤ maxLen) (w : World) (hp : Rts w x0 l0) (hk : l0.length * 16 ≤ reachBytes) :
    Calls Try.prog 6 #[dkV x0 s0, .string a1, .string a2] w fun e w' => e = .returned (.bool true) ∧ Below w.heap.size w w' := by
  obtain ⟨T, hT⟩ : ∃ T, doT ⟨l0, s0⟩ a1 a2 = T := ⟨_, rfl⟩
  obtain ⟨C, hC⟩ : ∃ C, doC ⟨l0, s0⟩ a1 a2 = C := ⟨_, rfl⟩
  obtain ⟨N, hN⟩ : ∃ N, (doD ⟨l0, s0⟩ a1 a2).b = N := ⟨_, rfl⟩
  obtain ⟨S, hS⟩ : ∃ S, (doD ⟨l0, s0⟩ a1 a2).s = S := ⟨_, rfl⟩
  have HDO : Hid (∀ u, Rts u x0 l0 → Calls Try.prog 17 #[dkV x0 s0, .string a1, .string a2] u fun e w' => ∃ a cp, e = .returned (.tuple #[dkV (.slice a N.length cp) S, .string T, .int .i64 C]) ∧ Txs w' u.heap.size (.slice a N.length cp) N ∧ Below u.heap.size u w') := fun u h => do_named x0 ⟨l0, s0⟩ a1 a2 hk w1 w2 T C N S hT hC hN hS u h
  have HLV : Hid (∀ u, Calls Try.prog 19 #[] u fun e w' => e = .returned (.bool true) ∧ Below u.heap.size u w') := fun u => lives_any u
  have HF : Hid (∀ h : C = 0, 0 < a1.size) := fun h => do_full (hC.trans h)
  have HN0 : Hid (C ≠ 0 → T = ⟨#[]⟩) := fun h => by rw [← hT]; exact (do_none (by rw [hC]; exact h)).1
  have HSM : Hid (¬ (C = 0 ∧ bt a1 0 = 42) → N = l0) := fun h => by rw [← hN]; exact do_same (by rw [hC]; exact h)
  obtain ⟨xa, xc, rfl, _, _⟩ := rts_form hp
  obtain ⟨u0, hu0, hX0, hb0⟩ := dk_named w (.slice xa l0.length xc) s0
  obtain ⟨⟨_, x0, x1⟩, f0, f1⟩ := boxD hX0
  have HR : Hid (Rts u0 (.slice xa l0.length xc) l0 ∧ Below w.heap.size w u0 ∧ u0.heap[w.heap.size]? = some (dkO (.slice xa l0.length xc) s0)) := ⟨hp.below hb0, hb0, hX0⟩
  clear hp hk hX0 hb0 hT hC hN hS
  have hbt := get_bt a1
  unfold maxLen at w1 w2
  generalize hln : l0.length = n0 at *
  generalize hnn : N.length = n1 at *
  have pre : True := trivial
  by_cases hc0 : C = 0
  · have hfull := HF.out hc0
    have hes := str_full a1 hfull
    subst hc0
    by_cases h42 : bt a1 0 = 42
    · clear HSM HN0 HF
      go_enter Try.func6, Try.ntmps6
      go_wp2_with fail
      refine (HDO.out _ HR.out.1).mono ?_
      rintro e u ⟨a, cp, rfl, ht, hb⟩
      obtain ⟨u1, uf, hu1, huf, hX1, hXf, hbf⟩ := dk_param u (.slice a n1 cp) S
      obtain ⟨⟨_, y0, y1⟩, g0, g1⟩ := boxD hX1
      obtain ⟨⟨_, i0, i1⟩, j0, j1⟩ := boxD hXf
      have HB : Hid (Below w.heap.size w uf) := bsq HR.out.2.1 (bsq hb hbf)
      clear HDO HR ht hb hX1 hXf hbf
      go_wp2_with fail
      refine (HLV.out _).mono ?_
      rintro e u2 ⟨rfl, hb⟩
      have HB2 : Hid (Below w.heap.size w u2) := bsq HB.out hb
      clear HLV HB hb
      go_wp2
      go_ret
      exact ⟨rfl, HB2.out⟩
    · have hN : N = l0 := HSM.out (fun q => h42 q.2)
      have e42 : (bt a1 0 == 42) = false := by simp [h42]
      subst hN
      have hnn' : n0 = n1 := hln.symm.trans hnn
      subst hnn'
      clear HSM HN0 HF h42 hln hnn
      go_enter Try.func6, Try.ntmps6
      go_wp2_with fail
      refine (HDO.out _ HR.out.1).mono ?_
      rintro e u ⟨a, cp, rfl, ht, hb⟩
      obtain ⟨u1, uf, hu1, huf, hX1, hXf, hbf⟩ := dk_param u (.slice a n0 cp) S
      obtain ⟨⟨_, y0, y1⟩, g0, g1⟩ := boxD hX1
      obtain ⟨⟨_, i0, i1⟩, j0, j1⟩ := boxD hXf
      have HB : Hid (Below w.heap.size w uf ∧ uf.heap[u.heap.size]? = some (dkO (.slice a n0 cp) S) ∧ uf.heap[w.heap.size]? = some (dkO (.slice xa n0 xc) s0) ∧ Rts uf (.slice a n0 cp) N ∧ Rts uf (.slice xa n0 xc) N) := ⟨bsq HR.out.2.1 (bsq hb hbf), hXf, keep HR.out.2.2 (bsq hb hbf), ht.rts.below hbf, HR.out.1.below (bsq hb hbf)⟩
      clear HDO HR ht hb hX1 hXf hbf
      go_wp2_with fail
      refine (HLV.out _).mono ?_
      rintro e u2 ⟨rfl, hb⟩
      have HB2 : Hid (Below w.heap.size w u2) := bsq HB.out.1 hb
      have HE : Hid (Calls Try.prog 20 #[.slice a n0 cp, .slice xa n0 xc] u2 fun e w' => e = .returned (.bool true) ∧ Below u2.heap.size u2 w') := by
        have := equalT_any _ _ N N u2 (HB.out.2.2.2.1.below hb) (HB.out.2.2.2.2.below hb)
        rw [decide_eq_true rfl] at this
        exact this
      obtain ⟨⟨_, p0, p1⟩, _⟩ := boxD (keep HB.out.2.1 hb)
      obtain ⟨⟨_, q0, q1⟩, _⟩ := boxD (keep HB.out.2.2.1 hb)
      clear HLV HB hb x0 x1 f0 f1 y0 y1 g0 g1 i0 i1 j0 j1
      go_wp2_with fail
      refine HE.out.mono ?_
      rintro e u3 ⟨rfl, hb⟩
      have HB3 : Hid (Below w.heap.size w u3) := bsq HB2.out hb
      clear HE HB2 hb
      go_wp2
      go_ret
      exact ⟨rfl, HB3.out⟩
  · have hN : N = l0 := HSM.out (fun q => hc0 q.1)
    have hT := HN0.out hc0
    have e0 : (C == 0) = false := by simp [hc0]
    have e1 : (C != 0) = true := by simp [hc0]
    subst hT
    subst hN
    have hnn' : n0 = n1 := hln.symm.trans hnn
    subst hnn'
    clear HSM HN0 HF hc0 hln hnn
    go_enter Try.func6, Try.ntmps6
    go_wp2_with fail
    refine (HDO.out _ HR.out.1).mono ?_
    rintro e u ⟨a, cp, rfl, ht, hb⟩
    obtain ⟨u1, uf, hu1, huf, hX1, hXf, hbf⟩ := dk_param u (.slice a n0 cp) S
    obtain ⟨⟨_, y0, y1⟩, g0, g1⟩ := boxD hX1
    obtain ⟨⟨_, i0, i1⟩, j0, j1⟩ := boxD hXf
    have HB : Hid (Below w.heap.size w uf ∧ uf.heap[u.heap.size]? = some (dkO (.slice a n0 cp) S) ∧ uf.heap[w.heap.size]? = some (dkO (.slice xa n0 xc) s0) ∧ Rts uf (.slice a n0 cp) N ∧ Rts uf (.slice xa n0 xc) N) := ⟨bsq HR.out.2.1 (bsq hb hbf), hXf, keep HR.out.2.2 (bsq hb hbf), ht.rts.below hbf, HR.out.1.below (bsq hb hbf)⟩
    clear HDO HR ht hb hX1 hXf hbf
    go_wp2_with fail
    refine (HLV.out _).mono ?_
    rintro e u2 ⟨rfl, hb⟩
    have HB2 : Hid (Below w.heap.size w u2) := bsq HB.out.1 hb
    have HE : Hid (Calls Try.prog 20 #[.slice a n0 cp, .slice xa n0 xc] u2 fun e w' => e = .returned (.bool true) ∧ Below u2.heap.size u2 w') := by
      have := equalT_any _ _ N N u2 (HB.out.2.2.2.1.below hb) (HB.out.2.2.2.2.below hb)
      rw [decide_eq_true rfl] at this
      exact this
    obtain ⟨⟨_, p0, p1⟩, _⟩ := boxD (keep HB.out.2.1 hb)
    obtain ⟨⟨_, q0, q1⟩, _⟩ := boxD (keep HB.out.2.2.1 hb)
    clear HLV HB hb x0 x1 f0 f1 y0 y1 g0 g1 i0 i1 j0 j1
    go_wp2_with fail
    refine HE.out.mono ?_
    rintro e u3 ⟨rfl, hb⟩
    have HB3 : Hid (Below w.heap.size w u3) := bsq HB2.out hb
    clear HE HB2 hb
    go_wp2
    go_ret
    exact ⟨rfl, HB3.out⟩
end Go.Proofs.Ytjmbklbobofciaa.scsiKeeps
