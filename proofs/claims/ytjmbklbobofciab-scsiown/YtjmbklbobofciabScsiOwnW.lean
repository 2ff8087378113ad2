/- ScsiOwn: the walk. -/
import Derived.Test.YtjmbklbobofciabScsP
import Derived.Test.YtjmbklbobofciabPipW
namespace Go.Proofs.Ytjmbklbobofciab.scsiOwn
open Go.RowKit Go.PlainAid Go.Proofs.Ytjmbklbobofciab.lane Go.Proofs.Ytjmbklbobofciab.pipe Go.Proofs.Ytjmbklbobofciab.strike Go.Proofs.Ytjmbklbobofciab.scsi
set_option linter.unusedVariables false
set_option linter.unusedSimpArgs false
set_option maxRecDepth 100000

set_option maxHeartbeats 8000000 in
theorem walk (x0 : Value) (l0 : List ByteArray) (s0 : Int) (a1 a2 : ByteArray) (w1 : a1.size ≤ maxLen) (w2 : a2.size ≤ maxLen) (w : World) (hp : Rts w x0 l0) (hk : l0.length * 16 ≤ reachBytes) :
    Calls Try.prog 3 #[dkV x0 s0, .string a1, .string a2] w fun e w' => e = .returned (.bool true) ∧ Below w.heap.size w w' := by
  obtain ⟨T, hT⟩ : ∃ T, doT ⟨l0, s0⟩ a1 a2 = T := ⟨_, rfl⟩
  obtain ⟨C, hC⟩ : ∃ C, doC ⟨l0, s0⟩ a1 a2 = C := ⟨_, rfl⟩
  obtain ⟨N, hN⟩ : ∃ N, (doD ⟨l0, s0⟩ a1 a2).b = N := ⟨_, rfl⟩
  obtain ⟨S, hS⟩ : ∃ S, (doD ⟨l0, s0⟩ a1 a2).s = S := ⟨_, rfl⟩
  have HDO : Hid (∀ u, Rts u x0 l0 → Calls Try.prog 5 #[dkV x0 s0, .string a1, .string a2] u fun e w' => ∃ a cp, e = .returned (.tuple #[dkV (.slice a N.length cp) S, .string T, .int .i64 C]) ∧ Txs w' u.heap.size (.slice a N.length cp) N ∧ Below u.heap.size u w') := fun u h => do_named x0 ⟨l0, s0⟩ a1 a2 hk w1 w2 T C N S hT hC hN hS u h
  have HLV : Hid (∀ u, Calls Try.prog 8 #[] u fun e w' => e = .returned (.bool true) ∧ Below u.heap.size u w') := fun u => lives_any u
  obtain ⟨xa, xc, rfl, _, _⟩ := rts_form hp
  obtain ⟨u0, hu0, hX0, hb0⟩ := dk_named w (.slice xa l0.length xc) s0
  have HR : Hid (Rts u0 (.slice xa l0.length xc) l0 ∧ Below w.heap.size w u0 ∧ u0.heap[w.heap.size]? = some (dkO (.slice xa l0.length xc) s0)) := ⟨hp.below hb0, hb0, hX0⟩
  have HCL : Hid (∀ u, Below u0.heap.size u0 u → Calls Try.prog 4 #[.slice xa l0.length xc] u fun e w' => ∃ v', e = .returned v' ∧ Txs w' u.heap.size v' l0 ∧ Below u.heap.size u w') := fun u hb => cloneT_any _ _ _ ((hp.below hb0).below hb) (by unfold reachBytes at hk; omega)
  have HBX : Hid (∀ W, Below u0.heap.size u0 W → W.heap[w.heap.size]? = some (dkO (.slice xa l0.length xc) s0)) := fun W hW => keep hX0 hW
  clear hp hX0 hb0 hk hT hC hN hS
  generalize hn0 : l0.length = n0 at *
  generalize hn1 : N.length = n1 at *
  go_enter Try.func3, Try.ntmps3
  go_upto_region 1 with (fail)
  refine wp_abs (fun a0 => a0.tmps.size = 41 ∧ (∀ h, a0.tmps[3]'h = .pointer (some ⟨w.heap.size, 0, none⟩))) ⟨rfl, fun _ => rfl⟩ ?_
  rintro a0 ⟨hsz, s3⟩ ha0
  refine wp_region_held (S := fun W => Below u0.heap.size u0 W) (by kernel_rfl) ?_
  have hS0 : Below u0.heap.size u0 u0.drew := (Below.refl _ _).drew
  refine h_take (i := 0) (.pointer (some ⟨w.heap.size, 0, none⟩)) rfl (by kernel_rfl) (by kernel_rfl) (by kernel_rfl) (fun _ _ _ h => h) rfl hS0 (fun W hW => by simp [execOp, go_sem, Act.put, hsz, s3]) ?_
  refine h_take (i := 1) (.slice xa n0 xc) rfl (by kernel_rfl) (by kernel_rfl) (by kernel_rfl) (fun _ _ _ h => h) rfl hS0 (fun W hW => by obtain ⟨⟨zb, x0, x1⟩, _⟩ := boxD (HBX.out W hW); simp [execOp, go_sem, Act.put, hsz, s3, x0, x1]) ?_
  refine h_take (i := 3) (.pointer (some ⟨w.heap.size, 1, none⟩)) rfl (by kernel_rfl) (by kernel_rfl) (by kernel_rfl) (fun _ _ _ h => h) rfl hS0 (fun W hW => by simp [execOp, go_sem, Act.put, hsz, s3]) ?_
  refine h_take (i := 4) (.int .i64 s0) rfl (by kernel_rfl) (by kernel_rfl) (by kernel_rfl) (fun _ _ _ h => h) rfl hS0 (fun W hW => by obtain ⟨⟨zb, x0, x1⟩, _⟩ := boxD (HBX.out W hW); simp [execOp, go_sem, Act.put, hsz, s3, x0, x1]) ?_
  refine h_two 2 6 (by kernel_rfl) ?_ ?_
  · refine o_call (i := 2) 4 #[.slice xa n0 xc] rfl rfl (by simp [execOp, go_sem, Act.put, hsz, s3]) ((HCL.out _ hS0).mono ?_)
    rintro e u ⟨v', rfl, ht, hb⟩
    have hS1 : Below u0.heap.size u0 u := bsq hS0 hb
    refine ⟨_, rfl, hS1, ?_⟩
    obtain ⟨ca, cc, rfl, _, _⟩ := ht.form
    rw [hn0] at ht ⊢
    obtain ⟨u1, uf, hu1, huf, hX1, hXf, hbf⟩ := dk_param u (.slice ca n0 cc) s0
    obtain ⟨⟨zm, m0, m1⟩, l1, l2⟩ := boxD hX1
    have hSf : Below u0.heap.size u0 uf := bsq hS1 hbf
    refine h_take (i := 5) (dkV (.slice ca n0 cc) s0) rfl (by kernel_rfl) (by kernel_rfl) (by kernel_rfl) (fun _ _ _ h => h) rfl hS1 (fun W hW => by simp [execOp, go_sem, Act.put, hsz, s3]) ?_
    refine h_value (i := 6) (w' := u1) (.pointer (some ⟨u.heap.size, 0, none⟩)) rfl (by kernel_rfl) rfl (by rw [← hu1]; simp [execOp, go_sem, Act.put, hsz, s3]) (bsq hS1 (by rw [← hu1]; exact balloc _ _)) ?_
    refine h_skip (i := 7) (w' := uf) rfl (by kernel_rfl) rfl (by rw [← huf]; simp [execOp, go_sem, Act.put, hsz, s3, zm, m0, m1, l1, l2]) hSf ?_
    refine wpAnyH_done (by kernel_rfl) ?_ _
    have HF : Hid (Below w.heap.size w uf ∧ Rts uf (.slice xa n0 xc) l0 ∧ Rts uf (.slice ca n0 cc) l0 ∧ uf.heap[w.heap.size]? = some (dkO (.slice xa n0 xc) s0) ∧ uf.heap[u.heap.size]? = some (dkO (.slice ca n0 cc) s0)) := ⟨bsq HR.out.2.1 hSf, HR.out.1.below hSf, ht.rts.below hbf, HBX.out _ hSf, hXf⟩
    subst ha0
    clear hsz s3 zm m0 m1 l1 l2 hu1 huf hX1 hXf hbf hSf hS0 hS1 ht hb HCL HBX HR
    go_simp
    obtain ⟨⟨_, x0, x1⟩, f0, f1⟩ := boxD HF.out.2.2.2.1
    go_wp2_with fail
    refine (HDO.out _ HF.out.2.1).mono ?_
    rintro e y1 ⟨a, cp, rfl, ht, hb⟩
    obtain ⟨y2, y3, hy2, hy3, hX2, hX3, hbf⟩ := dk_param y1 (.slice a n1 cp) S
    clear x0 x1 f0 f1
    obtain ⟨⟨_, i0, i1⟩, j0, j1⟩ := boxD hX2
    have HG : Hid (Below uf.heap.size uf y3 ∧ Txs y3 uf.heap.size (.slice a n1 cp) N ∧ y3.heap[y1.heap.size]? = some (dkO (.slice a n1 cp) S)) := ⟨bsq hb hbf, ht.below hbf, hX3⟩
    clear HDO ht hb hX2 hX3 hbf
    obtain ⟨⟨_, x0, x1⟩, f0, f1⟩ := boxD (keep HF.out.2.2.2.1 HG.out.1)
    obtain ⟨⟨_, p0, p1⟩, _⟩ := boxD (keep HF.out.2.2.2.2 HG.out.1)
    have HSM : Hid (∀ u, Below uf.heap.size uf u → Calls Try.prog 6 #[dkV (.slice xa n0 xc) s0, dkV (.slice ca n0 cc) s0] u fun e w' => e = .returned (.bool true) ∧ Below u.heap.size u w') := fun u hb => by
      have := same_any _ _ l0 l0 s0 s0 u (HF.out.2.1.below hb) (HF.out.2.2.1.below hb)
      rw [decide_eq_true rfl, decide_eq_true rfl] at this
      exact this
    go_wp2_with fail
    refine (HSM.out _ HG.out.1).mono ?_
    rintro e y4 ⟨rfl, hb⟩
    replace HG : Hid (Below uf.heap.size uf y4 ∧ Txs y4 uf.heap.size (.slice a n1 cp) N ∧ y4.heap[y1.heap.size]? = some (dkO (.slice a n1 cp) S)) := ⟨bsq HG.out.1 hb, HG.out.2.1.below hb, keep HG.out.2.2 hb⟩
    clear hb x0 x1 f0 f1 p0 p1 i0 i1 j0 j1
    obtain ⟨⟨_, x0, x1⟩, f0, f1⟩ := boxD HG.out.2.2
    have HSP : Hid (Calls Try.prog 7 #[.slice a n1 cp] y4 fun e w' => e = .returned (.tuple #[]) ∧ Below uf.heap.size y4 w') := by
      refine (spoil_any _ _ y4 HG.out.2.1.ow.rm).mono ?_
      rintro e u ⟨he, hs⟩
      exact ⟨he, hs.below fun k hk q => by have := q.2; omega⟩
    go_wp2_with fail
    refine HSP.out.mono ?_
    rintro e y5 ⟨rfl, hb⟩
    have HH : Hid (Below uf.heap.size uf y5) := HG.out.1.trans hb
    clear hb HSP HG x0 x1 f0 f1
    go_wp2_with fail
    refine (HLV.out _).mono ?_
    rintro e y6 ⟨rfl, hb⟩
    replace HH : Hid (Below uf.heap.size uf y6) := bsq HH.out hb
    clear hb HLV
    obtain ⟨⟨_, x0, x1⟩, f0, f1⟩ := boxD (keep HF.out.2.2.2.1 HH.out)
    obtain ⟨⟨_, p0, p1⟩, _⟩ := boxD (keep HF.out.2.2.2.2 HH.out)
    go_wp2_with fail
    refine (HSM.out _ HH.out).mono ?_
    rintro e y7 ⟨rfl, hb⟩
    have HE : Hid (Below w.heap.size w y7) := bsq HF.out.1 (bsq HH.out hb)
    clear hb HSM HH HF
    go_wp2
    go_ret
    exact ⟨rfl, HE.out⟩
  · obtain ⟨u1, hu1, hX1, hb1⟩ := dk_named u0.drew (.slice none 0 0) 0
    have hY0 : u0.drew.heap.size = u0.heap.size := rfl
    have hS2 : Below u0.heap.size u0 u1 := bsq hS0 hb1
    refine o_value (w' := u1) (.pointer (some ⟨u0.heap.size, 0, none⟩)) rfl rfl (by rw [← hu1]; simp [execOp, go_sem, Act.put, hsz, s3]) ⟨hS2, ?_⟩
    refine h_call (i := 2) 4 #[.slice xa n0 xc] rfl (by kernel_rfl) rfl (by simp [execOp, go_sem, Act.put, hsz, s3]) ((HCL.out _ hS2).mono ?_)
    rintro e u ⟨v', rfl, ht, hb⟩
    have hS1 : Below u0.heap.size u0 u := bsq hS2 hb
    refine ⟨_, rfl, hS1, ?_⟩
    obtain ⟨ca, cc, rfl, _, _⟩ := ht.form
    rw [hn0] at ht ⊢
    have hYu : u.heap[u0.heap.size]? = some (dkO (.slice none 0 0) 0) := keep hX1 hb
    have hYl : u0.heap.size < u1.heap.size := (Array.getElem?_eq_some_iff.1 hX1).1
    have hXl : w.heap.size < u0.heap.size := (Array.getElem?_eq_some_iff.1 HR.out.2.2).1
    obtain ⟨uf, huf, hXf, hBf, hkf, hsf⟩ := dk_put u u0.heap.size _ _ (.slice ca n0 cc) s0 hYu
    obtain ⟨⟨zm, m0, m1⟩, l1, l2⟩ := boxD hYu
    have hSf : Below u0.heap.size u0 uf := hBf _ _ (Nat.le_refl _) hS1
    refine h_take (i := 5) (dkV (.slice ca n0 cc) s0) rfl (by kernel_rfl) (by kernel_rfl) (by kernel_rfl) (fun _ _ _ h => h) rfl hS1 (fun W hW => by simp [execOp, go_sem, Act.put, hsz, s3]) ?_
    refine h_skip (i := 7) (w' := uf) rfl (by kernel_rfl) rfl (by rw [← huf]; simp [execOp, go_sem, Act.put, hsz, s3, zm, m0, m1, l1, l2]) hSf ?_
    refine wpAnyH_done (by kernel_rfl) ?_ _
    have HF : Hid (Below w.heap.size w uf ∧ Rts uf (.slice xa n0 xc) l0 ∧ Rts uf (.slice ca n0 cc) l0 ∧ uf.heap[w.heap.size]? = some (dkO (.slice xa n0 xc) s0) ∧ uf.heap[u0.heap.size]? = some (dkO (.slice ca n0 cc) s0)) := ⟨bsq HR.out.2.1 hSf, HR.out.1.below hSf, by rw [← huf]; exact (txs_setX (txs_setX ht hYl _ _) hYl _ _).rts, HBX.out _ hSf, hXf⟩
    subst ha0
    clear hsz s3 zm m0 m1 l1 l2 hu1 huf hX1 hXf hSf hYu hYl hXl hBf hkf hsf hb1 hY0 hS2 hS0 hS1 ht hb HCL HBX HR
    go_simp
    obtain ⟨⟨_, x0, x1⟩, f0, f1⟩ := boxD HF.out.2.2.2.1
    go_wp2_with fail
    refine (HDO.out _ HF.out.2.1).mono ?_
    rintro e y1 ⟨a, cp, rfl, ht, hb⟩
    obtain ⟨y2, y3, hy2, hy3, hX2, hX3, hbf⟩ := dk_param y1 (.slice a n1 cp) S
    clear x0 x1 f0 f1
    obtain ⟨⟨_, i0, i1⟩, j0, j1⟩ := boxD hX2
    have HG : Hid (Below uf.heap.size uf y3 ∧ Txs y3 uf.heap.size (.slice a n1 cp) N ∧ y3.heap[y1.heap.size]? = some (dkO (.slice a n1 cp) S)) := ⟨bsq hb hbf, ht.below hbf, hX3⟩
    clear HDO ht hb hX2 hX3 hbf
    obtain ⟨⟨_, x0, x1⟩, f0, f1⟩ := boxD (keep HF.out.2.2.2.1 HG.out.1)
    obtain ⟨⟨_, p0, p1⟩, _⟩ := boxD (keep HF.out.2.2.2.2 HG.out.1)
    have HSM : Hid (∀ u, Below uf.heap.size uf u → Calls Try.prog 6 #[dkV (.slice xa n0 xc) s0, dkV (.slice ca n0 cc) s0] u fun e w' => e = .returned (.bool true) ∧ Below u.heap.size u w') := fun u hb => by
      have := same_any _ _ l0 l0 s0 s0 u (HF.out.2.1.below hb) (HF.out.2.2.1.below hb)
      rw [decide_eq_true rfl, decide_eq_true rfl] at this
      exact this
    go_wp2_with fail
    refine (HSM.out _ HG.out.1).mono ?_
    rintro e y4 ⟨rfl, hb⟩
    replace HG : Hid (Below uf.heap.size uf y4 ∧ Txs y4 uf.heap.size (.slice a n1 cp) N ∧ y4.heap[y1.heap.size]? = some (dkO (.slice a n1 cp) S)) := ⟨bsq HG.out.1 hb, HG.out.2.1.below hb, keep HG.out.2.2 hb⟩
    clear hb x0 x1 f0 f1 p0 p1 i0 i1 j0 j1
    obtain ⟨⟨_, x0, x1⟩, f0, f1⟩ := boxD HG.out.2.2
    have HSP : Hid (Calls Try.prog 7 #[.slice a n1 cp] y4 fun e w' => e = .returned (.tuple #[]) ∧ Below uf.heap.size y4 w') := by
      refine (spoil_any _ _ y4 HG.out.2.1.ow.rm).mono ?_
      rintro e u ⟨he, hs⟩
      exact ⟨he, hs.below fun k hk q => by have := q.2; omega⟩
    go_wp2_with fail
    refine HSP.out.mono ?_
    rintro e y5 ⟨rfl, hb⟩
    have HH : Hid (Below uf.heap.size uf y5) := HG.out.1.trans hb
    clear hb HSP HG x0 x1 f0 f1
    go_wp2_with fail
    refine (HLV.out _).mono ?_
    rintro e y6 ⟨rfl, hb⟩
    replace HH : Hid (Below uf.heap.size uf y6) := bsq HH.out hb
    clear hb HLV
    obtain ⟨⟨_, x0, x1⟩, f0, f1⟩ := boxD (keep HF.out.2.2.2.1 HH.out)
    obtain ⟨⟨_, p0, p1⟩, _⟩ := boxD (keep HF.out.2.2.2.2 HH.out)
    go_wp2_with fail
    refine (HSM.out _ HH.out).mono ?_
    rintro e y7 ⟨rfl, hb⟩
    have HE : Hid (Below w.heap.size w y7) := bsq HF.out.1 (bsq HH.out hb)
    clear hb HSM HH HF
    go_wp2
    go_ret
    exact ⟨rfl, HE.out⟩
end Go.Proofs.Ytjmbklbobofciab.scsiOwn
