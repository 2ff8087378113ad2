/- ScsiMakes: the walk. -/
import Derived.Test.YtjmbklbobofciaaScsU
import Derived.Test.YtjmbklbobofciaaScsY
import Derived.Test.YtjmbklbobofciaaScsL
import Derived.Test.YtjmbklbobofciaaScsD
namespace Go.Proofs.Ytjmbklbobofciaa.scsiMakes
open Go.RowKit Go.PlainAid Go.Proofs.Ytjmbklbobofciaa.lane Go.Proofs.Ytjmbklbobofciaa.pipe Go.Proofs.Ytjmbklbobofciaa.strike Go.Proofs.Ytjmbklbobofciaa.scsi
set_option linter.unusedVariables false
set_option linter.unusedSimpArgs false
set_option maxRecDepth 100000

/-- what has been put together so far, in Y -/
def Mk3 (u : World) (Y B k : Nat) (wr : World) (v : Value) : Prop :=
  wr.heap[Y]? = some (dkO v 0) ∧ Txs wr B v (List.replicate k z16) ∧ Below u.heap.size u wr ∧ B ≤ wr.heap.size
theorem Mk3.below {u w w' : World} {Y B k : Nat} {v : Value} (h : Mk3 u Y B k w v) (hb : Below w.heap.size w w') : Mk3 u Y B k w' v :=
  ⟨keep h.1 hb, h.2.1.below hb, bsq h.2.2.1 hb, Nat.le_trans h.2.2.2 hb.size⟩
theorem Mk3.add {u w : World} {Y B k : Nat} {v : Value} (h : Mk3 u Y B k w v) (hw : u.heap.size ≤ Y) (hY : Y < B) (hk : k ≤ 1000) (F : Nat) (hF : w.heap[F]? = some (.cells #[.string z16] 9)) :
    ∃ v' w5, (Builtin.append_ #[22, 22] 22 #[v, .slice (some ⟨F, 0, none⟩) 1 1]).run Try.prog w = .ok v' w5 ∧ w5.heap[Y]? = some (dkO v 0) ∧ Mk3 u Y B (k + 1) (w5.setCell ⟨Y, 0, none⟩ v') v' := by
  obtain ⟨v', w5, hr, ht, hb⟩ := app_one h.2.1 F z16 hF (by rw [List.length_replicate]; omega) h.2.2.2
  have hY5 : w5.heap[Y]? = some (dkO v 0) := (hb.block Y hY).trans h.1
  refine ⟨v', w5, hr, hY5, csetX 0 _ hY5 rfl, ?_, ?_, ?_⟩
  · rw [List.replicate_succ']; exact txs_setX ht hY _ _
  · exact (h.2.2.1.trans (hb.mono (by omega))).setCell hw _
  · have := Nat.le_trans h.2.2.2 hb.size; simpa using this
set_option maxHeartbeats 8000000 in
theorem walk (a0 : Int) (x1 : Value) (l1 : List ByteArray) (s1 : Int) (a2 a3 a4 : Int) (w0 : (Lit.int .i64 a0).wf = true) (w2 : (Lit.int .i64 a2).wf = true) (w3 : (Lit.int .i64 a3).wf = true) (w4 : (Lit.int .i64 a4).wf = true) (w : World) (hp : Rts w x1 l1) :
    Calls Try.prog 3 #[.int .i64 a0, dkV x1 s1, .int .i64 a2, .int .i64 a3, .int .i64 a4] w fun e w' => e = .returned (.bool true) ∧ Below w.heap.size w w' := by
  clear w0 w2 w3 w4
  obtain ⟨T, hT⟩ : ∃ T, mkT a2 a3 a4 = T := ⟨_, rfl⟩
  obtain ⟨K, hK⟩ : ∃ K, mkC a2 a3 a4 = K := ⟨_, rfl⟩
  obtain ⟨Q, hQ⟩ : ∃ Q, chkC ⟨l1, s1⟩ = Q := ⟨_, rfl⟩
  have HM1 : Hid (∀ u, Calls Try.prog 12 #[.int .i64 a2, .int .i64 a3, .int .i64 a4] u fun e w' => e = .returned (.tuple #[.string T, .int .i64 K]) ∧ Below u.heap.size u w') := fun u => by
    have := make_any a2 a3 a4 u
    rw [hT, hK] at this
    exact this
  have HM2 : Hid (∀ u, Calls Try.prog 13 #[.int .i64 a2, .int .i64 a3, .int .i64 a4] u fun e w' => e = .returned (.tuple #[.string T, .int .i64 K]) ∧ Below u.heap.size u w') := fun u => by
    have := made_any a2 a3 a4 u
    rw [hT, hK] at this
    exact this
  have HC1 : Hid (∀ u, Rts u x1 l1 → Calls Try.prog 15 #[dkV x1 s1] u fun e w' => e = .returned (.int .i64 Q) ∧ Below u.heap.size u w') := fun u h => by
    have := check_any x1 l1 s1 u h
    rw [hQ] at this
    exact this
  have HC2 : Hid (∀ u, Rts u x1 l1 → Calls Try.prog 16 #[dkV x1 s1] u fun e w' => e = .returned (.int .i64 Q) ∧ Below u.heap.size u w') := fun u h => by
    have := diskRight_any x1 l1 s1 u h
    rw [hQ] at this
    exact this
  have HBW : Hid (∀ u, Calls Try.prog 10 #[.int .i64 a0, .int .i64 1, .int .i64 64] u fun e w' => e = .returned (.bool (decide (1 ≤ a0) && decide (a0 ≤ 64))) ∧ u = w') := fun u => between_any a0 1 64 u
  obtain ⟨xa, xc, rfl, _, _⟩ := rts_form hp
  obtain ⟨u0, hu0, hX0, hb0⟩ := dk_named w (.slice xa l1.length xc) s1
  obtain ⟨⟨_, x0, x1⟩, f0, f1⟩ := boxD hX0
  have HR : Hid (Rts u0 (.slice xa l1.length xc) l1 ∧ Below w.heap.size w u0 ∧ u0.heap[w.heap.size]? = some (dkO (.slice xa l1.length xc) s1)) := ⟨hp.below hb0, hb0, hX0⟩
  have HNW : Hid (∀ u, Calls Try.prog 9 #[.int .i64 a0] u fun e w' => ∃ v, e = .returned (.tuple #[dkV v 0, .int .i64 (if 1 ≤ a0 ∧ a0 ≤ 64 then 0 else 1)]) ∧ Txs w' u.heap.size v (if 1 ≤ a0 ∧ a0 ≤ 64 then List.replicate a0.toNat z16 else []) ∧ Below u.heap.size u w') := fun u => new_any a0 u
  clear hp hX0 hb0 hT hK hQ
  generalize l1.length = n1 at *
  by_cases hz : ¬ (1 ≤ a0 ∧ a0 ≤ 64)
  · rw [show (decide (1 ≤ a0) && decide (a0 ≤ 64)) = false by rw [Bool.and_eq_false_iff, decide_eq_false_iff_not, decide_eq_false_iff_not]; omega] at HBW
    rw [if_neg hz, if_neg hz] at HNW
    clear hz
    go_enter Try.func3, Try.ntmps3
    go_wp2_with fail
    refine (HNW.out _).mono ?_
    rintro e y1 ⟨v, rfl, ht, hb⟩
    obtain ⟨aa, ac, hv, _, _⟩ := ht.form
    rw [show ([]).length = 0 from rfl] at hv
    subst hv
    obtain ⟨y2, y3, hy2, hy3, hX2, hX3, hbf⟩ := dk_param y1 (.slice aa 0 ac) 0
    obtain ⟨⟨_, i0, i1⟩, j0, j1⟩ := boxD hX2
    obtain ⟨y4, y5, hy4, hy5, hX4, hX5, hbg⟩ := dk_param y3 (.slice none 0 0) 0
    obtain ⟨⟨_, k0, k1⟩, l1', l2'⟩ := boxD hX4
    have HA : Hid (Below w.heap.size w y3 ∧ Rts y3 (.slice aa 0 ac) ([]) ∧ y3.heap[y1.heap.size]? = some (dkO (.slice aa 0 ac) 0) ∧ Rts y3 (.slice xa n1 xc) l1 ∧ y3.heap[w.heap.size]? = some (dkO (.slice xa n1 xc) s1)) := ⟨bsq HR.out.2.1 (bsq hb hbf), ht.rts.below hbf, hX3, HR.out.1.below (bsq hb hbf), keep HR.out.2.2 (bsq hb hbf)⟩
    have HS : Hid (Below w.heap.size w y5 ∧ Rts y5 (.slice aa 0 ac) [] ∧ y5.heap[y1.heap.size]? = some (dkO (.slice aa 0 ac) 0) ∧ Rts y5 (.slice xa n1 xc) l1 ∧ y5.heap[w.heap.size]? = some (dkO (.slice xa n1 xc) s1) ∧ Rts y5 (.slice none 0 0) [] ∧ y5.heap[y3.heap.size]? = some (dkO (.slice none 0 0) 0)) := ⟨bsq HA.out.1 hbg, HA.out.2.1.below hbg, keep HA.out.2.2.1 hbg, HA.out.2.2.2.1.below hbg, keep HA.out.2.2.2.2 hbg, Rts.nil _, hX5⟩
    clear HNW HR HA ht hb hX2 hX3 hbf hX4 hX5 hbg x0 x1 f0 f1
    go_wp2_with fail
    refine (HBW.out _).mono ?_
    rintro e z0 ⟨rfl, rfl⟩
    clear HBW
    go_wp2_with fail
    refine (HM1.out _).mono ?_
    rintro e z1 ⟨rfl, hb⟩
    replace HS : Hid (Below w.heap.size w z1 ∧ Rts z1 (.slice aa 0 ac) ([]) ∧ z1.heap[y1.heap.size]? = some (dkO (.slice aa 0 ac) 0) ∧ Rts z1 (.slice xa n1 xc) l1 ∧ z1.heap[w.heap.size]? = some (dkO (.slice xa n1 xc) s1) ∧ Rts z1 (.slice none 0 0) ([]) ∧ z1.heap[y3.heap.size]? = some (dkO (.slice none 0 0) 0)) := ⟨bsq HS.out.1 hb, HS.out.2.1.below hb, keep HS.out.2.2.1 hb, HS.out.2.2.2.1.below hb, keep HS.out.2.2.2.2.1 hb, HS.out.2.2.2.2.2.1.below hb, keep HS.out.2.2.2.2.2.2 hb⟩
    clear hb HM1
    go_wp2_with fail
    refine (HM2.out _).mono ?_
    rintro e z2 ⟨rfl, hb⟩
    replace HS : Hid (Below w.heap.size w z2 ∧ Rts z2 (.slice aa 0 ac) ([]) ∧ z2.heap[y1.heap.size]? = some (dkO (.slice aa 0 ac) 0) ∧ Rts z2 (.slice xa n1 xc) l1 ∧ z2.heap[w.heap.size]? = some (dkO (.slice xa n1 xc) s1) ∧ Rts z2 (.slice none 0 0) ([]) ∧ z2.heap[y3.heap.size]? = some (dkO (.slice none 0 0) 0)) := ⟨bsq HS.out.1 hb, HS.out.2.1.below hb, keep HS.out.2.2.1 hb, HS.out.2.2.2.1.below hb, keep HS.out.2.2.2.2.1 hb, HS.out.2.2.2.2.2.1.below hb, keep HS.out.2.2.2.2.2.2 hb⟩
    clear hb HM2
    have hTT : (T.toList == T.toList) = true := by simp
    have HSM : Hid (∀ u, Below z2.heap.size z2 u → Calls Try.prog 14 #[dkV (.slice aa 0 ac) 0, dkV (.slice none 0 0) 0] u fun e w' => e = .returned (.bool true) ∧ Below u.heap.size u w') := fun u hb => by
      have := same_any _ _ ([]) ([]) 0 0 u (HS.out.2.1.below hb) (HS.out.2.2.2.2.2.1.below hb)
      rw [decide_eq_true rfl, decide_eq_true rfl] at this
      exact this
    have HXA : Hid (∀ W, Below z2.heap.size z2 W → W.heap[y1.heap.size]? = some (dkO (.slice aa 0 ac) 0)) := fun W hW => keep HS.out.2.2.1 hW
    have HXW : Hid (∀ W, Below z2.heap.size z2 W → W.heap[y3.heap.size]? = some (dkO (.slice none 0 0) 0)) := fun W hW => keep HS.out.2.2.2.2.2.2 hW
    have HXX : Hid (∀ W, Below z2.heap.size z2 W → W.heap[w.heap.size]? = some (dkO (.slice xa n1 xc) s1)) := fun W hW => keep HS.out.2.2.2.2.1 hW
    go_upto_region 11 with (fail)
    refine wp_abs (fun a0 => a0.tmps.size = 76 ∧ (∀ h, a0.tmps[6]'h = .pointer (some ⟨w.heap.size, 0, none⟩)) ∧ (∀ h, a0.tmps[11]'h = .pointer (some ⟨y1.heap.size, 0, none⟩)) ∧ (∀ h, a0.tmps[12]'h = .int .i64 1) ∧ (∀ h, a0.tmps[13]'h = .pointer (some ⟨y3.heap.size, 0, none⟩)) ∧ (∀ h, a0.tmps[14]'h = .int .i64 1) ∧ (∀ h, a0.tmps[15]'h = .string T) ∧ (∀ h, a0.tmps[16]'h = .int .i64 K) ∧ (∀ h, a0.tmps[17]'h = .string T) ∧ (∀ h, a0.tmps[18]'h = .int .i64 K)) ⟨rfl, fun _ => rfl, fun _ => rfl, fun _ => rfl, fun _ => rfl, fun _ => rfl, fun _ => rfl, fun _ => rfl, fun _ => rfl, fun _ => rfl⟩ ?_
    rintro a0' ⟨hsz, s6, s11, s12, s13, s14, s15, s16, s17, s18⟩ ha0
    refine wp_region_held (S := fun W => Below z2.heap.size z2 W) (by kernel_rfl) ?_
    have hS : Below z2.heap.size z2 z2.drew := (Below.refl _ _).drew
    refine h_take (i := 0) (dkV (.slice aa 0 ac) 0) rfl (by kernel_rfl) (by kernel_rfl) (by kernel_rfl) (fun _ _ _ h => h) rfl hS (fun W hW => by obtain ⟨⟨_, b0, b1⟩, _⟩ := boxD (HXA.out W hW); simp [execOp, go_sem, Act.put, hsz, s6, s11, s12, s13, s14, s15, s16, s17, s18, b0, b1]) ?_
    refine h_take (i := 1) (dkV (.slice none 0 0) 0) rfl (by kernel_rfl) (by kernel_rfl) (by kernel_rfl) (fun _ _ _ h => h) rfl hS (fun W hW => by obtain ⟨⟨_, b0, b1⟩, _⟩ := boxD (HXW.out W hW); simp [execOp, go_sem, Act.put, hsz, s6, s11, s12, s13, s14, s15, s16, s17, s18, b0, b1]) ?_
    refine h_call (i := 2) 14 #[dkV (.slice aa 0 ac) 0, dkV (.slice none 0 0) 0] rfl (by kernel_rfl) rfl (by simp [execOp, go_sem, Act.put, hsz, s6, s11, s12, s13, s14, s15, s16, s17, s18]) ((HSM.out _ hS).mono ?_)
    rintro e z3 ⟨rfl, hb⟩
    refine ⟨_, rfl, bsq hS hb, ?_⟩
    replace hS : Below z2.heap.size z2 z3 := bsq hS hb
    clear hb
    refine h_take (i := 3) (.bool true) rfl (by kernel_rfl) (by kernel_rfl) (by kernel_rfl) (fun _ _ _ h => h) rfl hS (fun W hW => by simp [execOp, go_sem, Act.put, hsz, s6, s11, s12, s13, s14, s15, s16, s17, s18]) ?_
    refine g_take (i := 4) (.int .i64 1) rfl (by kernel_rfl) (by kernel_rfl) (by kernel_rfl) (fun _ _ _ h => h) (by simp [Region.wanted, yielded, Act.put, hsz]) hS (fun W hW => by simp [execOp, go_sem, Act.put, hsz, s6, s11, s12, s13, s14, s15, s16, s17, s18, hTT]) ?_
    refine g_take (i := 5) (.int .i64 1) rfl (by kernel_rfl) (by kernel_rfl) (by kernel_rfl) (fun _ _ _ h => h) (by simp [Region.wanted, yielded, Act.put, hsz]) hS (fun W hW => by simp [execOp, go_sem, Act.put, hsz, s6, s11, s12, s13, s14, s15, s16, s17, s18, hTT]) ?_
    refine g_take (i := 6) (.bool true) rfl (by kernel_rfl) (by kernel_rfl) (by kernel_rfl) (fun _ _ _ h => h) (by simp [Region.wanted, yielded, Act.put, hsz]) hS (fun W hW => by simp [execOp, go_sem, Act.put, hsz, s6, s11, s12, s13, s14, s15, s16, s17, s18, hTT]) ?_
    refine h_take (i := 7) (.bool true) rfl (by kernel_rfl) (by kernel_rfl) (by kernel_rfl) (fun _ _ _ h => h) rfl hS (fun W hW => by simp [execOp, go_sem, Act.put, hsz, s6, s11, s12, s13, s14, s15, s16, s17, s18]) ?_
    refine h_take (i := 8) (.bool true) rfl (by kernel_rfl) (by kernel_rfl) (by kernel_rfl) (fun _ _ _ h => h) rfl hS (fun W hW => by simp [execOp, go_sem, Act.put, hsz, s6, s11, s12, s13, s14, s15, s16, s17, s18]) ?_
    refine g_take (i := 9) (.string T) rfl (by kernel_rfl) (by kernel_rfl) (by kernel_rfl) (fun _ _ _ h => h) (by simp [Region.wanted, yielded, Act.put, hsz]) hS (fun W hW => by simp [execOp, go_sem, Act.put, hsz, s6, s11, s12, s13, s14, s15, s16, s17, s18, hTT]) ?_
    refine g_take (i := 10) (.string T) rfl (by kernel_rfl) (by kernel_rfl) (by kernel_rfl) (fun _ _ _ h => h) (by simp [Region.wanted, yielded, Act.put, hsz]) hS (fun W hW => by simp [execOp, go_sem, Act.put, hsz, s6, s11, s12, s13, s14, s15, s16, s17, s18, hTT]) ?_
    refine g_take (i := 11) (.bool true) rfl (by kernel_rfl) (by kernel_rfl) (by kernel_rfl) (fun _ _ _ h => h) (by simp [Region.wanted, yielded, Act.put, hsz]) hS (fun W hW => by simp [execOp, go_sem, Act.put, hsz, s6, s11, s12, s13, s14, s15, s16, s17, s18, hTT]) ?_
    refine h_take (i := 12) (.bool true) rfl (by kernel_rfl) (by kernel_rfl) (by kernel_rfl) (fun _ _ _ h => h) rfl hS (fun W hW => by simp [execOp, go_sem, Act.put, hsz, s6, s11, s12, s13, s14, s15, s16, s17, s18]) ?_
    refine h_take (i := 13) (.bool true) rfl (by kernel_rfl) (by kernel_rfl) (by kernel_rfl) (fun _ _ _ h => h) rfl hS (fun W hW => by simp [execOp, go_sem, Act.put, hsz, s6, s11, s12, s13, s14, s15, s16, s17, s18]) ?_
    refine g_take (i := 14) (.int .i64 K) rfl (by kernel_rfl) (by kernel_rfl) (by kernel_rfl) (fun _ _ _ h => h) (by simp [Region.wanted, yielded, Act.put, hsz]) hS (fun W hW => by simp [execOp, go_sem, Act.put, hsz, s6, s11, s12, s13, s14, s15, s16, s17, s18, hTT]) ?_
    refine g_take (i := 15) (.int .i64 K) rfl (by kernel_rfl) (by kernel_rfl) (by kernel_rfl) (fun _ _ _ h => h) (by simp [Region.wanted, yielded, Act.put, hsz]) hS (fun W hW => by simp [execOp, go_sem, Act.put, hsz, s6, s11, s12, s13, s14, s15, s16, s17, s18, hTT]) ?_
    refine g_take (i := 16) (.bool true) rfl (by kernel_rfl) (by kernel_rfl) (by kernel_rfl) (fun _ _ _ h => h) (by simp [Region.wanted, yielded, Act.put, hsz]) hS (fun W hW => by simp [execOp, go_sem, Act.put, hsz, s6, s11, s12, s13, s14, s15, s16, s17, s18, hTT]) ?_
    refine h_take (i := 17) (.bool true) rfl (by kernel_rfl) (by kernel_rfl) (by kernel_rfl) (fun _ _ _ h => h) rfl hS (fun W hW => by simp [execOp, go_sem, Act.put, hsz, s6, s11, s12, s13, s14, s15, s16, s17, s18]) ?_
    refine h_take (i := 18) (.bool true) rfl (by kernel_rfl) (by kernel_rfl) (by kernel_rfl) (fun _ _ _ h => h) rfl hS (fun W hW => by simp [execOp, go_sem, Act.put, hsz, s6, s11, s12, s13, s14, s15, s16, s17, s18]) ?_
    refine g_take (i := 19) (dkV (.slice xa n1 xc) s1) rfl (by kernel_rfl) (by kernel_rfl) (by kernel_rfl) (fun _ _ _ h => h) (by simp [Region.wanted, yielded, Act.put, hsz]) hS (fun W hW => by obtain ⟨⟨_, b0, b1⟩, _⟩ := boxD (HXX.out W hW); simp [execOp, go_sem, Act.put, hsz, s6, s11, s12, s13, s14, s15, s16, s17, s18, b0, b1, hTT]) ?_
    refine g_take (i := 21) (dkV (.slice xa n1 xc) s1) rfl (by kernel_rfl) (by kernel_rfl) (by kernel_rfl) (fun _ _ _ h => h) (by simp [Region.wanted, yielded, Act.put, hsz]) hS (fun W hW => by obtain ⟨⟨_, b0, b1⟩, _⟩ := boxD (HXX.out W hW); simp [execOp, go_sem, Act.put, hsz, s6, s11, s12, s13, s14, s15, s16, s17, s18, b0, b1, hTT]) ?_
    refine g_call (i := 20) 15 #[dkV (.slice xa n1 xc) s1] rfl (by kernel_rfl) (by simp [Region.wanted, yielded, Act.put, hsz]) (by simp [execOp, go_sem, Act.put, hsz, s6, s11, s12, s13, s14, s15, s16, s17, s18]) ((HC1.out _ (HS.out.2.2.2.1.below hS)).mono ?_)
    rintro e z20 ⟨rfl, hb⟩
    refine ⟨_, rfl, bsq hS hb, ?_⟩
    replace hS : Below z2.heap.size z2 z20 := bsq hS hb
    clear hb
    refine g_call (i := 22) 16 #[dkV (.slice xa n1 xc) s1] rfl (by kernel_rfl) (by simp [Region.wanted, yielded, Act.put, hsz]) (by simp [execOp, go_sem, Act.put, hsz, s6, s11, s12, s13, s14, s15, s16, s17, s18]) ((HC2.out _ (HS.out.2.2.2.1.below hS)).mono ?_)
    rintro e z22 ⟨rfl, hb⟩
    refine ⟨_, rfl, bsq hS hb, ?_⟩
    replace hS : Below z2.heap.size z2 z22 := bsq hS hb
    clear hb
    refine g_take (i := 23) (.bool true) rfl (by kernel_rfl) (by kernel_rfl) (by kernel_rfl) (fun _ _ _ h => h) (by simp [Region.wanted, yielded, Act.put, hsz]) hS (fun W hW => by simp [execOp, go_sem, Act.put, hsz, s6, s11, s12, s13, s14, s15, s16, s17, s18, hTT]) ?_
    refine h_take (i := 24) (.bool true) rfl (by kernel_rfl) (by kernel_rfl) (by kernel_rfl) (fun _ _ _ h => h) rfl hS (fun W hW => by simp [execOp, go_sem, Act.put, hsz, s6, s11, s12, s13, s14, s15, s16, s17, s18]) ?_
    refine h_take (i := 25) (.bool true) rfl (by kernel_rfl) (by kernel_rfl) (by kernel_rfl) (fun _ _ _ h => h) rfl hS (fun W hW => by simp [execOp, go_sem, Act.put, hsz, s6, s11, s12, s13, s14, s15, s16, s17, s18]) ?_
    refine wpAnyH_done (by kernel_rfl) ?_ _
    have HE : Hid (Below w.heap.size w z22) := bsq HS.out.1 hS
    subst ha0
    clear hsz s6 s11 s12 s13 s14 s15 s16 s17 s18 hS HS HSM HXA HXW HXX HC1 HC2 hTT
    go_simp
    go_wp2
    go_ret
    exact ⟨rfl, HE.out⟩
  have hz : 1 ≤ a0 ∧ a0 ≤ 64 := Classical.not_not.1 hz
  rw [show (decide (1 ≤ a0) && decide (a0 ≤ 64)) = true by rw [Bool.and_eq_true, decide_eq_true_eq, decide_eq_true_eq]; omega] at HBW
  rw [if_pos hz, if_pos hz] at HNW
  obtain ⟨n, rfl⟩ : ∃ n : Nat, a0 = (n : Int) := ⟨a0.toNat, by omega⟩
  rw [Int.toNat_natCast] at HNW
  have hn1 : 1 ≤ n := by omega
  have hn2 : n ≤ 64 := by omega
  clear hz
  go_enter Try.func3, Try.ntmps3
  go_wp2_with fail
  refine (HNW.out _).mono ?_
  rintro e y1 ⟨v, rfl, ht, hb⟩
  obtain ⟨aa, ac, hv, _, _⟩ := ht.form
  rw [show (List.replicate n z16).length = n from List.length_replicate ..] at hv
  subst hv
  obtain ⟨y2, y3, hy2, hy3, hX2, hX3, hbf⟩ := dk_param y1 (.slice aa n ac) 0
  obtain ⟨⟨_, i0, i1⟩, j0, j1⟩ := boxD hX2
  obtain ⟨y4, y5, hy4, hy5, hX4, hX5, hbg⟩ := dk_param y3 (.slice none 0 0) 0
  obtain ⟨⟨_, k0, k1⟩, l1', l2'⟩ := boxD hX4
  have HA : Hid (Below w.heap.size w y3 ∧ Rts y3 (.slice aa n ac) (List.replicate n z16) ∧ y3.heap[y1.heap.size]? = some (dkO (.slice aa n ac) 0) ∧ Rts y3 (.slice xa n1 xc) l1 ∧ y3.heap[w.heap.size]? = some (dkO (.slice xa n1 xc) s1)) := ⟨bsq HR.out.2.1 (bsq hb hbf), ht.rts.below hbf, hX3, HR.out.1.below (bsq hb hbf), keep HR.out.2.2 (bsq hb hbf)⟩
  have HM : Hid (Mk3 y3 y3.heap.size y4.heap.size 0 y5 (.slice none 0 0)) := ⟨hX5, Txs.nil _ _, hbg, by rw [← hy5]; simp⟩
  have hlt4 : y3.heap.size < y4.heap.size := (Array.getElem?_eq_some_iff.1 hX4).1
  clear HNW HR ht hb hX2 hX3 hbf hX5 hbg x0 x1 f0 f1
  have hX4' := hX4
  clear hX4
  go_wp2_with fail
  refine (HBW.out _).mono ?_
  rintro e z0 ⟨rfl, rfl⟩
  clear HBW
  go_wp2_with fail
  clear i0 i1 j0 j1 k0 k1 l1' l2' hX4'
  go_loopw [28] (fun i wr => ∃ k : Nat, k ≤ n ∧ i = .int .i64 (k : Int) ∧ ∃ v, Hid (Mk3 y3 y3.heap.size y4.heap.size k wr v)) (fun i _ => n - (intOf i).toNat)
  case atStart => exact ⟨0, Nat.zero_le _, rfl, _, HM.out⟩
  case round =>
    obtain ⟨k, hk, rfl, v, HRr⟩ := hrel
    obtain ⟨va, vc, hv, _, _⟩ := HRr.out.2.1.form
    rw [List.length_replicate] at hv
    subst hv
    clear HM
    by_cases hlt : ¬ k < n
    · obtain rfl : k = n := by omega
      have hq := HRr.out
      have HS : Hid (Below w.heap.size w wr ∧ Rts wr (.slice aa k ac) (List.replicate k z16) ∧ wr.heap[y1.heap.size]? = some (dkO (.slice aa k ac) 0) ∧ Rts wr (.slice xa n1 xc) l1 ∧ wr.heap[w.heap.size]? = some (dkO (.slice xa n1 xc) s1) ∧ Rts wr (.slice va k vc) (List.replicate k z16) ∧ wr.heap[y3.heap.size]? = some (dkO (.slice va k vc) 0)) := ⟨bsq HA.out.1 hq.2.2.1, HA.out.2.1.below hq.2.2.1, keep HA.out.2.2.1 hq.2.2.1, HA.out.2.2.2.1.below hq.2.2.1, keep HA.out.2.2.2.2 hq.2.2.1, hq.2.1.rts, hq.1⟩
      clear HA HRr hq
      go_wp2_with fail
      refine (HM1.out _).mono ?_
      rintro e z1 ⟨rfl, hb⟩
      replace HS : Hid (Below w.heap.size w z1 ∧ Rts z1 (.slice aa k ac) (List.replicate k z16) ∧ z1.heap[y1.heap.size]? = some (dkO (.slice aa k ac) 0) ∧ Rts z1 (.slice xa n1 xc) l1 ∧ z1.heap[w.heap.size]? = some (dkO (.slice xa n1 xc) s1) ∧ Rts z1 (.slice va k vc) (List.replicate k z16) ∧ z1.heap[y3.heap.size]? = some (dkO (.slice va k vc) 0)) := ⟨bsq HS.out.1 hb, HS.out.2.1.below hb, keep HS.out.2.2.1 hb, HS.out.2.2.2.1.below hb, keep HS.out.2.2.2.2.1 hb, HS.out.2.2.2.2.2.1.below hb, keep HS.out.2.2.2.2.2.2 hb⟩
      clear hb HM1
      go_wp2_with fail
      refine (HM2.out _).mono ?_
      rintro e z2 ⟨rfl, hb⟩
      replace HS : Hid (Below w.heap.size w z2 ∧ Rts z2 (.slice aa k ac) (List.replicate k z16) ∧ z2.heap[y1.heap.size]? = some (dkO (.slice aa k ac) 0) ∧ Rts z2 (.slice xa n1 xc) l1 ∧ z2.heap[w.heap.size]? = some (dkO (.slice xa n1 xc) s1) ∧ Rts z2 (.slice va k vc) (List.replicate k z16) ∧ z2.heap[y3.heap.size]? = some (dkO (.slice va k vc) 0)) := ⟨bsq HS.out.1 hb, HS.out.2.1.below hb, keep HS.out.2.2.1 hb, HS.out.2.2.2.1.below hb, keep HS.out.2.2.2.2.1 hb, HS.out.2.2.2.2.2.1.below hb, keep HS.out.2.2.2.2.2.2 hb⟩
      clear hb HM2
      have hTT : (T.toList == T.toList) = true := by simp
      have HSM : Hid (∀ u, Below z2.heap.size z2 u → Calls Try.prog 14 #[dkV (.slice aa k ac) 0, dkV (.slice va k vc) 0] u fun e w' => e = .returned (.bool true) ∧ Below u.heap.size u w') := fun u hb => by
        have := same_any _ _ (List.replicate k z16) (List.replicate k z16) 0 0 u (HS.out.2.1.below hb) (HS.out.2.2.2.2.2.1.below hb)
        rw [decide_eq_true rfl, decide_eq_true rfl] at this
        exact this
      have HXA : Hid (∀ W, Below z2.heap.size z2 W → W.heap[y1.heap.size]? = some (dkO (.slice aa k ac) 0)) := fun W hW => keep HS.out.2.2.1 hW
      have HXW : Hid (∀ W, Below z2.heap.size z2 W → W.heap[y3.heap.size]? = some (dkO (.slice va k vc) 0)) := fun W hW => keep HS.out.2.2.2.2.2.2 hW
      have HXX : Hid (∀ W, Below z2.heap.size z2 W → W.heap[w.heap.size]? = some (dkO (.slice xa n1 xc) s1)) := fun W hW => keep HS.out.2.2.2.2.1 hW
      go_upto_region 11 with (fail)
      refine wp_abs (fun a0 => a0.tmps.size = 76 ∧ (∀ h, a0.tmps[6]'h = .pointer (some ⟨w.heap.size, 0, none⟩)) ∧ (∀ h, a0.tmps[11]'h = .pointer (some ⟨y1.heap.size, 0, none⟩)) ∧ (∀ h, a0.tmps[12]'h = .int .i64 0) ∧ (∀ h, a0.tmps[13]'h = .pointer (some ⟨y3.heap.size, 0, none⟩)) ∧ (∀ h, a0.tmps[14]'h = .int .i64 0) ∧ (∀ h, a0.tmps[15]'h = .string T) ∧ (∀ h, a0.tmps[16]'h = .int .i64 K) ∧ (∀ h, a0.tmps[17]'h = .string T) ∧ (∀ h, a0.tmps[18]'h = .int .i64 K)) ⟨rfl, fun _ => rfl, fun _ => rfl, fun _ => rfl, fun _ => rfl, fun _ => rfl, fun _ => rfl, fun _ => rfl, fun _ => rfl, fun _ => rfl⟩ ?_
      rintro a0' ⟨hsz, s6, s11, s12, s13, s14, s15, s16, s17, s18⟩ ha0
      refine wp_region_held (S := fun W => Below z2.heap.size z2 W) (by kernel_rfl) ?_
      have hS : Below z2.heap.size z2 z2.drew := (Below.refl _ _).drew
      refine h_take (i := 0) (dkV (.slice aa k ac) 0) rfl (by kernel_rfl) (by kernel_rfl) (by kernel_rfl) (fun _ _ _ h => h) rfl hS (fun W hW => by obtain ⟨⟨_, b0, b1⟩, _⟩ := boxD (HXA.out W hW); simp [execOp, go_sem, Act.put, hsz, s6, s11, s12, s13, s14, s15, s16, s17, s18, b0, b1]) ?_
      refine h_take (i := 1) (dkV (.slice va k vc) 0) rfl (by kernel_rfl) (by kernel_rfl) (by kernel_rfl) (fun _ _ _ h => h) rfl hS (fun W hW => by obtain ⟨⟨_, b0, b1⟩, _⟩ := boxD (HXW.out W hW); simp [execOp, go_sem, Act.put, hsz, s6, s11, s12, s13, s14, s15, s16, s17, s18, b0, b1]) ?_
      refine h_call (i := 2) 14 #[dkV (.slice aa k ac) 0, dkV (.slice va k vc) 0] rfl (by kernel_rfl) rfl (by simp [execOp, go_sem, Act.put, hsz, s6, s11, s12, s13, s14, s15, s16, s17, s18]) ((HSM.out _ hS).mono ?_)
      rintro e z3 ⟨rfl, hb⟩
      refine ⟨_, rfl, bsq hS hb, ?_⟩
      replace hS : Below z2.heap.size z2 z3 := bsq hS hb
      clear hb
      refine h_take (i := 3) (.bool true) rfl (by kernel_rfl) (by kernel_rfl) (by kernel_rfl) (fun _ _ _ h => h) rfl hS (fun W hW => by simp [execOp, go_sem, Act.put, hsz, s6, s11, s12, s13, s14, s15, s16, s17, s18]) ?_
      refine g_take (i := 4) (.int .i64 0) rfl (by kernel_rfl) (by kernel_rfl) (by kernel_rfl) (fun _ _ _ h => h) (by simp [Region.wanted, yielded, Act.put, hsz]) hS (fun W hW => by simp [execOp, go_sem, Act.put, hsz, s6, s11, s12, s13, s14, s15, s16, s17, s18, hTT]) ?_
      refine g_take (i := 5) (.int .i64 0) rfl (by kernel_rfl) (by kernel_rfl) (by kernel_rfl) (fun _ _ _ h => h) (by simp [Region.wanted, yielded, Act.put, hsz]) hS (fun W hW => by simp [execOp, go_sem, Act.put, hsz, s6, s11, s12, s13, s14, s15, s16, s17, s18, hTT]) ?_
      refine g_take (i := 6) (.bool true) rfl (by kernel_rfl) (by kernel_rfl) (by kernel_rfl) (fun _ _ _ h => h) (by simp [Region.wanted, yielded, Act.put, hsz]) hS (fun W hW => by simp [execOp, go_sem, Act.put, hsz, s6, s11, s12, s13, s14, s15, s16, s17, s18, hTT]) ?_
      refine h_take (i := 7) (.bool true) rfl (by kernel_rfl) (by kernel_rfl) (by kernel_rfl) (fun _ _ _ h => h) rfl hS (fun W hW => by simp [execOp, go_sem, Act.put, hsz, s6, s11, s12, s13, s14, s15, s16, s17, s18]) ?_
      refine h_take (i := 8) (.bool true) rfl (by kernel_rfl) (by kernel_rfl) (by kernel_rfl) (fun _ _ _ h => h) rfl hS (fun W hW => by simp [execOp, go_sem, Act.put, hsz, s6, s11, s12, s13, s14, s15, s16, s17, s18]) ?_
      refine g_take (i := 9) (.string T) rfl (by kernel_rfl) (by kernel_rfl) (by kernel_rfl) (fun _ _ _ h => h) (by simp [Region.wanted, yielded, Act.put, hsz]) hS (fun W hW => by simp [execOp, go_sem, Act.put, hsz, s6, s11, s12, s13, s14, s15, s16, s17, s18, hTT]) ?_
      refine g_take (i := 10) (.string T) rfl (by kernel_rfl) (by kernel_rfl) (by kernel_rfl) (fun _ _ _ h => h) (by simp [Region.wanted, yielded, Act.put, hsz]) hS (fun W hW => by simp [execOp, go_sem, Act.put, hsz, s6, s11, s12, s13, s14, s15, s16, s17, s18, hTT]) ?_
      refine g_take (i := 11) (.bool true) rfl (by kernel_rfl) (by kernel_rfl) (by kernel_rfl) (fun _ _ _ h => h) (by simp [Region.wanted, yielded, Act.put, hsz]) hS (fun W hW => by simp [execOp, go_sem, Act.put, hsz, s6, s11, s12, s13, s14, s15, s16, s17, s18, hTT]) ?_
      refine h_take (i := 12) (.bool true) rfl (by kernel_rfl) (by kernel_rfl) (by kernel_rfl) (fun _ _ _ h => h) rfl hS (fun W hW => by simp [execOp, go_sem, Act.put, hsz, s6, s11, s12, s13, s14, s15, s16, s17, s18]) ?_
      refine h_take (i := 13) (.bool true) rfl (by kernel_rfl) (by kernel_rfl) (by kernel_rfl) (fun _ _ _ h => h) rfl hS (fun W hW => by simp [execOp, go_sem, Act.put, hsz, s6, s11, s12, s13, s14, s15, s16, s17, s18]) ?_
      refine g_take (i := 14) (.int .i64 K) rfl (by kernel_rfl) (by kernel_rfl) (by kernel_rfl) (fun _ _ _ h => h) (by simp [Region.wanted, yielded, Act.put, hsz]) hS (fun W hW => by simp [execOp, go_sem, Act.put, hsz, s6, s11, s12, s13, s14, s15, s16, s17, s18, hTT]) ?_
      refine g_take (i := 15) (.int .i64 K) rfl (by kernel_rfl) (by kernel_rfl) (by kernel_rfl) (fun _ _ _ h => h) (by simp [Region.wanted, yielded, Act.put, hsz]) hS (fun W hW => by simp [execOp, go_sem, Act.put, hsz, s6, s11, s12, s13, s14, s15, s16, s17, s18, hTT]) ?_
      refine g_take (i := 16) (.bool true) rfl (by kernel_rfl) (by kernel_rfl) (by kernel_rfl) (fun _ _ _ h => h) (by simp [Region.wanted, yielded, Act.put, hsz]) hS (fun W hW => by simp [execOp, go_sem, Act.put, hsz, s6, s11, s12, s13, s14, s15, s16, s17, s18, hTT]) ?_
      refine h_take (i := 17) (.bool true) rfl (by kernel_rfl) (by kernel_rfl) (by kernel_rfl) (fun _ _ _ h => h) rfl hS (fun W hW => by simp [execOp, go_sem, Act.put, hsz, s6, s11, s12, s13, s14, s15, s16, s17, s18]) ?_
      refine h_take (i := 18) (.bool true) rfl (by kernel_rfl) (by kernel_rfl) (by kernel_rfl) (fun _ _ _ h => h) rfl hS (fun W hW => by simp [execOp, go_sem, Act.put, hsz, s6, s11, s12, s13, s14, s15, s16, s17, s18]) ?_
      refine g_take (i := 19) (dkV (.slice xa n1 xc) s1) rfl (by kernel_rfl) (by kernel_rfl) (by kernel_rfl) (fun _ _ _ h => h) (by simp [Region.wanted, yielded, Act.put, hsz]) hS (fun W hW => by obtain ⟨⟨_, b0, b1⟩, _⟩ := boxD (HXX.out W hW); simp [execOp, go_sem, Act.put, hsz, s6, s11, s12, s13, s14, s15, s16, s17, s18, b0, b1, hTT]) ?_
      refine g_take (i := 21) (dkV (.slice xa n1 xc) s1) rfl (by kernel_rfl) (by kernel_rfl) (by kernel_rfl) (fun _ _ _ h => h) (by simp [Region.wanted, yielded, Act.put, hsz]) hS (fun W hW => by obtain ⟨⟨_, b0, b1⟩, _⟩ := boxD (HXX.out W hW); simp [execOp, go_sem, Act.put, hsz, s6, s11, s12, s13, s14, s15, s16, s17, s18, b0, b1, hTT]) ?_
      refine g_call (i := 20) 15 #[dkV (.slice xa n1 xc) s1] rfl (by kernel_rfl) (by simp [Region.wanted, yielded, Act.put, hsz]) (by simp [execOp, go_sem, Act.put, hsz, s6, s11, s12, s13, s14, s15, s16, s17, s18]) ((HC1.out _ (HS.out.2.2.2.1.below hS)).mono ?_)
      rintro e z20 ⟨rfl, hb⟩
      refine ⟨_, rfl, bsq hS hb, ?_⟩
      replace hS : Below z2.heap.size z2 z20 := bsq hS hb
      clear hb
      refine g_call (i := 22) 16 #[dkV (.slice xa n1 xc) s1] rfl (by kernel_rfl) (by simp [Region.wanted, yielded, Act.put, hsz]) (by simp [execOp, go_sem, Act.put, hsz, s6, s11, s12, s13, s14, s15, s16, s17, s18]) ((HC2.out _ (HS.out.2.2.2.1.below hS)).mono ?_)
      rintro e z22 ⟨rfl, hb⟩
      refine ⟨_, rfl, bsq hS hb, ?_⟩
      replace hS : Below z2.heap.size z2 z22 := bsq hS hb
      clear hb
      refine g_take (i := 23) (.bool true) rfl (by kernel_rfl) (by kernel_rfl) (by kernel_rfl) (fun _ _ _ h => h) (by simp [Region.wanted, yielded, Act.put, hsz]) hS (fun W hW => by simp [execOp, go_sem, Act.put, hsz, s6, s11, s12, s13, s14, s15, s16, s17, s18, hTT]) ?_
      refine h_take (i := 24) (.bool true) rfl (by kernel_rfl) (by kernel_rfl) (by kernel_rfl) (fun _ _ _ h => h) rfl hS (fun W hW => by simp [execOp, go_sem, Act.put, hsz, s6, s11, s12, s13, s14, s15, s16, s17, s18]) ?_
      refine h_take (i := 25) (.bool true) rfl (by kernel_rfl) (by kernel_rfl) (by kernel_rfl) (fun _ _ _ h => h) rfl hS (fun W hW => by simp [execOp, go_sem, Act.put, hsz, s6, s11, s12, s13, s14, s15, s16, s17, s18]) ?_
      refine wpAnyH_done (by kernel_rfl) ?_ _
      have HE : Hid (Below w.heap.size w z22) := bsq HS.out.1 hS
      subst ha0
      clear hsz s6 s11 s12 s13 s14 s15 s16 s17 s18 hS HS HSM HXA HXW HXX HC1 HC2 hTT
      go_simp
      go_wp2
      go_ret
      exact ⟨rfl, HE.out⟩
    · have hlt : k < n := Classical.not_not.1 hlt
      have hlt2 : (k : Int) < (n : Int) := by omega
      have HREP : Hid (∀ u, Calls Try.prog 11 #[.string ⟨#[0]⟩, .int .i64 16] u fun e w' => e = .returned (.string z16) ∧ Below u.heap.size u w') := fun u => repeat_any u
      clear HC1 HC2 HM1 HM2 HA
      go_upto_region 7 with (fail)
      refine wp_abs (fun a0 => a0.tmps.size = 76 ∧ (∀ h, a0.tmps[13]'h = .pointer (some ⟨y3.heap.size, 0, none⟩))) ⟨rfl, fun _ => rfl⟩ ?_
      rintro a0' ⟨hsz, s13⟩ ha0
      refine wp_region_held (S := fun W => True) (by kernel_rfl) ?_
      have hS0 : True := trivial
      refine h_take (i := 0) (.pointer (some ⟨y3.heap.size, 0, none⟩)) rfl (by kernel_rfl) (by kernel_rfl) (by kernel_rfl) (fun _ _ _ h => h) rfl hS0 (fun W hW => by simp [execOp, go_sem, Act.put, hsz, s13]) ?_
      obtain ⟨⟨zy, p0, p1⟩, _⟩ := boxD HRr.out.1
      refine h_two 1 2 (by kernel_rfl) ?_ ?_
      · refine o_value (w' := wr.drew) (.slice va k vc) rfl rfl (by simp [execOp, go_sem, Act.put, hsz, s13, p0]) ⟨hS0, ?_⟩
        refine h_call (i := 2) 11 #[.string ⟨#[0]⟩, .int .i64 16] rfl (by kernel_rfl) rfl (by simp [execOp, go_sem, Act.put, hsz, s13]) ((HREP.out _).mono ?_)
        rintro e u ⟨rfl, hb⟩
        refine ⟨_, rfl, hS0, ?_⟩
        have hMu : Mk3 y3 y3.heap.size y4.heap.size k u (.slice va k vc) := (HRr.out.below (Below.refl _ _).drew).below hb
        obtain ⟨w4, hw4⟩ : ∃ w4, u.alloc (.cells #[.string z16] 9) = w4 := ⟨_, rfl⟩
        have hM4 : Mk3 y3 y3.heap.size y4.heap.size k w4 (.slice va k vc) := by rw [← hw4]; exact hMu.below (balloc _ _)
        obtain ⟨v', w5, hrun, hY5, hM6⟩ := hM4.add (Nat.le_refl _) hlt4 (by omega) u.heap.size (by rw [← hw4]; exact (MapKept.heap_alloc u _).1)
        obtain ⟨w6, hw6⟩ : ∃ w6, w5.setCell ⟨y3.heap.size, 0, none⟩ v' = w6 := ⟨_, rfl⟩
        rw [hw6] at hM6
        obtain ⟨nb, nd, rfl, _, _⟩ := hM6.2.1.form
        obtain ⟨⟨zm, m0, m1⟩, n0', n1'⟩ := boxD hY5
        have HE : Hid (Mk3 y3 y3.heap.size y4.heap.size (k + 1) w6 (.slice nb (List.replicate (k + 1) z16).length nd)) := hM6
        refine h_value (i := 3) (w' := w4) (.slice (some ⟨u.heap.size, 0, none⟩) 1 1) rfl (by kernel_rfl) rfl (by rw [← hw4]; simp [execOp, go_sem, Act.put, hsz, s13]) hS0 ?_
        refine h_value (i := 4) (w' := w5) _ rfl (by kernel_rfl) rfl (run_append_op (.tmp 31) (.tmp 33) 22 rfl (.slice va k vc) (.slice (some ⟨u.heap.size, 0, none⟩) 1 1) _ (by simp [go_sem, Act.put, hsz]) (by simp [go_sem, Act.put, hsz]) hrun) hS0 ?_
        refine h_take (i := 5) (.pointer (some ⟨y3.heap.size, 0, none⟩)) rfl (by kernel_rfl) (by kernel_rfl) (by kernel_rfl) (fun _ _ _ h => h) rfl hS0 (fun W hW => by simp [execOp, go_sem, Act.put, hsz, s13]) ?_
        refine h_skip (i := 6) (w' := w6) rfl (by kernel_rfl) rfl (by rw [← hw6]; simp [execOp, go_sem, Act.put, hsz, s13, zm, m0, m1, n0', n1']) hS0 ?_
        refine wpAnyH_done (by kernel_rfl) ?_ _
        subst ha0
        clear hsz s13 m0 m1 zm n0' n1' hw4 hw6 hrun hM4 hM6 hMu hb HRr HREP hY5
        go_simp
        go_wp2_with fail
        go_roundw
        case rel => exact ⟨k + 1, by omega, by go_num, _, HE.out⟩
        case measure => simp [intOf]; omega
      · refine o_call 11 #[.string ⟨#[0]⟩, .int .i64 16] rfl rfl (by simp [execOp, go_sem, Act.put, hsz, s13]) ((HREP.out _).mono ?_)
        rintro e u ⟨rfl, hb⟩
        refine ⟨_, rfl, hS0, ?_⟩
        have hMu : Mk3 y3 y3.heap.size y4.heap.size k u (.slice va k vc) := (HRr.out.below (Below.refl _ _).drew).below hb
        obtain ⟨⟨zu, t0, t1⟩, _⟩ := boxD hMu.1
        obtain ⟨w4, hw4⟩ : ∃ w4, u.alloc (.cells #[.string z16] 9) = w4 := ⟨_, rfl⟩
        have hM4 : Mk3 y3 y3.heap.size y4.heap.size k w4 (.slice va k vc) := by rw [← hw4]; exact hMu.below (balloc _ _)
        obtain ⟨v', w5, hrun, hY5, hM6⟩ := hM4.add (Nat.le_refl _) hlt4 (by omega) u.heap.size (by rw [← hw4]; exact (MapKept.heap_alloc u _).1)
        obtain ⟨w6, hw6⟩ : ∃ w6, w5.setCell ⟨y3.heap.size, 0, none⟩ v' = w6 := ⟨_, rfl⟩
        rw [hw6] at hM6
        obtain ⟨nb, nd, rfl, _, _⟩ := hM6.2.1.form
        obtain ⟨⟨zm, m0, m1⟩, n0', n1'⟩ := boxD hY5
        have HE : Hid (Mk3 y3 y3.heap.size y4.heap.size (k + 1) w6 (.slice nb (List.replicate (k + 1) z16).length nd)) := hM6
        obtain ⟨⟨zv, r0, r1⟩, _⟩ := boxD hM4.1
        refine h_two 1 3 (by kernel_rfl) ?_ ?_
        · refine o_value (w' := u) (.slice va k vc) rfl rfl (by simp [execOp, go_sem, Act.put, hsz, s13, t0]) ⟨hS0, ?_⟩
          refine h_value (i := 3) (w' := w4) (.slice (some ⟨u.heap.size, 0, none⟩) 1 1) rfl (by kernel_rfl) rfl (by rw [← hw4]; simp [execOp, go_sem, Act.put, hsz, s13]) hS0 ?_
          refine h_value (i := 4) (w' := w5) _ rfl (by kernel_rfl) rfl (run_append_op (.tmp 31) (.tmp 33) 22 rfl (.slice va k vc) (.slice (some ⟨u.heap.size, 0, none⟩) 1 1) _ (by simp [go_sem, Act.put, hsz]) (by simp [go_sem, Act.put, hsz]) hrun) hS0 ?_
          refine h_take (i := 5) (.pointer (some ⟨y3.heap.size, 0, none⟩)) rfl (by kernel_rfl) (by kernel_rfl) (by kernel_rfl) (fun _ _ _ h => h) rfl hS0 (fun W hW => by simp [execOp, go_sem, Act.put, hsz, s13]) ?_
          refine h_skip (i := 6) (w' := w6) rfl (by kernel_rfl) rfl (by rw [← hw6]; simp [execOp, go_sem, Act.put, hsz, s13, zm, m0, m1, n0', n1']) hS0 ?_
          refine wpAnyH_done (by kernel_rfl) ?_ _
          subst ha0
          clear hsz s13 m0 m1 zm n0' n1' hw4 hw6 hrun hM4 hM6 hMu hb HRr HREP hY5
          go_simp
          go_wp2_with fail
          go_roundw
          case rel => exact ⟨k + 1, by omega, by go_num, _, HE.out⟩
          case measure => simp [intOf]; omega
        · refine o_value (w' := w4) (.slice (some ⟨u.heap.size, 0, none⟩) 1 1) rfl rfl (by rw [← hw4]; simp [execOp, go_sem, Act.put, hsz, s13]) ⟨hS0, ?_⟩
          refine h_value (i := 1) (w' := w4) (.slice va k vc) rfl (by kernel_rfl) rfl (by simp [execOp, go_sem, Act.put, hsz, s13, r0]) hS0 ?_
          refine h_value (i := 4) (w' := w5) _ rfl (by kernel_rfl) rfl (run_append_op (.tmp 31) (.tmp 33) 22 rfl (.slice va k vc) (.slice (some ⟨u.heap.size, 0, none⟩) 1 1) _ (by simp [go_sem, Act.put, hsz]) (by simp [go_sem, Act.put, hsz]) hrun) hS0 ?_
          refine h_take (i := 5) (.pointer (some ⟨y3.heap.size, 0, none⟩)) rfl (by kernel_rfl) (by kernel_rfl) (by kernel_rfl) (fun _ _ _ h => h) rfl hS0 (fun W hW => by simp [execOp, go_sem, Act.put, hsz, s13]) ?_
          refine h_skip (i := 6) (w' := w6) rfl (by kernel_rfl) rfl (by rw [← hw6]; simp [execOp, go_sem, Act.put, hsz, s13, zm, m0, m1, n0', n1']) hS0 ?_
          refine wpAnyH_done (by kernel_rfl) ?_ _
          subst ha0
          clear hsz s13 m0 m1 zm n0' n1' hw4 hw6 hrun hM4 hM6 hMu hb HRr HREP hY5
          go_simp
          go_wp2_with fail
          go_roundw
          case rel => exact ⟨k + 1, by omega, by go_num, _, HE.out⟩
          case measure => simp [intOf]; omega
end Go.Proofs.Ytjmbklbobofciaa.scsiMakes
