/- StrikeSplits: whatever is handed in, Split and Join answer what the document says. -/
import Derived.Test.YtgnffifohdgekaaStrT
namespace Go.Proofs.Ytgnffifohdgekaa.strikeSplits
open Go.RowKit Go.Proofs.Ytgnffifohdgekaa.pipe Go.Proofs.Ytgnffifohdgekaa.strike
set_option linter.unusedVariables false
set_option linter.unusedSimpArgs false
set_option maxRecDepth 100000

set_option maxHeartbeats 2000000 in
theorem walk (a0 : ByteArray) (v1 : Value) (l1 : List ByteArray) (a2 : Int) (w0 : a0.size ≤ maxLen) (w2 : (Lit.int .i64 a2).wf = true) (w : World) (hp1 : Rts w v1 l1) (hb1 : l1.length + sizes l1 ≤ 1048576) :
    Calls Try.prog 5 #[.string a0, v1, .int .i64 a2] w fun e w' => e = .returned (.bool true) ∧ Below w.heap.size w w' := by
  clear w2
  have HSP : Hid (∀ u, Calls Try.prog 16 #[.string a0, .int .i64 a2] u fun e w' => ∃ v, e = .returned (.tuple #[v, .int .i64 (spC a2 a0)]) ∧ Txs w' u.heap.size v (spP a2 a0) ∧ Below u.heap.size u w') := fun u => split_any a2 a0 u w0
  have HPC : Hid (∀ u, Calls Try.prog 17 #[.string a0, .int .i64 a2] u fun e w' => ∃ v, e = .returned (.tuple #[v, .int .i64 (spC a2 a0)]) ∧ Txs w' u.heap.size v (spP a2 a0) ∧ Below u.heap.size u w') := fun u => refPieces_any a2 a0 u w0
  have HJ : Hid (∀ u, Below w.heap.size w u → Calls Try.prog 18 #[v1, .int .i64 a2] u fun e w' => e = .returned (.tuple #[.string (joT a2 l1), .int .i64 (joC a2 l1)]) ∧ Below u.heap.size u w') := fun u hu => joinS_any a2 v1 l1 u (hp1.below hu) (by omega)
  have HJD : Hid (∀ u, Below w.heap.size w u → Calls Try.prog 19 #[v1, .int .i64 a2] u fun e w' => e = .returned (.tuple #[.string (joT a2 l1), .int .i64 (joC a2 l1)]) ∧ Below u.heap.size u w') := fun u hu => refJoined_any a2 v1 l1 u (hp1.below hu) (by omega) (by omega)
  obtain ⟨pa, pc, rfl, _, _, _⟩ := hp1
  generalize l1.length = pn at *
  generalize joT a2 l1 = jt at *
  generalize joC a2 l1 = jc at *
  generalize spC a2 a0 = zc at *
  obtain ⟨T, hT⟩ : ∃ T, spP a2 a0 = T := ⟨_, rfl⟩
  rw [hT] at HSP HPC
  have es := toList_self jt
  clear hT hb1 w0
  go_enter Try.func5, Try.ntmps5
  go_wp2_with fail
  refine (HSP.out _).mono ?_
  rintro e ua ⟨va, rfl, hTa, hba⟩
  have HBa : Hid (Below w.heap.size w ua ∧ Rts ua va T) := ⟨hba, hTa.rts⟩
  obtain ⟨aa, ca, rfl, _, _⟩ := hTa.form
  obtain ⟨tn, htn⟩ : ∃ n, T.length = n := ⟨_, rfl⟩
  rw [htn] at HBa ⊢
  clear hba hTa HSP
  go_wp2_with fail
  refine (HPC.out _).mono ?_
  rintro e ub ⟨vb, rfl, hTb, hbb⟩
  have HBb : Hid (Below w.heap.size w ub ∧ Rts ub (.slice aa tn ca) T ∧ Rts ub vb T) := ⟨bsq HBa.out.1 hbb, HBa.out.2.below hbb, hTb.rts⟩
  obtain ⟨ab, cb, rfl, _, _⟩ := hTb.form
  rw [htn] at HBb ⊢
  clear hbb hTb HPC HBa htn
  go_wp2_with fail
  refine (HJ.out _ HBb.out.1).mono ?_
  rintro e uc ⟨rfl, hbc⟩
  have HBc : Hid (Below w.heap.size w uc ∧ Below ub.heap.size ub uc) := ⟨bsq HBb.out.1 hbc, hbc⟩
  clear hbc HJ
  go_wp2_with fail
  refine (HJD.out _ HBc.out.1).mono ?_
  rintro e ud ⟨rfl, hbd⟩
  have HBd : Hid (Below w.heap.size w ud) := bsq HBc.out.1 hbd
  have HEQ : Hid (Calls Try.prog 13 #[.slice aa tn ca, .slice ab tn cb] ud fun e w' => e = .returned (.bool true) ∧ Below ud.heap.size ud w') := by
    have := equalT_any (.slice aa tn ca) (.slice ab tn cb) T T ud (HBb.out.2.1.below (bsq HBc.out.2 hbd)) (HBb.out.2.2.below (bsq HBc.out.2 hbd))
    rw [decide_eq_true rfl] at this
    exact this
  clear hbd HJD HBb HBc
  go_wp2_with fail
  refine HEQ.out.mono ?_
  rintro e ue ⟨rfl, hbe⟩
  have HB : Hid (Below w.heap.size w ue) := bsq HBd.out hbe
  clear hbe HEQ HBd
  go_wp2
  go_ret
  exact ⟨by simp, HB.out⟩
end Go.Proofs.Ytgnffifohdgekaa.strikeSplits
