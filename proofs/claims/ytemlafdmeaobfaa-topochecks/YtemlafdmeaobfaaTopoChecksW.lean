/- TopoChecks: Check and Find answer what the document says. -/
import Derived.Test.YtemlafdmeaobfaaTopU
import Derived.Test.YtemlafdmeaobfaaTopR
namespace Go.Proofs.Ytemlafdmeaobfaa.topoChecks
open Go Go.RowKit Go.Proofs.Ytemlafdmeaobfaa.route Go.Proofs.Ytemlafdmeaobfaa.topo
set_option linter.unusedVariables false
set_option linter.unusedSimpArgs false
set_option maxRecDepth 100000

set_option maxHeartbeats 4000000 in
theorem walk (v : Value) (L : NL) (y : Value) (p : List Int) (W : World) (hp : Rt W v L) (hk : L.length * 48 ≤ reachBytes ∧ ∀ q ∈ L, q.2.1.length * 8 ≤ reachBytes) (hy : Ris W y p) (hk2 : p.length * 8 ≤ reachBytes) :
    Calls Try.prog 3 #[v, y] W fun e w' => e = .returned (.bool true) ∧ Below W.heap.size W w' := by
  have HF : Hid (Calls Try.prog 9 #[v, y] W fun e u => ∃ v', e = .returned (.tuple #[agv (ncl v' (fnN (tr L) p)), .bool (fnB (tr L) p)]) ∧ On u W.heap.size v' (fnN (tr L) p) ∧ Below W.heap.size W u) := find_any v y L p W hp hy (reach48 hk.2)
  have HG : Hid (∀ u, Below W.heap.size W u → Calls Try.prog 10 #[v, y] u fun e u' => ∃ v', e = .returned (.tuple #[agv (ncl v' (fnN (tr L) p)), .bool (fnB (tr L) p)]) ∧ Ris u' v' (fnN (tr L) p).1 ∧ Below u.heap.size u u') := fun u hb => rfind_any v y L p u (hp.below hb) (hy.below hb)
  have HC : Hid (∀ u, Below W.heap.size W u → Calls Try.prog 11 #[v] u fun e u' => e = .returned (.int .i64 (chkT (tr L))) ∧ Below u.heap.size u u') := fun u hb => check_any2 v L u (hp.below hb) (reach48 hk.2)
  have HT : Hid (∀ u, Below W.heap.size W u → Calls Try.prog 12 #[v] u fun e u' => e = .returned (.int .i64 (chkT (tr L))) ∧ Below u.heap.size u u') := fun u hb => tree_any v L u (hp.below hb)
  have HS : Hid (∀ u v1 v2 n, Ris u v1 n.1 → Ris u v2 n.1 → Calls Try.prog 13 #[agv (ncl v1 n), agv (ncl v2 n)] u fun e u' => e = .returned (.bool true) ∧ Below u.heap.size u u') := fun u v1 v2 n h1 h2 => by
    have := same_any v1 v2 n n u h1 h2
    rw [decide_eq_true rfl] at this
    exact this
  obtain ⟨rN, hrN⟩ : ∃ r, fnN (tr L) p = r := ⟨_, rfl⟩
  obtain ⟨rB, hrB⟩ : ∃ r, fnB (tr L) p = r := ⟨_, rfl⟩
  obtain ⟨cc, hcc⟩ : ∃ r, chkT (tr L) = r := ⟨_, rfl⟩
  simp only [hrN, hrB, hcc] at HF HG HC HT
  have hbb : (rB == rB) = true := by simp
  have hce : (cc == cc) = true := by simp
  have hM := Mm.nil W
  clear hp hk hy hk2 hrN hrB hcc
  go_enter Try.func3, Try.ntmps3
  repeat' (first | go_values | go_skip | go_guarded | go_step | go_upon | (simp only [Int.not_lt, Int.not_le] at *; go_simp))
  refine HF.out.mono ?_
  rintro e u1 ⟨v1, rfl, ho, hb⟩
  replace hM := hM.call hb
  have HV1 : Hid (Vs (ncl v1 rN) 4) := ncl_vs rN (ris_one ho.ris)
  have HM0 : Hid (Mn W u1 [] [(v1, rN)]) := ⟨hM, fun x hx => by simp at hx, fun q hq => by rw [List.mem_singleton.1 hq]; exact ho⟩
  clear hb ho HF hM
  have hM := HM0.out
  clear HM0
  repeat' (first | (go_big_may; first | (refine v_alloc rfl zer_node rfl ?_; intro u xa hN; replace hM := hM.new hN; clear hN) | (refine v_fill rfl rfl row_node rfl rfl hM.at0 HV1.out rfl ?_; intro u hv hc; replace hM := hM.put0 hc hv; clear hv hc)) | go_values | go_skip | go_guarded | go_step | go_upon | (simp only [Int.not_lt, Int.not_le] at *; go_simp))
  refine (HG.out _ hM.below).mono ?_
  rintro e u2 ⟨v2, rfl, hr, hb⟩
  replace hM := hM.call hb
  have HV2 : Hid (Vs (ncl v2 rN) 4) := ncl_vs rN (ris_one hr)
  have HR2 : Hid (∀ u, Below u2.heap.size u2 u → Ris u v2 rN.1) := fun u hu => hr.below hu
  clear hb hr HG
  repeat' (first | (go_big_may; first | (refine v_alloc rfl zer_node rfl ?_; intro u xb hN; have HB2 : Hid (Below u2.heap.size u2 u ∧ u2.heap.size ≤ xb) := ⟨hN.below, by rw [hN.at']; exact Nat.le_refl _⟩; replace hM := hM.new hN; clear hN) | (refine v_fill rfl rfl row_node rfl rfl hM.at0 HV2.out rfl ?_; intro u hv hc; replace HB2 : Hid (Below u2.heap.size u2 u) := hc.below _ _ HB2.out.2 HB2.out.1; replace hM := hM.put0 hc hv; clear hv hc)) | go_values | go_skip | go_guarded | go_step | go_upon | (simp only [Int.not_lt, Int.not_le] at *; go_simp))
  refine (HC.out _ hM.below).mono ?_
  rintro e u3 ⟨rfl, hb⟩
  replace HB2 : Hid (Below u2.heap.size u2 u3) := bsq HB2.out hb
  replace hM := hM.call hb
  clear hb HC
  repeat' (first | go_values | go_skip | go_guarded | go_step | go_upon | (simp only [Int.not_lt, Int.not_le] at *; go_simp))
  refine (HT.out _ hM.below).mono ?_
  rintro e u4 ⟨rfl, hb⟩
  replace HB2 : Hid (Below u2.heap.size u2 u4) := bsq HB2.out hb
  replace hM := hM.call hb
  clear hb HT
  repeat' (first | (go_big_may; first | (refine v_load rfl rfl row_node rfl hM.at1 (Nat.le_refl 4) rfl ?_) | (refine v_load rfl rfl row_node rfl hM.at0 (Nat.le_refl 4) rfl ?_)) | go_values | go_skip | go_guarded | go_step | go_upon | (simp only [Int.not_lt, Int.not_le] at *; go_simp))
  refine (HS.out _ _ _ rN (hM.on (v1, rN) (by simp)).ris (HR2.out _ HB2.out)).mono ?_
  rintro e u5 ⟨rfl, hb⟩
  replace hM := hM.call hb
  clear hb HS HR2 HB2
  repeat' (first | go_values | go_skip | go_guarded | go_step | go_upon | (simp only [Int.not_lt, Int.not_le] at *; go_simp))
  go_ret
  exact ⟨rfl, hM.below⟩
end Go.Proofs.Ytemlafdmeaobfaa.topoChecks
