/- TopoPlugs: Plug answers what the document says. -/
import Derived.Test.YtemlafdmeaobfaaTopQ
import Derived.Test.YtemlafdmeaobfaaTopR
namespace Go.Proofs.Ytemlafdmeaobfaa.topoPlugs
open Go Go.RowKit Go.Proofs.Ytemlafdmeaobfaa.route Go.Proofs.Ytemlafdmeaobfaa.topo
set_option linter.unusedVariables false
set_option linter.unusedSimpArgs false
set_option maxRecDepth 100000

set_option maxHeartbeats 4000000 in
theorem walk (v : Value) (L : NL) (x : Value) (n : Nd) (W : World) (hp : Rt W v L) (hk : L.length * 48 ≤ reachBytes ∧ ∀ q ∈ L, q.2.1.length * 8 ≤ reachBytes) (hx : Ris W x n.1) (hk1 : n.1.length * 8 ≤ reachBytes) :
    Calls Try.prog 4 #[v, agv (ncl x n)] W fun e w' => e = .returned (.bool true) ∧ Below W.heap.size W w' := by
  have HF : Hid (∀ u, Below W.heap.size W u → Calls Try.prog 14 #[v, agv (ncl x n)] u fun e u' => ∃ v' M, e = .returned (.tuple #[v', .int .i64 (plC (tr L) n)]) ∧ Tt u' u.heap.size v' M ∧ tr M = plT (tr L) n ∧ Below u.heap.size u u') := fun u hb => plug_any v x L n u (hp.below hb) (hx.below hb) (reach48 hk.2)
  have HG : Hid (∀ u, Below W.heap.size W u → Calls Try.prog 15 #[v, agv (ncl x n)] u fun e u' => ∃ v' M, e = .returned (.tuple #[v', .int .i64 (plC (tr L) n)]) ∧ Rt u' v' M ∧ tr M = plT (tr L) n ∧ Below u.heap.size u u') := fun u hb => plugged_any v x L n u (hp.below hb) (hx.below hb)
  have HS : Hid (∀ u v1 v2 M1 M2, Rt u v1 M1 → Rt u v2 M2 → tr M1 = tr M2 → Calls Try.prog 16 #[v1, v2] u fun e u' => e = .returned (.bool true) ∧ Below u.heap.size u u') := fun u v1 v2 M1 M2 h1 h2 he => by
    have := sameT_any v1 v2 M1 M2 u h1 h2
    rw [decide_eq_true he] at this
    exact this
  obtain ⟨cc, hcc⟩ : ∃ r, plC (tr L) n = r := ⟨_, rfl⟩
  simp only [hcc] at HF HG
  have hce : (cc == cc) = true := by simp
  have hM := Mm.nil W
  clear hp hk hx hk1 hcc
  go_enter Try.func4, Try.ntmps4
  repeat' (first | (go_big_may; first | (refine v_box rfl rfl rfl ?_; intro u xn hN; replace hM := hM.new hN; clear hN) | (refine v_load rfl rfl row_node rfl hM.at0 (Nat.le_refl 4) rfl ?_)) | go_values | go_skip | go_guarded | go_step | go_upon | (simp only [Int.not_lt, Int.not_le] at *; go_simp))
  refine (HF.out _ hM.below).mono ?_
  rintro e u1 ⟨v1, M1, rfl, ht1, hT1, hb⟩
  replace hM := hM.call hb
  have HR1 : Hid (∀ u, Below u1.heap.size u1 u → Rt u v1 M1) := fun u hu => ht1.rt.below hu
  have HT1 : Hid (tr M1 = plT (tr L) n) := hT1
  clear hb ht1 hT1 HF
  repeat' (first | (go_big_may; first | (refine v_load rfl rfl row_node rfl hM.at0 (Nat.le_refl 4) rfl ?_)) | go_values | go_skip | go_guarded | go_step | go_upon | (simp only [Int.not_lt, Int.not_le] at *; go_simp))
  refine (HG.out _ hM.below).mono ?_
  rintro e u2 ⟨v2, M2, rfl, hr2, hT2, hb⟩
  replace hM := hM.call hb
  have HR2 : Hid (Rt u2 v1 M1 ∧ Rt u2 v2 M2 ∧ tr M1 = tr M2) := ⟨HR1.out u2 hb, hr2, by rw [HT1.out, hT2]⟩
  clear hb hr2 hT2 HG HR1 HT1
  repeat' (first | go_values | go_skip | go_guarded | go_step | go_upon | (simp only [Int.not_lt, Int.not_le] at *; go_simp))
  refine (HS.out _ _ _ M1 M2 HR2.out.1 HR2.out.2.1 HR2.out.2.2).mono ?_
  rintro e u3 ⟨rfl, hb⟩
  replace hM := hM.call hb
  clear hb HS HR2
  repeat' (first | go_values | go_skip | go_guarded | go_step | go_upon | (simp only [Int.not_lt, Int.not_le] at *; go_simp))
  go_ret
  exact ⟨rfl, hM.below⟩
end Go.Proofs.Ytemlafdmeaobfaa.topoPlugs
