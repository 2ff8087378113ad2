/- TopoUnplugs: Unplug answers what the document says. -/
import Derived.Test.YtemlafdmeaobfaaTopY
import Derived.Test.YtemlafdmeaobfaaTopR
namespace Go.Proofs.Ytemlafdmeaobfaa.topoUnplugs
open Go Go.RowKit Go.Proofs.Ytemlafdmeaobfaa.route Go.Proofs.Ytemlafdmeaobfaa.topo
set_option linter.unusedVariables false
set_option linter.unusedSimpArgs false
set_option maxRecDepth 100000

set_option maxHeartbeats 4000000 in
theorem walk (v : Value) (L : NL) (y : Value) (p : List Int) (W : World) (hp : Rt W v L) (hk : L.length * 48 ≤ reachBytes ∧ ∀ q ∈ L, q.2.1.length * 8 ≤ reachBytes) (hy : Ris W y p) (hk2 : p.length * 8 ≤ reachBytes) :
    Calls Try.prog 5 #[v, y] W fun e w' => e = .returned (.bool true) ∧ Below W.heap.size W w' := by
  have HF : Hid (Calls Try.prog 17 #[v, y] W fun e u => ∃ v1 v2 M1 M2, e = .returned (.tuple #[v1, v2, .int .i64 (unC (tr L) p)]) ∧ Tt u W.heap.size v1 M1 ∧ Tt u W.heap.size v2 M2 ∧ tr M1 = unL (tr L) p ∧ tr M2 = unG (tr L) p ∧ Below W.heap.size W u) := unplug_any v y L p W hp hy (reach48 hk.2)
  have HG : Hid (∀ u, Below W.heap.size W u → Calls Try.prog 18 #[v, y] u fun e u' => ∃ v1 v2 M1 M2, e = .returned (.tuple #[v1, v2, .int .i64 (unC (tr L) p)]) ∧ Rt u' v1 M1 ∧ Rt u' v2 M2 ∧ tr M1 = unL (tr L) p ∧ tr M2 = unG (tr L) p ∧ Below u.heap.size u u') := fun u hb => unplugged_any v y L p u (hp.below hb) (hy.below hb)
  have HS : Hid (∀ u v1 v2 M1 M2, Rt u v1 M1 → Rt u v2 M2 → tr M1 = tr M2 → Calls Try.prog 16 #[v1, v2] u fun e u' => e = .returned (.bool true) ∧ Below u.heap.size u u') := fun u v1 v2 M1 M2 h1 h2 he => by
    have := sameT_any v1 v2 M1 M2 u h1 h2
    rw [decide_eq_true he] at this
    exact this
  obtain ⟨cc, hcc⟩ : ∃ r, unC (tr L) p = r := ⟨_, rfl⟩
  simp only [hcc] at HF HG
  have hce : (cc == cc) = true := by simp
  have hM := Mm.nil W
  clear hp hk hy hk2 hcc
  go_enter Try.func5, Try.ntmps5
  repeat' (first | go_values | go_skip | go_guarded | go_step | go_upon | (simp only [Int.not_lt, Int.not_le] at *; go_simp))
  refine HF.out.mono ?_
  rintro e u1 ⟨v1, v2, M1, M2, rfl, ht1, ht2, hT1, hT2, hb⟩
  replace hM := hM.call hb
  have HR1 : Hid (∀ u, Below u1.heap.size u1 u → Rt u v1 M1 ∧ Rt u v2 M2) := fun u hu => ⟨ht1.rt.below hu, ht2.rt.below hu⟩
  have HT1 : Hid (tr M1 = unL (tr L) p ∧ tr M2 = unG (tr L) p) := ⟨hT1, hT2⟩
  clear hb ht1 ht2 hT1 hT2 HF
  repeat' (first | go_values | go_skip | go_guarded | go_step | go_upon | (simp only [Int.not_lt, Int.not_le] at *; go_simp))
  refine (HG.out _ hM.below).mono ?_
  rintro e u2 ⟨v3, v4, M3, M4, rfl, hr3, hr4, hT3, hT4, hb⟩
  replace hM := hM.call hb
  have HR2 : Hid (∀ u, Below u2.heap.size u2 u → (Rt u v1 M1 ∧ Rt u v2 M2) ∧ Rt u v3 M3 ∧ Rt u v4 M4) := fun u hu => ⟨HR1.out u (bsq hb hu), hr3.below hu, hr4.below hu⟩
  have HE : Hid (tr M1 = tr M3 ∧ tr M2 = tr M4) := ⟨by rw [HT1.out.1, hT3], by rw [HT1.out.2, hT4]⟩
  clear hb hr3 hr4 hT3 hT4 HG HR1 HT1
  repeat' (first | go_values | go_skip | go_guarded | go_step | go_upon | (simp only [Int.not_lt, Int.not_le] at *; go_simp))
  refine (HS.out _ _ _ M1 M3 (HR2.out _ (Below.refl _ _)).1.1 (HR2.out _ (Below.refl _ _)).2.1 HE.out.1).mono ?_
  rintro e u3 ⟨rfl, hb⟩
  have HB : Hid (Below u2.heap.size u2 u3) := hb
  replace hM := hM.call hb
  clear hb
  repeat' (first | go_values | go_skip | go_guarded | go_step | go_upon | (simp only [Int.not_lt, Int.not_le] at *; go_simp))
  refine (HS.out _ _ _ M2 M4 (HR2.out _ HB.out).1.2 (HR2.out _ HB.out).2.2 HE.out.2).mono ?_
  rintro e u4 ⟨rfl, hb⟩
  replace hM := hM.call hb
  clear hb HS HR2 HB HE
  repeat' (first | go_values | go_skip | go_guarded | go_step | go_upon | (simp only [Int.not_lt, Int.not_le] at *; go_simp))
  go_ret
  exact ⟨rfl, hM.below⟩
end Go.Proofs.Ytemlafdmeaobfaa.topoUnplugs
