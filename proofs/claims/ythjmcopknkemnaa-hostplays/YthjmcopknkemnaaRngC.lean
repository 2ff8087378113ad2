/- ring: what link and onward answer. -/
import Derived.Test.YthjmcopknkemnaaRngB
import Derived.Test.YthjmcopknkemnaaRngG
namespace Go.Proofs.Ythjmcopknkemnaa.ring
open Go Go.RowKit
set_option linter.unusedVariables false
set_option linter.unusedSimpArgs false
set_option maxRecDepth 100000

set_option maxHeartbeats 1000000 in
theorem link_any (g off n c : Nat) (pa pb ga gb sn : Int) (w : World) (hn : 3 ≤ n) (hn2 : n ≤ 64) : Calls Try.prog 76 #[rgV (.slice (some ⟨g, off, none⟩) n c) pa pb ga gb sn] w fun e w' => e = .returned (.pointer (some ⟨g, off + (n - 1) * 3, none⟩)) ∧ Below w.heap.size w w' := by
  obtain ⟨w1, hw1, hX1, hb1⟩ := named w (rgO (.slice (some ⟨g, off, none⟩) n c) pa pb ga gb sn)
  have HB : Hid (Below w.heap.size w w1) := hb1
  have HX : Hid (∀ u, Below w1.heap.size w1 u → u.heap[w.heap.size]? = some (rgO (.slice (some ⟨g, off, none⟩) n c) pa pb ga gb sn)) := fun u hu => keep hX1 hu
  obtain ⟨m, hm⟩ : ∃ m : Nat, n - 1 = m := ⟨_, rfl⟩
  have hmi : (n : Int) - 1 = (m : Int) := by omega
  have hlt : m < n := by omega
  have HP : Hid (∀ u, Calls Try.prog 87 #[rgV (.slice (some ⟨g, off, none⟩) n c) pa pb ga gb sn] u fun e w' => e = .returned (.int .i64 (m : Int)) ∧ Below u.heap.size u w') := fun u => by
    have := places_any (some ⟨g, off, none⟩) n c pa pb ga gb sn u hn hn2
    rw [hmi] at this
    exact this
  rw [hm]
  clear hX1 hb1 hm hmi
  go_enter Try.func76, Try.ntmps76
  go_upto_region 1 with (fail)
  refine wp_abs (fun a0 => a0.tmps.size = 8 ∧ (∀ h, a0.tmps[1]'h = .pointer (some ⟨w.heap.size, 0, none⟩))) ⟨rfl, fun _ => rfl⟩ ?_
  rintro a0 ⟨hsz, s1⟩ ha0
  refine wp_region_held (S := fun W => Below w1.heap.size w1 W) (by kernel_rfl) ?_
  have hS0 : Below w1.heap.size w1 w1.drew := (Below.refl _ _).drew
  refine h_take (i := 0) (.pointer (some ⟨w.heap.size, 0, none⟩)) rfl (by kernel_rfl) (by kernel_rfl) (by kernel_rfl) (fun _ _ _ h => h) rfl hS0 (fun W hW => by simp [execOp, go_sem, Act.put, hsz, s1]) ?_
  refine h_take (i := 1) (.slice (some ⟨g, off, none⟩) n c) rfl (by kernel_rfl) (by kernel_rfl) (by kernel_rfl) (fun _ _ _ h => h) rfl hS0 (fun W hW => by obtain ⟨⟨zb, x0, x1, x2, x3, x4, x5⟩, _⟩ := box6 (HX.out W hW); simp [execOp, go_sem, Act.put, hsz, s1, x0]) ?_
  refine h_take (i := 2) (rgV (.slice (some ⟨g, off, none⟩) n c) pa pb ga gb sn) rfl (by kernel_rfl) (by kernel_rfl) (by kernel_rfl) (fun _ _ _ h => h) rfl hS0 (fun W hW => by obtain ⟨⟨zb, x0, x1, x2, x3, x4, x5⟩, _⟩ := box6 (HX.out W hW); simp [execOp, go_sem, Act.put, hsz, s1, x0, x1, x2, x3, x4, x5]) ?_
  refine h_call (i := 3) 87 #[rgV (.slice (some ⟨g, off, none⟩) n c) pa pb ga gb sn] rfl (by kernel_rfl) rfl (by simp [execOp, go_sem, Act.put, hsz, s1]) ((HP.out _).mono ?_)
  rintro e u ⟨rfl, hb⟩
  have hS1 : Below w1.heap.size w1 u := bsq hS0 hb
  refine ⟨_, rfl, hS1, ?_⟩
  refine h_value (i := 4) (w' := u) (.pointer (some ⟨g, off + m * 3, none⟩)) rfl (by kernel_rfl) rfl (by simp [execOp, go_sem, Act.put, hsz, s1, hlt]) hS1 ?_
  refine h_value (i := 5) (w' := u) (.pointer (some ⟨g, off + m * 3, none⟩)) rfl (by kernel_rfl) rfl (by simp [execOp, go_sem, Act.put, hsz, s1]) hS1 ?_
  refine wpAnyH_done (by kernel_rfl) ?_ _
  subst ha0
  clear hsz s1
  go_simp
  go_wp2
  go_ret
  exact ⟨rfl, bsq HB.out hS1⟩
end Go.Proofs.Ythjmcopknkemnaa.ring
