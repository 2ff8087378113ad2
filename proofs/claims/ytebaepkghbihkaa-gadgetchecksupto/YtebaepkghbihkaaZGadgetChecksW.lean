/- GadgetChecks: the walk. -/
import Derived.Test.YtebaepkghbihkaaZBj
import Derived.Test.YtebaepkghbihkaaZAp
namespace Go.Proofs.Ytebaepkghbihkaa.gadgetChecks
open Go.RowKit Go.PlainAid Go.Proofs.Ytebaepkghbihkaa.desc Go.Proofs.Ytebaepkghbihkaa.gadget
set_option linter.unusedVariables false
set_option linter.unusedSimpArgs false
set_option maxRecDepth 100000 in
set_option maxHeartbeats 8000000 in
theorem walk (d : Dv) (c : Cf) (L : FL) (v : Value) (T : List (List Int)) (tv : Value) (w : World) (hs : Shr w c L v T tv) (hb : ∀ t ∈ T, t.length ≤ 1048576) :
    Calls Try.prog 3 #[shV d c v tv] w fun e w' => e = .returned (.bool true) ∧ Below w.heap.size w w' := by
  obtain ⟨w1, hw1, hS1, hb1⟩ := ShC.named w d c v tv
  have hS : ∀ u : World, Below w1.heap.size w1 u → u.heap[w.heap.size]? = some (shO d c v tv) := fun u hu => keep hS1 hu
  have HB1 : Hid (Below w.heap.size w w1) := hb1
  have HC : Hid (∀ u : World, Below w1.heap.size w1 u → Calls Try.prog 9 #[shV d c v tv] u fun e w' => e = .returned (.int .i64 (chkS d c T)) ∧ Below u.heap.size u w') := fun u hu => check_any d c L v T tv u (hs.below (bsq hb1 hu))
  have HR : Hid (∀ u : World, Below w1.heap.size w1 u → Calls Try.prog 10 #[shV d c v tv] u fun e w' => e = .returned (.int .i64 (chkS d c T)) ∧ Below u.heap.size u w') := fun u hu => rsheet_any d c L v T tv u (hs.below (bsq hb1 hu)) (fun t ht => Nat.le_trans (hb t ht) (by omega))
  obtain ⟨fa, fn, fcp, rfl⟩ : ∃ a n c, v = .slice a n c := by obtain ⟨a, c, h, _⟩ := hs.rc.fs.row; exact ⟨_, _, _, h⟩
  obtain ⟨ta, tn, tcp, rfl⟩ : ∃ a n c, tv = .slice a n c := by obtain ⟨a, c, h, _⟩ := hs.tx; exact ⟨_, _, _, h⟩
  generalize chkS d c T = z at *
  have HSS : Hid (∀ u : World, Below w1.heap.size w1 u → u.heap[w.heap.size]? = some (shO d c (.slice fa fn fcp) (.slice ta tn tcp))) := hS
  clear hs hb hb1 hS1 hS
  go_enter Try.func3, Try.ntmps3
  go_wp2_with fail
  refine wp_abs (fun a0 => a0.tmps.size = 8 ∧ (∀ h, a0.tmps[1]'h = .pointer (some ⟨w.heap.size, 0, none⟩))) ⟨rfl, fun _ => rfl⟩ ?_
  rintro a0 ⟨hsz, g1⟩ ha0
  refine wp_region_L (Cb w1) (by kernel_rfl) (by kernel_rfl) ((Below.refl _ _).drew) ?_
  refine lexb_plain (shV d c (.slice fa fn fcp) (.slice ta tn tcp)) rfl (fun W hW => by have h := run_sheet (HSS.out W hW); simp only [execOp]; simp only [Act.eval]; simp [hsz, g1, h]) ?_
  refine lexb_call (.int .i64 z) 9 #[shV d c (.slice fa fn fcp) (.slice ta tn tcp)] rfl (fun W hW => by simp [execOp, go_sem, hsz, g1]) (fun W hW => HC.out W hW) ?_
  refine lexb_plain (shV d c (.slice fa fn fcp) (.slice ta tn tcp)) rfl (fun W hW => by have h := run_sheet (HSS.out W hW); simp only [execOp]; simp only [Act.eval]; simp [Act.put, hsz, g1, h]) ?_
  refine lexb_call (.int .i64 z) 10 #[shV d c (.slice fa fn fcp) (.slice ta tn tcp)] rfl (fun W hW => by simp [execOp, go_sem, Act.put, hsz, g1]) (fun W hW => HR.out W hW) ?_
  refine lexb_plain (.bool true) rfl (fun W hW => by simp [execOp, go_sem, Act.put, hsz, g1]) ?_
  refine lexb_plain (.bool true) rfl (fun W hW => by simp [execOp, go_sem, Act.put, hsz, g1]) ?_
  intro w' hw'
  have HBw : Hid (Below w1.heap.size w1 w') := hw'
  clear hw' HC HR HSS
  subst ha0
  clear hsz g1
  go_simp
  go_wp2
  go_ret
  exact ⟨rfl, bsq HB1.out HBw.out⟩
end Go.Proofs.Ytebaepkghbihkaa.gadgetChecks
