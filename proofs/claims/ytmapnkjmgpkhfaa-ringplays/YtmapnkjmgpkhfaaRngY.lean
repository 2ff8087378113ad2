/- plugref: RingPlay's closure mark. -/
import Derived.Test.YtmapnkjmgpkhfaaRngR
import Derived.Test.YtmapnkjmgpkhfaaRngP
namespace Go.Proofs.Ytmapnkjmgpkhfaa.ring
open Go Go.RowKit
set_option linter.unusedVariables false
set_option linter.unusedSimpArgs false
set_option maxRecDepth 100000

theorem h_three {P : Program} {md : Region.Mode} {ops : Array Oper} {Q : Exit → Act → World → Prop} {S : World → Prop} (i j l : Nat) {fuel : Nat} {L : Array Bool} {a : Act} {w : World} (hr : Region.ready md ops L = [i, j, l])
    (h1 : wpOp P ops Q i (fun a' w' => S w' ∧ wpAnyH P md ops Q S fuel (L.setIfInBounds i true) a' w') a w)
    (h2 : wpOp P ops Q j (fun a' w' => S w' ∧ wpAnyH P md ops Q S fuel (L.setIfInBounds j true) a' w') a w)
    (h3 : wpOp P ops Q l (fun a' w' => S w' ∧ wpAnyH P md ops Q S fuel (L.setIfInBounds l true) a' w') a w) : wpAnyH P md ops Q S (fuel + 1) L a w := by
  refine wpAnyH_all hr (by simp) fun k hk => ?_
  rcases List.mem_cons.1 hk with rfl | hk
  · exact h1
  rcases List.mem_cons.1 hk with rfl | hk
  · exact h2
  · obtain rfl : k = l := by simpa using hk
    exact h3
theorem box1 {u : World} {X : Nat} {x : Value} {T : TypeId} (h : u.heap[X]? = some (.cells #[x] T)) : X < u.heap.size ∧ u.cell? ⟨X, 0, none⟩ = some x ∧ u.frozen? ⟨X, 0, none⟩ = false := by
  refine ⟨(Array.getElem?_eq_some_iff.1 h).1, ?_, frozen_of_row u X 0 _ _ h⟩
  rw [cell_of_row u X _ _ _ (0, 0) h]; rfl
abbrev inO (p : Int) : Obj := .cells #[.int .i64 p] 3
set_option maxHeartbeats 2000000 in
theorem mark_any (X k p : Nat) (w : World) (hX : w.heap[X]? = some (inO (p : Int))) (hp : 2 ≤ p) (hp2 : p ≤ 63) (hk : k ≤ 1000) :
    Calls Try.prog 33 #[.int .i64 (k : Int), .pointer (some ⟨X, 0, none⟩)] w fun e w' => e = .returned (mkV (mk p k).1 (mk p k).2) ∧ Below w.heap.size w w' := by
  obtain ⟨w1, hw1, hR1, hb1⟩ := named w (mkO 0 0)
  have HX : Hid (∀ u, Below w1.heap.size w1 u → u.heap[X]? = some (inO (p : Int)) ∧ u.heap[w.heap.size]? = some (mkO 0 0)) := fun u hu => ⟨keep (keep hX hb1) hu, keep hR1 hu⟩
  have HB : Hid (Below w.heap.size w w1) := hb1
  obtain ⟨M, hM⟩ : ∃ M, ((k % p : Nat) : Int) = M := ⟨_, rfl⟩
  obtain ⟨D, hD⟩ : ∃ D : Nat, k / p = D := ⟨_, rfl⟩
  obtain ⟨E, hE⟩ : ∃ E, (((D + 1) % 2 : Nat) : Int) = E := ⟨_, rfl⟩
  have hmk : (mk p k).1 = M ∧ (mk p k).2 = E := ⟨hM, by rw [← hE, ← hD]; rfl⟩
  rw [hmk.1, hmk.2]
  have hDk : D ≤ 1000 := by rw [← hD]; exact Nat.le_trans (Nat.div_le_self _ _) hk
  have t1 : ((k : Int)).tmod (p : Int) = M := by rw [← hM, Int.tmod_eq_emod_of_nonneg (by omega)]; omega
  have t2 : ((k : Int)).tdiv (p : Int) = (D : Int) := by rw [← hD, Int.tdiv_eq_ediv_of_nonneg (by omega)]; omega
  have t3 : ((D : Int) + 1).tmod 2 = E := by rw [← hE, Int.tmod_eq_emod_of_nonneg (by omega)]; omega
  have t4 : IntKind.i64.wrap ((D : Int) + 1) = (D : Int) + 1 := by rw [IntKind.wrap_i64]; omega
  have hE0 : 0 ≤ E ∧ E ≤ 1 := by rw [← hE]; omega
  have hM0 : 0 ≤ M ∧ M ≤ 1000 := by rw [← hM]; have := Nat.mod_le k p; omega
  obtain ⟨hE1, hE2⟩ := hE0
  obtain ⟨hM1, hM2⟩ := hM0
  have t5 : IntKind.i64.wrap M = M := by rw [IntKind.wrap_i64]; omega
  have t6 : IntKind.i64.wrap (D : Int) = (D : Int) := by rw [IntKind.wrap_i64]; omega
  have t7 : IntKind.i64.wrap E = E := by rw [IntKind.wrap_i64]; omega
  have hp0 : ((p : Int) == 0) = false := by simp; omega
  have hp1 : ¬ (p : Int) = 0 := by omega
  have hp3 : ¬ p = 0 := by omega
  clear hR1 hb1 hM hD hE hmk
  go_enter Try.func33, Try.ntmps33
  go_upto_region 1 with (fail)
  refine wp_abs (fun a0 => a0.tmps.size = 13 ∧ (∀ h, a0.tmps[0]'h = .int .i64 (k : Int)) ∧ (∀ h, a0.tmps[1]'h = .pointer (some ⟨X, 0, none⟩)) ∧ (∀ h, a0.tmps[3]'h = .pointer (some ⟨w.heap.size, 0, none⟩))) ⟨rfl, fun _ => rfl, fun _ => rfl, fun _ => rfl⟩ ?_
  rintro a0 ⟨hsz, s0, s1, s3⟩ ha0
  refine wp_region_held (S := fun W => W.heap[X]? = some (inO (p : Int))) (by kernel_rfl) ?_
  obtain ⟨wd, hwd⟩ : ∃ wd, w1.drew = wd := ⟨_, rfl⟩
  have hbd : Below w1.heap.size w1 wd := by rw [← hwd]; exact (Below.refl _ _).drew
  show wpAnyH _ _ _ _ _ _ _ _ w1.drew
  rw [hwd]
  have hS0 : wd.heap[X]? = some (inO (p : Int)) := (HX.out wd hbd).1
  refine h_take (i := 0) (.int .i64 (k : Int)) rfl (by kernel_rfl) (by kernel_rfl) (by kernel_rfl) (fun _ _ _ h => h) rfl hS0 (fun W hW => by simp [execOp, go_sem, Act.put, hsz, s0, s1, s3]) ?_
  refine h_take (i := 1) (.int .i64 (p : Int)) rfl (by kernel_rfl) (by kernel_rfl) (by kernel_rfl) (fun _ _ _ h => h) rfl hS0 (fun W hW => by obtain ⟨zb, x0, _⟩ := box1 hW; simp [execOp, go_sem, Act.put, hsz, s0, s1, s3, zb, x0]) ?_
  refine h_take (i := 2) (.int .i64 M) rfl (by kernel_rfl) (by kernel_rfl) (by kernel_rfl) (fun _ _ _ h => h) rfl hS0 (fun W hW => by simp [execOp, go_sem, Act.put, hsz, s0, s1, s3, t1, t5, hp0, hp1, hp3]) ?_
  refine h_take (i := 3) (.int .i64 (k : Int)) rfl (by kernel_rfl) (by kernel_rfl) (by kernel_rfl) (fun _ _ _ h => h) rfl hS0 (fun W hW => by simp [execOp, go_sem, Act.put, hsz, s0, s1, s3]) ?_
  refine h_take (i := 4) (.int .i64 (p : Int)) rfl (by kernel_rfl) (by kernel_rfl) (by kernel_rfl) (fun _ _ _ h => h) rfl hS0 (fun W hW => by obtain ⟨zb, x0, _⟩ := box1 hW; simp [execOp, go_sem, Act.put, hsz, s0, s1, s3, zb, x0]) ?_
  refine h_take (i := 5) (.int .i64 (D : Int)) rfl (by kernel_rfl) (by kernel_rfl) (by kernel_rfl) (fun _ _ _ h => h) rfl hS0 (fun W hW => by simp [execOp, go_sem, Act.put, hsz, s0, s1, s3, t2, t6, hp0, hp1, hp3]) ?_
  refine h_take (i := 6) (.int .i64 ((D : Int) + 1)) rfl (by kernel_rfl) (by kernel_rfl) (by kernel_rfl) (fun _ _ _ h => h) rfl hS0 (fun W hW => by simp [execOp, go_sem, Act.put, hsz, s0, s1, s3, t4]) ?_
  refine h_take (i := 7) (.int .i64 E) rfl (by kernel_rfl) (by kernel_rfl) (by kernel_rfl) (fun _ _ _ h => h) rfl hS0 (fun W hW => by simp [execOp, go_sem, Act.put, hsz, s0, s1, s3, t3, t7]) ?_
  refine h_take (i := 8) (mkV M E) rfl (by kernel_rfl) (by kernel_rfl) (by kernel_rfl) (fun _ _ _ h => h) rfl hS0 (fun W hW => by simp [execOp, go_sem, Act.put, hsz, s0, s1, s3]) ?_
  obtain ⟨uf, huf, hXf, hBf, hkf, _⟩ := put2 wd w.heap.size (.int .i64 M) (.int .i64 E) (HX.out wd hbd).2
  obtain ⟨⟨zr, r0, r1⟩, f0, f1⟩ := box2 (HX.out wd hbd).2
  have hXne : X ≠ w.heap.size := by
    have h1 := (Array.getElem?_eq_some_iff.1 hX).1
    omega
  have hSf : uf.heap[X]? = some (inO (p : Int)) := (hkf X hXne).trans hS0
  refine h_skip (i := 9) (w' := uf) rfl (by kernel_rfl) rfl (by rw [← huf]; simp [execOp, go_sem, Act.put, hsz, s0, s1, s3, zr, r0, r1, f0, f1]) hSf ?_
  refine wpAnyH_done (by kernel_rfl) ?_ _
  have HBf : Hid (Below w.heap.size w uf) := hBf _ _ (Nat.le_refl _) (bsq HB.out hbd)
  obtain ⟨⟨hzf, y0, y1⟩, _⟩ := box2 hXf
  clear huf r0 r1 f0 f1 hXf hBf hkf hS0 hSf hX hwd hbd t1 t2 t3 t4 t5 t6 t7
  subst ha0
  clear hsz s0 s1 s3
  go_simp
  go_wp2_with fail
  exact bodyPost_ret (v := mkV M E) (by simp [results, Try.results33, go_sem, hzf, y0, y1]) rfl ⟨rfl, HBf.out⟩
end Go.Proofs.Ytmapnkjmgpkhfaa.ring
