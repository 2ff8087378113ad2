/- topo: what the functions that plugref's Unplugged hands on answer; clear of nodes. -/
import Derived.Test.YtemlafdmeaobfaaTopV
import Derived.Test.YtemlafdmeaobfaaTopT
namespace Go.Proofs.Ytemlafdmeaobfaa.topo
open Go Go.RowKit Go.Proofs.Ytemlafdmeaobfaa.route
set_option linter.unusedVariables false
set_option linter.unusedSimpArgs false
set_option maxRecDepth 100000

theorem und_two (a p : List Int) : und a p = (decide (p.length ≤ a.length) && decide (a.take p.length = p)) := by
  rw [Bool.eq_iff_iff, und_iff, Bool.and_eq_true, decide_eq_true_iff, decide_eq_true_iff]
  constructor
  · intro h
    exact ⟨h.length_le, (List.prefix_iff_eq_take.1 h).symm⟩
  · rintro ⟨_, h⟩
    exact List.prefix_iff_eq_take.2 h.symm
set_option maxHeartbeats 4000000 in
theorem gone_any (v pv : Value) (n : Nd) (p : List Int) (X : Nat) (w : World) (h : Ris w v n.1) (hp : Ris w pv p) (hX : w.heap[X]? = some (bv 23 [pv])) : Calls Try.prog 42 #[agv (ncl v n), .pointer (some ⟨X, 0, none⟩)] w fun e u => e = .returned (.bool (und n.1 p)) ∧ Below w.heap.size w u := by
  rw [und_two]
  obtain ⟨a, c, rfl, hlc, hcm⟩ := h.form
  obtain ⟨pa, pc, rfl, hpc, hpm⟩ := hp.form
  have HX : Hid (∀ u, Below w.heap.size w u → u.cell? ⟨X, 0, none⟩ = some (.slice pa p.length pc)) := fun u hb => bv_cell (keep hX hb) rfl
  have HS : Hid (p.length ≤ n.1.length → (∀ W : World, (Instr.slice 23 (.slice a n.1.length c) none (some (.int .i64 (p.length : Int))) none).run Try.prog W = .ok (.slice a p.length c) W) ∧ ∀ u, Below w.heap.size w u → Calls Try.prog 20 #[.slice a p.length c, .slice pa p.length pc] u fun e w' => e = .returned (.bool (decide (n.1.take p.length = p))) ∧ Below u.heap.size u w') := fun hle => by
    obtain ⟨hsl, hup⟩ := Ris.upto h p.length hle
    exact ⟨hsl, fun u hb => equalI_any _ _ _ _ u (hup.below hb) (hp.below hb)⟩
  obtain ⟨m, hm⟩ : ∃ m, n.1.length = m := ⟨_, rfl⟩
  obtain ⟨q, hq⟩ : ∃ m, p.length = m := ⟨_, rfl⟩
  obtain ⟨d, hd⟩ : ∃ b, decide (n.1.take q = p) = b := ⟨_, rfl⟩
  simp only [hm, hq, hd] at HS HX hlc hpc ⊢
  unfold maxLen at hcm hpm
  have hM := Mm.nil w
  clear h hp hX hm hq hd
  by_cases hle : q ≤ m
  · obtain ⟨hsl, hE⟩ := HS.out hle
    have HE : Hid (∀ u, Below w.heap.size w u → Calls Try.prog 20 #[.slice a q c, .slice pa q pc] u fun e w' => e = .returned (.bool d) ∧ Below u.heap.size u w') := hE
    have dl : decide (q ≤ m) = true := decide_eq_true hle
    have dl2 : decide ((q : Int) ≤ (m : Int)) = true := decide_eq_true (by omega)
    rw [dl, Bool.true_and]
    clear HS hE
    go_enter Try.func42, Try.ntmps42
    repeat' (first | (go_big_may; first | (refine v_box rfl rfl rfl ?_; intro u xn hN; replace hM := hM.new hN; clear hN)) | go_values | go_skip | go_guarded | go_step | go_upon | (simp only [Int.not_lt, Int.not_le] at *; go_simp))
    have HM : Hid (Mm w u [(xn, 25, ncl (.slice a m c) n)]) := hM
    clear hM
    go_upto_region 1 with (fail)
    refine wp_abs (fun a0 => a0.tmps.size = 19 ∧ (∀ h, a0.tmps[1]'h = .pointer (some ⟨X, 0, none⟩)) ∧ (∀ h, a0.tmps[2]'h = .pointer (some ⟨xn, 0, none⟩))) ⟨rfl, fun _ => rfl, fun _ => rfl⟩ ?_
    rintro a0 ⟨hsz, s1, s2⟩ ha0
    refine wp_region_held (S := fun W => Mm w W [(xn, 25, ncl (.slice a m c) n)]) (by kernel_rfl) ?_
    obtain ⟨ud, hud⟩ : ∃ ud, u.drew = ud := ⟨_, rfl⟩
    have hS0 : Mm w ud [(xn, 25, ncl (.slice a m c) n)] := by rw [← hud]; exact HM.out.drew
    show wpAnyH _ _ _ _ _ _ _ _ u.drew
    rw [hud]
    refine h_take (i := 0) (.pointer (some ⟨xn, 0, none⟩)) rfl (by kernel_rfl) (by kernel_rfl) (by kernel_rfl) (fun _ _ _ h => h) rfl hS0 (fun W hW => by simp [execOp, go_sem, Act.put, hsz, s1, s2, dl, dl2]) ?_
    refine h_take (i := 1) (.slice a m c) rfl (by kernel_rfl) (by kernel_rfl) (by kernel_rfl) (fun _ _ _ h => h) rfl hS0 (fun W hW => ex_getv (p := ⟨xn, 0, none⟩) rfl (.inr rfl) (by simp [go_sem, Act.put, hsz]) (bv_cell hW.at0 rfl)) ?_
    refine h_take (i := 2) (.int .i64 (m : Int)) rfl (by kernel_rfl) (by kernel_rfl) (by kernel_rfl) (fun _ _ _ h => h) rfl hS0 (fun W hW => by simp [execOp, go_sem, Act.put, hsz, s1, s2, dl, dl2]) ?_
    refine h_take (i := 3) (.slice pa q pc) rfl (by kernel_rfl) (by kernel_rfl) (by kernel_rfl) (fun _ _ _ h => h) rfl hS0 (fun W hW => ex_getv (p := ⟨X, 0, none⟩) rfl (.inr rfl) (by simp [go_sem, Act.put, hsz, s1]) (HX.out W hW.below)) ?_
    refine h_take (i := 4) (.int .i64 (q : Int)) rfl (by kernel_rfl) (by kernel_rfl) (by kernel_rfl) (fun _ _ _ h => h) rfl hS0 (fun W hW => by simp [execOp, go_sem, Act.put, hsz, s1, s2, dl, dl2]) ?_
    refine h_take (i := 5) (.bool true) rfl (by kernel_rfl) (by kernel_rfl) (by kernel_rfl) (fun _ _ _ h => h) rfl hS0 (fun W hW => by simp [execOp, go_sem, Act.put, hsz, s1, s2, dl, dl2]) ?_
    refine h_take (i := 6) (.bool true) rfl (by kernel_rfl) (by kernel_rfl) (by kernel_rfl) (fun _ _ _ h => h) rfl hS0 (fun W hW => by simp [execOp, go_sem, Act.put, hsz, s1, s2, dl, dl2]) ?_
    refine g_take (i := 7) (.pointer (some ⟨xn, 0, none⟩)) rfl (by kernel_rfl) (by kernel_rfl) (by kernel_rfl) (fun _ _ _ h => h) (by simp [Region.wanted, yielded, Act.put, hsz]) hS0 (fun W hW => by simp [execOp, go_sem, Act.put, hsz, s1, s2, dl, dl2]) ?_
    refine g_take (i := 8) (.slice a m c) rfl (by kernel_rfl) (by kernel_rfl) (by kernel_rfl) (fun _ _ _ h => h) (by simp [Region.wanted, yielded, Act.put, hsz]) hS0 (fun W hW => ex_getv (p := ⟨xn, 0, none⟩) rfl (.inr rfl) (by simp [go_sem, Act.put, hsz]) (bv_cell hW.at0 rfl)) ?_
    refine g_take (i := 9) (.slice pa q pc) rfl (by kernel_rfl) (by kernel_rfl) (by kernel_rfl) (fun _ _ _ h => h) (by simp [Region.wanted, yielded, Act.put, hsz]) hS0 (fun W hW => ex_getv (p := ⟨X, 0, none⟩) rfl (.inr rfl) (by simp [go_sem, Act.put, hsz, s1]) (HX.out W hW.below)) ?_
    refine g_take (i := 10) (.int .i64 (q : Int)) rfl (by kernel_rfl) (by kernel_rfl) (by kernel_rfl) (fun _ _ _ h => h) (by simp [Region.wanted, yielded, Act.put, hsz]) hS0 (fun W hW => by simp [execOp, go_sem, Act.put, hsz, s1, s2, dl, dl2]) ?_
    refine g_take (i := 11) (.slice a q c) rfl (by kernel_rfl) (by kernel_rfl) (by kernel_rfl) (fun _ _ _ h => h) (by simp [Region.wanted, yielded, Act.put, hsz]) hS0 (fun W hW => ex_slci rfl (by simp [go_sem, Act.put, hsz]) (by simp [go_sem, Act.put, hsz]) (hsl W)) ?_
    refine g_take (i := 12) (.slice pa q pc) rfl (by kernel_rfl) (by kernel_rfl) (by kernel_rfl) (fun _ _ _ h => h) (by simp [Region.wanted, yielded, Act.put, hsz]) hS0 (fun W hW => ex_getv (p := ⟨X, 0, none⟩) rfl (.inr rfl) (by simp [go_sem, Act.put, hsz, s1]) (HX.out W hW.below)) ?_
    refine g_call (i := 13) 20 #[.slice a q c, .slice pa q pc] rfl (by kernel_rfl) (by simp [Region.wanted, yielded, Act.put, hsz]) (by simp [execOp, go_sem, Act.put, hsz, s1, s2, dl, dl2]) ((HE.out _ hS0.below).mono ?_)
    rintro e u6 ⟨rfl, hb6⟩
    have hS6 := hS0.call hb6
    refine ⟨_, rfl, hS6, ?_⟩
    refine h_take (i := 14) (.bool d) rfl (by kernel_rfl) (by kernel_rfl) (by kernel_rfl) (fun _ _ _ h => h) rfl hS6 (fun W hW => by simp [execOp, go_sem, Act.put, hsz]) ?_
    refine h_take (i := 15) (.bool d) rfl (by kernel_rfl) (by kernel_rfl) (by kernel_rfl) (fun _ _ _ h => h) rfl hS6 (fun W hW => by simp [execOp, go_sem, Act.put, hsz]) ?_
    refine wpAnyH_done (by kernel_rfl) ?_ _
    subst ha0
    have HB6 : Hid (Below w.heap.size w u6) := hS6.below
    clear hsz s1 s2 hS0 hS6 hb6 hud HM HE HX hsl
    go_simp
    go_wp2
    go_ret
    exact ⟨rfl, HB6.out⟩
  · have dl : decide (q ≤ m) = false := decide_eq_false hle
    have dl2 : decide ((q : Int) ≤ (m : Int)) = false := decide_eq_false (by omega)
    rw [dl, Bool.false_and]
    clear HS
    go_enter Try.func42, Try.ntmps42
    repeat' (first | (go_big_may; first | (refine v_box rfl rfl rfl ?_; intro u xn hN; replace hM := hM.new hN; clear hN)) | go_values | go_skip | go_guarded | go_step | go_upon | (simp only [Int.not_lt, Int.not_le] at *; go_simp))
    have HM : Hid (Mm w u [(xn, 25, ncl (.slice a m c) n)]) := hM
    clear hM
    go_upto_region 1 with (fail)
    refine wp_abs (fun a0 => a0.tmps.size = 19 ∧ (∀ h, a0.tmps[1]'h = .pointer (some ⟨X, 0, none⟩)) ∧ (∀ h, a0.tmps[2]'h = .pointer (some ⟨xn, 0, none⟩))) ⟨rfl, fun _ => rfl, fun _ => rfl⟩ ?_
    rintro a0 ⟨hsz, s1, s2⟩ ha0
    refine wp_region_held (S := fun W => Mm w W [(xn, 25, ncl (.slice a m c) n)]) (by kernel_rfl) ?_
    obtain ⟨ud, hud⟩ : ∃ ud, u.drew = ud := ⟨_, rfl⟩
    have hS0 : Mm w ud [(xn, 25, ncl (.slice a m c) n)] := by rw [← hud]; exact HM.out.drew
    show wpAnyH _ _ _ _ _ _ _ _ u.drew
    rw [hud]
    refine h_take (i := 0) (.pointer (some ⟨xn, 0, none⟩)) rfl (by kernel_rfl) (by kernel_rfl) (by kernel_rfl) (fun _ _ _ h => h) rfl hS0 (fun W hW => by simp [execOp, go_sem, Act.put, hsz, s1, s2, dl, dl2]) ?_
    refine h_take (i := 1) (.slice a m c) rfl (by kernel_rfl) (by kernel_rfl) (by kernel_rfl) (fun _ _ _ h => h) rfl hS0 (fun W hW => ex_getv (p := ⟨xn, 0, none⟩) rfl (.inr rfl) (by simp [go_sem, Act.put, hsz]) (bv_cell hW.at0 rfl)) ?_
    refine h_take (i := 2) (.int .i64 (m : Int)) rfl (by kernel_rfl) (by kernel_rfl) (by kernel_rfl) (fun _ _ _ h => h) rfl hS0 (fun W hW => by simp [execOp, go_sem, Act.put, hsz, s1, s2, dl, dl2]) ?_
    refine h_take (i := 3) (.slice pa q pc) rfl (by kernel_rfl) (by kernel_rfl) (by kernel_rfl) (fun _ _ _ h => h) rfl hS0 (fun W hW => ex_getv (p := ⟨X, 0, none⟩) rfl (.inr rfl) (by simp [go_sem, Act.put, hsz, s1]) (HX.out W hW.below)) ?_
    refine h_take (i := 4) (.int .i64 (q : Int)) rfl (by kernel_rfl) (by kernel_rfl) (by kernel_rfl) (fun _ _ _ h => h) rfl hS0 (fun W hW => by simp [execOp, go_sem, Act.put, hsz, s1, s2, dl, dl2]) ?_
    refine h_take (i := 5) (.bool false) rfl (by kernel_rfl) (by kernel_rfl) (by kernel_rfl) (fun _ _ _ h => h) rfl hS0 (fun W hW => by simp [execOp, go_sem, Act.put, hsz, s1, s2, dl, dl2]) ?_
    refine h_take (i := 6) (.bool false) rfl (by kernel_rfl) (by kernel_rfl) (by kernel_rfl) (fun _ _ _ h => h) rfl hS0 (fun W hW => by simp [execOp, go_sem, Act.put, hsz, s1, s2, dl, dl2]) ?_
    refine g_pass (i := 7) rfl (by kernel_rfl) (by kernel_rfl) (by kernel_rfl) (fun _ _ _ h => h) (by simp [Region.wanted, yielded, Act.put, hsz]) hS0 ?_
    refine g_pass (i := 8) rfl (by kernel_rfl) (by kernel_rfl) (by kernel_rfl) (fun _ _ _ h => h) (by simp [Region.wanted, yielded, Act.put, hsz]) hS0 ?_
    refine g_pass (i := 9) rfl (by kernel_rfl) (by kernel_rfl) (by kernel_rfl) (fun _ _ _ h => h) (by simp [Region.wanted, yielded, Act.put, hsz]) hS0 ?_
    refine g_pass (i := 10) rfl (by kernel_rfl) (by kernel_rfl) (by kernel_rfl) (fun _ _ _ h => h) (by simp [Region.wanted, yielded, Act.put, hsz]) hS0 ?_
    refine g_pass (i := 11) rfl (by kernel_rfl) (by kernel_rfl) (by kernel_rfl) (fun _ _ _ h => h) (by simp [Region.wanted, yielded, Act.put, hsz]) hS0 ?_
    refine g_pass (i := 12) rfl (by kernel_rfl) (by kernel_rfl) (by kernel_rfl) (fun _ _ _ h => h) (by simp [Region.wanted, yielded, Act.put, hsz]) hS0 ?_
    refine g_none (i := 13) rfl (by kernel_rfl) (by simp [Region.wanted, yielded, Act.put, hsz]) hS0 ?_
    refine h_take (i := 14) (.bool false) rfl (by kernel_rfl) (by kernel_rfl) (by kernel_rfl) (fun _ _ _ h => h) rfl hS0 (fun W hW => by simp [execOp, go_sem, Act.put, hsz, s1, s2, dl, dl2]) ?_
    refine h_take (i := 15) (.bool false) rfl (by kernel_rfl) (by kernel_rfl) (by kernel_rfl) (fun _ _ _ h => h) rfl hS0 (fun W hW => by simp [execOp, go_sem, Act.put, hsz, s1, s2, dl, dl2]) ?_
    refine wpAnyH_done (by kernel_rfl) ?_ _
    subst ha0
    have HB6 : Hid (Below w.heap.size w ud) := hS0.below
    clear hsz s1 s2 hS0 hud HM HX
    go_simp
    go_wp2
    go_ret
    exact ⟨rfl, HB6.out⟩
/-- a cell that holds a function -/
theorem v_celf {ops : Array Oper} {rest : List Oper} {o : Oper} {a : Act} {w : World} {Q : Exit → Act → World → Prop} (hgd : Region.wanted o (yielded ops a.tmps) = true) {x : Operand} (ho : o.op = .load 43 x)
    {p : Addr} {v : Value} (hx : a.eval x = .pointer (some p)) (hc : w.cell? p = some v)
    (h : wpList Try.prog ops Q rest (a.put o.dst v) w) : wpList Try.prog ops Q (o :: rest) a w := by
  refine wpList_step fun K hK' => ?_
  rw [if_pos hgd]
  have hs : (Instr.loadAt 43 (.pointer (some p))).run Try.prog w = .ok v w := by simp [go_sem, hc]
  unfold Oper.wp execOp
  simp only [ho, hx, Sem.run_bind, hs, Result.andThen_ok, Sem.run_pure]
  exact hK' _ _ h
def fv1 (X : Nat) : Value := .func (.func 42) #[] #[.pointer (some ⟨X, 0, none⟩)]
set_option maxHeartbeats 4000000 in
theorem stay_any (v pv : Value) (n : Nd) (p : List Int) (X Y : Nat) (w : World) (h : Ris w v n.1) (hp : Ris w pv p) (hX : w.heap[X]? = some (bv 23 [pv])) (hY : w.heap[Y]? = some (bv 43 [fv1 X])) : Calls Try.prog 44 #[agv (ncl v n), .pointer (some ⟨Y, 0, none⟩)] w fun e u => e = .returned (.bool (!und n.1 p)) ∧ Below w.heap.size w u := by
  have HC : Hid (∀ u, Below w.heap.size w u → Calls Try.prog 42 #[agv (ncl v n), .pointer (some ⟨X, 0, none⟩)] u fun e u' => e = .returned (.bool (und n.1 p)) ∧ Below u.heap.size u u') := fun u hb => gone_any v pv n p X u (h.below hb) (hp.below hb) (keep hX hb)
  have HY : Hid (∀ u, Below w.heap.size w u → u.cell? ⟨Y, 0, none⟩ = some (.func (.func 42) #[] #[.pointer (some ⟨X, 0, none⟩)])) := fun u hb => bv_cell (keep hY hb) rfl
  have eg := enters_of Try.func42 (by kernel_rfl) rfl
  obtain ⟨b, hb⟩ : ∃ b, und n.1 p = b := ⟨_, rfl⟩
  simp only [hb] at HC ⊢
  have hM := Mm.nil w
  clear h hp hX hY hb
  go_enter Try.func44, Try.ntmps44
  repeat' (first | (go_big_may; first | (refine v_box rfl rfl rfl ?_; intro u xn hN; replace hM := hM.new hN; clear hN) | (refine v_celf rfl rfl rfl (HY.out _ hM.below) ?_) | (refine v_load rfl rfl row_node rfl hM.at0 (Nat.le_refl 4) rfl ?_)) | go_values | go_skip | go_guarded | go_step | go_upon | (simp only [Int.not_lt, Int.not_le] at *; go_simp))
  refine (HC.out _ hM.below).mono ?_
  rintro e u1 ⟨rfl, hb⟩
  replace hM := hM.call hb
  clear hb
  repeat' (first | go_values | go_skip | go_guarded | go_step | go_upon | (simp only [Int.not_lt, Int.not_le] at *; go_simp))
  go_ret
  exact ⟨rfl, hM.below⟩
end Go.Proofs.Ytemlafdmeaobfaa.topo
