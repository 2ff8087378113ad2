/- topo: what plugkeep.topoLives answers. -/
import Derived.Test.YtemlafdmeaobfabTopJ
namespace Go.Proofs.Ytemlafdmeaobfab.topo
open Go Go.RowKit Go.Proofs.Ytemlafdmeaobfab.route
set_option linter.unusedVariables false
set_option linter.unusedSimpArgs false
set_option maxRecDepth 100000

theorem gd_six {T : List Nd} (h : Gd T) : ∀ n ∈ T, n.1.length ≤ 6 := fun n hn => (chk_ok (h.rgt n hn).1).2.1
theorem ok48_of {M : NL} (h : ∀ n ∈ tr M, n.1.length ≤ 6) : ok48 M := fun q hq => by
  have := h q.2 (List.mem_map.2 ⟨q, hq, rfl⟩)
  omega
theorem reach48 {L : NL} (h : ∀ q ∈ L, q.2.1.length * 8 ≤ reachBytes) : ok48 L := fun q hq => by
  have := h q hq
  unfold reachBytes at this
  omega
theorem ris_bv {u : World} {B : Nat} {l : List Int} (h : u.heap[B]? = some (bv 3 (ivs l))) (hm : l.length ≤ maxLen) : Ris u (.slice (some ⟨B, 0, none⟩) l.length l.length) l :=
  ⟨_, _, rfl, Nat.le_refl _, hm, fun _ => ⟨B, 0, rfl, bx_lt h, fun j x hx => by rw [Nat.zero_add]; exact bv_cell h (ivs_at hx)⟩⟩
theorem v_bi1 {ops : Array Oper} {rest : List Oper} {o : Oper} {a : Act} {w : World} {Q : Exit → Act → World → Prop} (hgd : Region.wanted o (yielded ops a.tmps) = true) {x : Operand} (ho : o.op = .buildSlice 23 1 #[(0, x)]) {i : Int} (hx : a.eval x = .int .i64 i)
    (h : ∀ u B, New w u B 3 (ivs [i]) → wpList Try.prog ops Q rest (a.put o.dst (.slice (some ⟨B, 0, none⟩) 1 1)) u) : wpList Try.prog ops Q (o :: rest) a w := by
  refine wpList_step fun K hK' => ?_
  rw [if_pos hgd]
  have hr : (Instr.buildSlice 23 1 #[(0, .int .i64 i)]).run Try.prog w = .ok (.slice (some ⟨w.heap.size, 0, none⟩) 1 1) (w.alloc (bv 3 (ivs [i]))) := by kernel_rfl
  unfold Oper.wp execOp
  simp only [ho, List.map_toArray, List.map_cons, List.map_nil, hx, Sem.run_bind, hr, Result.andThen_ok, Sem.run_pure]
  exact hK' _ _ (h _ _ (New.alloc w 3 _))
theorem v_bi2 {ops : Array Oper} {rest : List Oper} {o : Oper} {a : Act} {w : World} {Q : Exit → Act → World → Prop} (hgd : Region.wanted o (yielded ops a.tmps) = true) {x y : Operand} (ho : o.op = .buildSlice 23 2 #[(0, x), (1, y)]) {i j : Int} (hx : a.eval x = .int .i64 i) (hy : a.eval y = .int .i64 j)
    (h : ∀ u B, New w u B 3 (ivs [i, j]) → wpList Try.prog ops Q rest (a.put o.dst (.slice (some ⟨B, 0, none⟩) 2 2)) u) : wpList Try.prog ops Q (o :: rest) a w := by
  refine wpList_step fun K hK' => ?_
  rw [if_pos hgd]
  have hr : (Instr.buildSlice 23 2 #[(0, .int .i64 i), (1, .int .i64 j)]).run Try.prog w = .ok (.slice (some ⟨w.heap.size, 0, none⟩) 2 2) (w.alloc (bv 3 (ivs [i, j]))) := by kernel_rfl
  unfold Oper.wp execOp
  simp only [ho, List.map_toArray, List.map_cons, List.map_nil, hx, hy, Sem.run_bind, hr, Result.andThen_ok, Sem.run_pure]
  exact hK' _ _ (h _ _ (New.alloc w 3 _))
def n1 : Nd := ([1], 1, 2, 0)
def n2 : Nd := ([1, 2], 2, 0, 9)
theorem lv1 : plC [] n1 = 0 := by decide +kernel
theorem lv1T : plT [] n1 = [n1] := by decide +kernel
theorem lv2 : plC [n1] n2 = 0 := by decide +kernel
theorem lv2T : plT [n1] n2 = [n1, n2] := by decide +kernel
theorem lv3 : fnN [n1, n2] [1, 2] = n2 ∧ fnB [n1, n2] [1, 2] = true := by decide +kernel
theorem bld1 (a : Option Addr) (m c : Nat) : ∀ w, (Instr.build 25 #[(0, .slice a m c), (1, .int .i64 1), (2, .int .i64 2)]).run Try.prog w = .ok (agv (ncl (.slice a m c) n1)) w := fun w => by kernel_rfl
theorem bld2 (a : Option Addr) (m c : Nat) : ∀ w, (Instr.build 25 #[(0, .slice a m c), (1, .int .i64 2), (3, .int .i64 9)]).run Try.prog w = .ok (agv (ncl (.slice a m c) n2)) w := fun w => by kernel_rfl
set_option maxHeartbeats 4000000 in
theorem lives_any (w : World) : Calls Try.prog 7 #[] w fun e w' => e = .returned (.bool true) ∧ Below w.heap.size w w' := by
  have HP1 : Hid (∀ u v, Ris u v [1] → Calls Try.prog 6 #[.slice none 0 0, agv (ncl v n1)] u fun e u' => ∃ v' M, e = .returned (.tuple #[v', .int .i64 0]) ∧ Tt u' u.heap.size v' M ∧ tr M = [n1] ∧ Below u.heap.size u u') := fun u v hr => by
    have := plug_any nilS v [] n1 u (rt_nil u) hr (fun q hq => by simp at hq)
    rw [show tr [] = [] from rfl, lv1, lv1T] at this
    exact this
  have HP2 : Hid (∀ u v (va : Value) M, Rt u va M → tr M = [n1] → Ris u v [1, 2] → Calls Try.prog 6 #[va, agv (ncl v n2)] u fun e u' => ∃ v' M, e = .returned (.tuple #[v', .int .i64 0]) ∧ Tt u' u.heap.size v' M ∧ tr M = [n1, n2] ∧ Below u.heap.size u u') := fun u v va M hM hT hr => by
    have := plug_any va v M n2 u hM hr (ok48_of (by rw [hT]; decide +kernel))
    rw [hT, lv2, lv2T] at this
    exact this
  have HF : Hid (∀ u v (va : Value) M, Rt u va M → tr M = [n1, n2] → Ris u v [1, 2] → Calls Try.prog 15 #[va, v] u fun e u' => ∃ v', e = .returned (.tuple #[agv (ncl v' n2), .bool true]) ∧ On u' u.heap.size v' n2 ∧ Below u.heap.size u u') := fun u v va M hM hT hr => by
    have := find_any va v M [1, 2] u hM hr (ok48_of (by rw [hT]; decide +kernel))
    rw [hT, lv3.1, lv3.2] at this
    exact this
  have hM := Mm.nil w
  go_enter Try.func7, Try.ntmps7
  repeat' (first | (go_big_may; first | (refine v_bi1 rfl rfl rfl ?_; intro u xb hN; replace hM := hM.new hN; clear hN) | (refine v_build rfl rfl (bld1 _ _ _) ?hbv ?_; (case hbv => simp [Act.eval, Act.put]))) | go_values | go_skip | go_guarded | go_step | go_upon | (simp only [Int.not_lt, Int.not_le] at *; go_simp))
  refine (HP1.out _ _ (ris_bv hM.at0 (by decide))).mono ?_
  rintro e u1 ⟨v1, M1, rfl, ht1, hT1, hb⟩
  replace hM := (hM.sub (.cons _ (List.Sublist.refl _))).call hb
  have HR1 : Hid (∀ x, Below u1.heap.size u1 x → Rt x v1 M1) := fun x hx => ht1.rt.below hx
  have HT1 : Hid (tr M1 = [n1]) := hT1
  have HB1 : Hid (Below w.heap.size w u1) := hM.below
  clear hb ht1 hT1 HP1
  replace hM := Mm.nil u1
  repeat' (first | (go_big_may; first | (refine v_bi2 rfl rfl rfl rfl ?_; intro u xb hN; replace hM := hM.new hN; clear hN) | (refine v_build rfl rfl (bld2 _ _ _) ?hbv ?_; (case hbv => simp [Act.eval, Act.put]))) | go_values | go_skip | go_guarded | go_step | go_upon | (simp only [Int.not_lt, Int.not_le] at *; go_simp))
  refine (HP2.out _ _ _ M1 (HR1.out _ hM.below) HT1.out (ris_bv hM.at0 (by decide))).mono ?_
  rintro e u2 ⟨v2, M2, rfl, ht2, hT2, hb⟩
  have HB2 : Hid (Below w.heap.size w u2) := bsq HB1.out (bsq hM.below hb)
  have HR2 : Hid (∀ x, Below u2.heap.size u2 x → Rt x v2 M2) := fun x hx => ht2.rt.below hx
  have HT2 : Hid (tr M2 = [n1, n2]) := hT2
  obtain ⟨va, vc, hv2, _, _⟩ := ht2.rt.form
  have hl2 : M2.length = 2 := by rw [← tr_len, hT2]; rfl
  rw [hl2] at hv2
  subst hv2
  clear hb ht2 hT2 HP2 HR1 HT1 HB1 hM
  have hM := Mm.nil u2
  repeat' (first | (go_big_may; first | (refine v_bi2 rfl rfl rfl rfl ?_; intro u xb hN; replace hM := hM.new hN; clear hN)) | go_values | go_skip | go_guarded | go_step | go_upon | (simp only [Int.not_lt, Int.not_le] at *; go_simp))
  refine (HF.out _ _ _ M2 (HR2.out _ hM.below) HT2.out (ris_bv hM.at0 (by decide))).mono ?_
  rintro e u3 ⟨v3, rfl, ho, hb⟩
  have HB3 : Hid (Below w.heap.size w u3) := bsq HB2.out (bsq hM.below hb)
  have HV : Hid (Vs (ncl v3 n2) 4) := ncl_vs n2 (ris_one ho.ris)
  have G3 : Hid ((ncl v3 n2)[3]? = some (.int .i64 9)) := rfl
  clear hb ho HF HR2 HT2 HB2 hM
  have hM := Mm.nil u3
  repeat' (first | (go_big_may; first | (refine v_alloc rfl zer_node rfl ?_; intro u xn hN; replace hM := hM.new hN; clear hN) | (refine v_fill rfl rfl row_node rfl rfl hM.at0 HV.out rfl ?_; intro u hv hc; replace hM := hM.put0 hc hv; clear hv hc) | (refine v_get rfl rfl (.inl rfl) rfl hM.at0 G3.out ?_)) | go_values | go_skip | go_guarded | go_step | go_upon | (simp only [Int.not_lt, Int.not_le] at *; go_simp))
  go_ret
  exact ⟨rfl, bsq HB3.out hM.below⟩
end Go.Proofs.Ytemlafdmeaobfab.topo
