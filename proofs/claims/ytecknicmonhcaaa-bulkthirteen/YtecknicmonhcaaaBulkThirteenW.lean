/- BulkThirteen: the walk. (Written by tools/genbulthirteen.py.) -/
import Derived.Test.YtecknicmonhcaaaBulL
import Derived.Test.YtecknicmonhcaaaBulW
namespace Go.Proofs.Ytecknicmonhcaaa.bulkThirteen
open Go Go.RowKit Go.PlainAid Go.Proofs.Ytecknicmonhcaaa.lane Go.Proofs.Ytecknicmonhcaaa.pipe Go.Proofs.Ytecknicmonhcaaa.strike Go.Proofs.Ytecknicmonhcaaa.bulk
set_option linter.unusedVariables false
set_option linter.unusedSimpArgs false
set_option maxRecDepth 100000

theorem bs_13 (b0 b1 b2 b3 b4 b5 b6 b7 b8 b9 b10 b11 b12 : Bool) (w : World) : (Instr.buildSlice 52 13 #[(0, .bool b0), (1, .bool b1), (2, .bool b2), (3, .bool b3), (4, .bool b4), (5, .bool b5), (6, .bool b6), (7, .bool b7), (8, .bool b8), (9, .bool b9), (10, .bool b10), (11, .bool b11), (12, .bool b12)]).run Try.prog w = .ok (.slice (some ⟨w.heap.size, 0, none⟩) 13 13) (w.alloc (bx 4 [.bool b0, .bool b1, .bool b2, .bool b3, .bool b4, .bool b5, .bool b6, .bool b7, .bool b8, .bool b9, .bool b10, .bool b11, .bool b12])) := by kernel_rfl
theorem v_bsN {ops : Array Oper} {rest : List Oper} {o : Oper} {a : Act} {w : World} {Q : Exit → Act → World → Prop} (hgd : Region.wanted o (yielded ops a.tmps) = true) {t e : TypeId} {n : Nat} {ps : Array (Nat × Operand)} (ho : o.op = .buildSlice t n ps) {vs : Array (Nat × Value)} {V : List Value}
    (hb : ∀ w, (Instr.buildSlice t n vs).run Try.prog w = .ok (.slice (some ⟨w.heap.size, 0, none⟩) n n) (w.alloc (bx e V))) (hv : ps.map (fun q => (q.1, a.eval q.2)) = vs)
    (h : ∀ u B, New w u B e V → wpList Try.prog ops Q rest (a.put o.dst (.slice (some ⟨B, 0, none⟩) n n)) u) : wpList Try.prog ops Q (o :: rest) a w := by
  subst hv
  refine wpList_step fun K hK' => ?_
  rw [if_pos hgd]
  unfold Oper.wp execOp
  simp only [ho, Sem.run_bind, hb, Result.andThen_ok, Sem.run_pure]
  exact hK' _ _ (h _ _ (New.alloc w e V))
theorem swap {w u : World} {a b : Bk} {L : List Bk} (h : Mm w u (a :: b :: L)) : Mm w u (b :: a :: L) where
  lies := fun x hx => h.lies x (by simp only [List.mem_cons] at hx ⊢; rcases hx with q | q | q <;> simp [q])
  own := fun x hx => h.own x (by simp only [List.mem_cons] at hx ⊢; rcases hx with q | q | q <;> simp [q])
  ap := by
    have := h.ap
    simp only [List.map_cons, List.nodup_cons, List.mem_cons, not_or] at this ⊢
    exact ⟨⟨fun e => this.1.1 e.symm, this.2.1⟩, this.1.2, this.2.2⟩
  below := h.below
/-- thirteen flags, of which the one for case c is set -/
def oneL (c : Int) : List Value := (List.range 13).map fun (i : Nat) => Value.bool (decide (c = (i : Int) + 1))
theorem one_at (c : Int) (k : Nat) (hk : k < 13) : (oneL c)[k]? = some (.bool (decide (c = (k : Int) + 1))) := by
  unfold oneL
  rw [List.getElem?_map, List.getElem?_range hk]; rfl
theorem one_len (c : Int) : (oneL c).length = 13 := by unfold oneL; simp
set_option maxHeartbeats 16000000 in
theorem walk (x d : Mv) (w : World) (hx : True) (hd : True) :
    Calls Try.prog 8 #[ag (mvl x), ag (mvl d)] w fun e w' => e = .returned (.bool true) ∧ Below w.heap.size w w' := by
  have HL : Hid (∀ u, Calls Try.prog 22 #[] u fun e w' => e = .returned (.bool true) ∧ Below u.heap.size u w') := fun u => lives_any u
  have hM := Mm.nil w
  by_cases hok : mvB x = true ∧ mvB d = true
  case neg =>
    have HJ : Hid (∀ u, Calls Try.prog 17 #[ag (mvl x), ag (mvl d)] u fun e w' => e = .returned (.tuple #[ag (vdl vd0), .int .i64 1]) ∧ Below u.heap.size u w') := fun u => by
      have := judge_any x d u
      rw [(jd_no hok).1, (jd_no hok).2] at this
      exact this
    have HE := eqs_v vd0
    clear hok hx hd
    go_enter Try.func8, Try.ntmps8
    repeat' (first | (go_big_may; first | (refine v_box rfl rfl rfl ?_; intro u za hN; replace hM := Mm.new (L := []) hM hN; clear hN) | (refine v_box rfl rfl rfl ?_; intro u zb hN; replace hM := hM.new hN; clear hN) | (refine v_load rfl rfl row_move rfl hM.at1 (Nat.le_refl _) (cut_all rfl) ?_) | (refine v_load rfl rfl row_move rfl hM.at0 (Nat.le_refl _) (cut_all rfl) ?_)) | go_values | go_skip | go_guarded | go_step | go_upon | (simp only [Int.not_lt, Int.not_le] at *; go_simp))
    refine (HJ.out _).mono ?_
    rintro e u1 ⟨rfl, hb⟩
    replace hM := hM.call hb
    clear hb HJ
    repeat' (first | (go_big_may; first | (refine v_alloc rfl zer_verdict rfl ?_; intro u zv hN; replace hM := hM.new hN; clear hN) | (refine v_fill rfl rfl row_verdict rfl rfl hM.at0 (vdl_vs vd0) rfl ?_; intro u hv hc; replace hM := hM.put0 hc hv; clear hv hc)) | go_values | go_skip | go_guarded | go_step | go_upon | (simp only [Int.not_lt, Int.not_le] at *; go_simp))
    refine (HL.out _).mono ?_
    rintro e u1 ⟨rfl, hb⟩
    replace hM := hM.call hb
    clear hb
    repeat' (first | go_values | go_skip | go_guarded | go_step | go_upon | (simp only [Int.not_lt, Int.not_le] at *; go_simp))
    refine (HL.out _).mono ?_
    rintro e u1 ⟨rfl, hb⟩
    replace hM := hM.call hb
    clear hb HL
    repeat' (first | (go_big_may; first | (refine v_load rfl rfl row_verdict rfl hM.at0 (Nat.le_refl _) (cut_all rfl) ?_) | (refine v_build rfl rfl bld_verdict0 ?hbv ?_; (case hbv => simp [Act.eval, Act.put])) | (refine v_eqs rfl rfl HE rfl rfl ?_)) | go_values | go_skip | go_guarded | go_step | go_upon | (simp only [Int.not_lt, Int.not_le] at *; go_simp))
    go_ret
    exact ⟨rfl, hM.below⟩
  obtain ⟨h1, h2⟩ := hok
  have hj := jd_ok h1 h2
  have a1 := (mv_iff x).1 h1
  have a2 := (mv_iff d).1 h2
  have hmk := mkd_iff h1 h2
  have hcv := cmp_val d.len x.len
  obtain ⟨hh, hl⟩ := x
  obtain ⟨dh, dl⟩ := d
  simp only at a1 a2 hmk hcv
  obtain ⟨c, hc⟩ : ∃ c, csV ⟨hh, hl⟩ ⟨dh, dl⟩ = c := ⟨_, rfl⟩
  rw [hc] at hj hmk
  have HC : Hid ((hh = 0 ∧ dh = 0 ∧ c = 1) ∨ (hh = 0 ∧ dh = 1 ∧ c = 2) ∨ (hh = 0 ∧ dh = 2 ∧ c = 3) ∨ (hh = 1 ∧ dh = 0 ∧ c = 4) ∨ (hh = 1 ∧ dh = 1 ∧ dl < hl ∧ c = 5) ∨ (hh = 1 ∧ dh = 1 ∧ hl = dl ∧ c = 6) ∨ (hh = 1 ∧ dh = 1 ∧ hl < dl ∧ c = 7) ∨ (hh = 1 ∧ dh = 2 ∧ c = 8)
      ∨ (hh = 2 ∧ dh = 0 ∧ c = 9) ∨ (hh = 2 ∧ dh = 1 ∧ c = 10) ∨ (hh = 2 ∧ dh = 2 ∧ dl < hl ∧ c = 11) ∨ (hh = 2 ∧ dh = 2 ∧ hl = dl ∧ c = 12) ∨ (hh = 2 ∧ dh = 2 ∧ hl < dl ∧ c = 13)) := by
    show _ ∨ _
    unfold csV at hc
    simp only at hc
    rcases a1 with ⟨a, b⟩ | ⟨a | a, b⟩ <;> rcases a2 with ⟨p, q⟩ | ⟨p | p, q⟩ <;> (subst a p; simp at hc; subst hc; simp <;> rcases hcv with ⟨r, t⟩ | ⟨r, t⟩ | ⟨r, t⟩ <;> rw [r] <;> omega)
  have HR : Hid (1 ≤ c ∧ c ≤ 13) := by
    show _ ∧ _
    have := HC.out
    omega
  obtain ⟨q, hq⟩ : ∃ q, min hl dl = q := ⟨_, rfl⟩
  obtain ⟨m, r, k0, hV, HT⟩ : ∃ m r k0 : Int, jdV ⟨hh, hl⟩ ⟨dh, dl⟩ = ⟨c, m, r, k0⟩ ∧ Hid (((dh = 0 ∧ k0 = 0 ∧ m = dl) ∨ (dh ≠ 0 ∧ dh = hh ∧ dl ≤ hl ∧ k0 = 0 ∧ m = dl) ∨ (dh ≠ 0 ∧ dh = hh ∧ hl < dl ∧ k0 = 2 ∧ m = 0) ∨ (dh ≠ 0 ∧ dh ≠ hh ∧ k0 = 2 ∧ m = 0)) ∧ m + r = hl ∧ 0 ≤ m ∧ m ≤ q ∧ q ≤ hl ∧ hl ≤ 4294967295 ∧ min hl dl = q) := by
    have hj2 : jdV ⟨hh, hl⟩ ⟨dh, dl⟩ = (if mkd c = true then (⟨c, 0, hl, 2⟩ : Vd) else ⟨c, min hl dl, hl - min hl dl, 0⟩) := hj.2
    rw [hj2]
    cases hk : mkd c
    · have ha := hmk.1 hk
      rw [if_neg (by simp)]
      refine ⟨_, _, _, rfl, ?_⟩
      show _ ∧ _
      refine ⟨?_, by omega, by omega, by omega, by omega, by omega, hq⟩
      rcases ha with p | ⟨p, s⟩
      · exact .inl ⟨p, rfl, by omega⟩
      · by_cases p0 : dh = 0
        · exact .inl ⟨p0, rfl, by omega⟩
        · exact .inr (.inl ⟨p0, p, s, rfl, by omega⟩)
    · have ha : ¬ (dh = 0 ∨ dh = hh ∧ dl ≤ hl) := fun z => by rw [hmk.2 z] at hk; cases hk
      rw [if_pos rfl]
      refine ⟨_, _, _, rfl, ?_⟩
      show _ ∧ _
      refine ⟨?_, by omega, by omega, by omega, by omega, by omega, hq⟩
      by_cases p : dh = hh
      · exact .inr (.inr (.inl ⟨fun z => ha (.inl z), p, by omega, rfl, rfl⟩))
      · exact .inr (.inr (.inr ⟨fun z => ha (.inl z), p, rfl, rfl⟩))
  have HJ : Hid (∀ u, Calls Try.prog 17 #[ag (mvl ⟨hh, hl⟩), ag (mvl ⟨dh, dl⟩)] u fun e w' => e = .returned (.tuple #[ag (vdl ⟨c, m, r, k0⟩), .int .i64 0]) ∧ Below u.heap.size u w') := fun u => by
    have := judge_any ⟨hh, hl⟩ ⟨dh, dl⟩ u
    rw [hj.1, hV] at this
    exact this
  clear hj a1 a2 hmk hcv hV hc h1 h2 hq hx hd
  go_enter Try.func8, Try.ntmps8
  repeat' (first | (go_big_may; first | (refine v_box rfl rfl rfl ?_; intro u za hN; replace hM := Mm.new (L := []) hM hN; clear hN) | (refine v_box rfl rfl rfl ?_; intro u zb hN; replace hM := hM.new hN; clear hN) | (refine v_load rfl rfl row_move rfl hM.at1 (Nat.le_refl _) (cut_all rfl) ?_) | (refine v_load rfl rfl row_move rfl hM.at0 (Nat.le_refl _) (cut_all rfl) ?_)) | go_values | go_skip | go_guarded | go_step | go_upon | (simp only [Int.not_lt, Int.not_le] at *; go_simp))
  refine (HJ.out _).mono ?_
  rintro e u1 ⟨rfl, hb⟩
  replace hM := hM.call hb
  clear hb HJ
  repeat' (first | (go_big_may; first | (refine v_alloc rfl zer_verdict rfl ?_; intro u zv hN; replace hM := hM.new hN; clear hN) | (refine v_fill rfl rfl row_verdict rfl rfl hM.at0 (vdl_vs ⟨c, m, r, k0⟩) rfl ?_; intro u hv hc; replace hM := hM.put0 hc hv; clear hv hc)) | go_values | go_skip | go_guarded | go_step | go_upon | (simp only [Int.not_lt, Int.not_le] at *; go_simp))
  refine (HL.out _).mono ?_
  rintro e u1 ⟨rfl, hb⟩
  replace hM := hM.call hb
  clear hb HL
  repeat' (first | go_values | go_skip | go_guarded | go_step | go_upon | (simp only [Int.not_lt, Int.not_le] at *; go_simp))
  go_cut [7, 8] from 32 to 33 (fun hv dv wx => ∃ yh yd : Nat, hv = .pointer (some ⟨yh, 0, none⟩) ∧ dv = .pointer (some ⟨yd, 0, none⟩) ∧ Hid (Mm w wx [(yd, 37, mvl ⟨dh, dl⟩), (yh, 37, mvl ⟨hh, hl⟩), (zv, 39, vdl ⟨c, m, r, k0⟩), (zb, 37, mvl ⟨dh, dl⟩), (za, 37, mvl ⟨hh, hl⟩)]))
  case first =>
    refine reg.wp_abs (fun a0 => a0.tmps.size = 271 ∧ (∀ h, a0.tmps[2]'h = .pointer (some ⟨za, 0, none⟩)) ∧ (∀ h, a0.tmps[3]'h = .pointer (some ⟨zb, 0, none⟩))) ⟨rfl, fun _ => rfl, fun _ => rfl⟩ ?_
    rintro a0 ⟨hsz, s2, s3⟩ ha0
    refine reg.wp_region_E (S := fun W => Ls W [(zb, 37, (mvl ⟨dh, dl⟩)), (za, 37, (mvl ⟨hh, hl⟩))]) (E := fun _ => false) (by kernel_rfl) ?_
    replace hM := hM.drew
    refine reg.e_take (i := 0) (ag ((mvl ⟨hh, hl⟩))) rfl (by kernel_rfl) (by kernel_rfl) (by kernel_rfl) (by kernel_rfl) (fun _ _ _ h => h) (reg.wanted_none rfl) (hM.ls (by simp)) (fun W hW => ex_load rfl row_move (by simp [go_sem, Act.put, hsz, s2, s3]) hW.at1 (Nat.le_refl 2) (cut_all rfl)) ?_
    refine reg.e_take (i := 1) (ag ((mvl ⟨dh, dl⟩))) rfl (by kernel_rfl) (by kernel_rfl) (by kernel_rfl) (by kernel_rfl) (fun _ _ _ h => h) (reg.wanted_none rfl) (hM.ls (by simp)) (fun W hW => ex_load rfl row_move (by simp [go_sem, Act.put, hsz, s2, s3]) hW.at0 (Nat.le_refl 2) (cut_all rfl)) ?_
    refine reg.e_two 2 3 (by kernel_rfl) rfl rfl ?_ ?_
    · refine r_alloc (i := 2) rfl (reg.wanted_none rfl) rfl zer_move ?_
      intro ru1 yh rhn
      replace hM := hM.new rhn
      clear rhn
      refine ⟨hM.ls (by simp), ?_⟩
      refine reg.e_one 3 (by kernel_rfl) rfl ?_
      refine r_alloc (i := 3) rfl (reg.wanted_none rfl) rfl zer_move ?_
      intro ru2 yd rhn
      replace hM := hM.new rhn
      clear rhn
      refine ⟨hM.ls (by simp), ?_⟩
      refine reg.e_one 4 (by kernel_rfl) rfl ?_
      refine r_fill (i := 4) rfl (reg.wanted_none rfl) rfl row_move (by simp [go_sem, Act.put, hsz, s2, s3]) (by simp [go_sem, Act.put, hsz, s2, s3]) hM.at1 (mvl_vs ⟨hh, hl⟩) rfl ?_
      intro ru3 rhv rhc
      replace hM := hM.put1 rhc rhv
      clear rhc rhv
      refine ⟨hM.ls (by simp), ?_⟩
      refine reg.e_one 5 (by kernel_rfl) rfl ?_
      refine r_fill (i := 5) rfl (reg.wanted_none rfl) rfl row_move (by simp [go_sem, Act.put, hsz, s2, s3]) (by simp [go_sem, Act.put, hsz, s2, s3]) hM.at0 (mvl_vs ⟨dh, dl⟩) rfl ?_
      intro ru4 rhv rhc
      replace hM := hM.put0 rhc rhv
      clear rhc rhv
      refine ⟨hM.ls (by simp), ?_⟩
      refine reg.e_done (by kernel_rfl) ?_ _
      subst ha0
      clear hsz s2 s3
      go_simp
      repeat' (first | go_values | go_skip | go_guarded | go_step | go_upon | (simp only [Int.not_lt, Int.not_le] at *; go_simp))
      go_meet
      case rel => first | exact ⟨yh, yd, rfl, rfl, hM⟩ | exact ⟨yh, yd, rfl, rfl, swap hM⟩
    · refine r_alloc (i := 3) rfl (reg.wanted_none rfl) rfl zer_move ?_
      intro ru5 yd rhn
      replace hM := hM.new rhn
      clear rhn
      refine ⟨hM.ls (by simp), ?_⟩
      refine reg.e_one 2 (by kernel_rfl) rfl ?_
      refine r_alloc (i := 2) rfl (reg.wanted_none rfl) rfl zer_move ?_
      intro ru6 yh rhn
      replace hM := hM.new rhn
      clear rhn
      refine ⟨hM.ls (by simp), ?_⟩
      refine reg.e_one 4 (by kernel_rfl) rfl ?_
      refine r_fill (i := 4) rfl (reg.wanted_none rfl) rfl row_move (by simp [go_sem, Act.put, hsz, s2, s3]) (by simp [go_sem, Act.put, hsz, s2, s3]) hM.at0 (mvl_vs ⟨hh, hl⟩) rfl ?_
      intro ru7 rhv rhc
      replace hM := hM.put0 rhc rhv
      clear rhc rhv
      refine ⟨hM.ls (by simp), ?_⟩
      refine reg.e_one 5 (by kernel_rfl) rfl ?_
      refine r_fill (i := 5) rfl (reg.wanted_none rfl) rfl row_move (by simp [go_sem, Act.put, hsz, s2, s3]) (by simp [go_sem, Act.put, hsz, s2, s3]) hM.at1 (mvl_vs ⟨dh, dl⟩) rfl ?_
      intro ru8 rhv rhc
      replace hM := hM.put1 rhc rhv
      clear rhc rhv
      refine ⟨hM.ls (by simp), ?_⟩
      refine reg.e_done (by kernel_rfl) ?_ _
      subst ha0
      clear hsz s2 s3
      go_simp
      repeat' (first | go_values | go_skip | go_guarded | go_step | go_upon | (simp only [Int.not_lt, Int.not_le] at *; go_simp))
      go_meet
      case rel => first | exact ⟨yh, yd, rfl, rfl, hM⟩ | exact ⟨yh, yd, rfl, rfl, swap hM⟩
  case rest =>
  clear hM
  obtain ⟨yh, yd, rfl, rfl, HX⟩ := hcut
  rename World => u4
  have hM := HX.out
  clear HX
  go_upto_region 5 with (fail)
  go_cut [9] from 34 to 180 (fun sv wx => ∃ zi : Nat, sv = .slice (some ⟨zi, 0, none⟩) 13 13 ∧ Hid (Mm w wx [(zi, 4, oneL c), (yd, 37, mvl ⟨dh, dl⟩), (yh, 37, mvl ⟨hh, hl⟩), (zv, 39, vdl ⟨c, m, r, k0⟩), (zb, 37, mvl ⟨dh, dl⟩), (za, 37, mvl ⟨hh, hl⟩)]))
  case first =>
    go_step
    simp only [List.append_eq, List.cons_append, List.nil_append]
    refine wpl_abs fun a0 ha0 => ?_
    have z0 : a0.tmps.size = 271 := by rw [ha0]; rfl
    have p0 : a0.tmps[7]? = some (.pointer (some ⟨yh, 0, none⟩)) := by rw [ha0]; rfl
    have q0 : a0.tmps[8]? = some (.pointer (some ⟨yd, 0, none⟩)) := by rw [ha0]; rfl
    have L0 := Lay.refl a0 34
    refine ent8 34 rfl rfl rfl rfl rfl rfl rfl rfl rfl rfl rfl rfl rfl rfl rfl rfl rfl rfl rfl rfl rfl rfl rfl rfl (by kernel_rfl)  p0 q0 (by decide) (by decide) (by rw [z0]; decide) hM.at1 rfl hM.at0 rfl ?_
    intro a1 M r0
    have z1 := M.size.trans z0
    have p1 := (M.out 7 (.inl (by decide))).trans p0
    have q1 := (M.out 8 (.inl (by decide))).trans q0
    have L1 := L0.more M
    clear M z0 p0 q0 L0
    refine ent8 42 rfl rfl rfl rfl rfl rfl rfl rfl rfl rfl rfl rfl rfl rfl rfl rfl rfl rfl rfl rfl rfl rfl rfl rfl (by kernel_rfl)  p1 q1 (by decide) (by decide) (by rw [z1]; decide) hM.at1 rfl hM.at0 rfl ?_
    intro a2 M r1
    have z2 := M.size.trans z1
    have p2 := (M.out 7 (.inl (by decide))).trans p1
    have q2 := (M.out 8 (.inl (by decide))).trans q1
    replace r0 := (M.out 41 (.inl (by decide))).trans r0
    have L2 := L1.more M
    clear M z1 p1 q1 L1
    refine ent8 50 rfl rfl rfl rfl rfl rfl rfl rfl rfl rfl rfl rfl rfl rfl rfl rfl rfl rfl rfl rfl rfl rfl rfl rfl (by kernel_rfl)  p2 q2 (by decide) (by decide) (by rw [z2]; decide) hM.at1 rfl hM.at0 rfl ?_
    intro a3 M r2
    have z3 := M.size.trans z2
    have p3 := (M.out 7 (.inl (by decide))).trans p2
    have q3 := (M.out 8 (.inl (by decide))).trans q2
    replace r0 := (M.out 41 (.inl (by decide))).trans r0
    replace r1 := (M.out 49 (.inl (by decide))).trans r1
    have L3 := L2.more M
    clear M z2 p2 q2 L2
    refine ent8 58 rfl rfl rfl rfl rfl rfl rfl rfl rfl rfl rfl rfl rfl rfl rfl rfl rfl rfl rfl rfl rfl rfl rfl rfl (by kernel_rfl)  p3 q3 (by decide) (by decide) (by rw [z3]; decide) hM.at1 rfl hM.at0 rfl ?_
    intro a4 M r3
    have z4 := M.size.trans z3
    have p4 := (M.out 7 (.inl (by decide))).trans p3
    have q4 := (M.out 8 (.inl (by decide))).trans q3
    replace r0 := (M.out 41 (.inl (by decide))).trans r0
    replace r1 := (M.out 49 (.inl (by decide))).trans r1
    replace r2 := (M.out 57 (.inl (by decide))).trans r2
    have L4 := L3.more M
    clear M z3 p3 q3 L3
    refine ent8 66 rfl rfl rfl rfl rfl rfl rfl rfl rfl rfl rfl rfl rfl rfl rfl rfl rfl rfl rfl rfl rfl rfl rfl rfl (by kernel_rfl)  p4 q4 (by decide) (by decide) (by rw [z4]; decide) hM.at1 rfl hM.at0 rfl ?_
    intro a5 M r4
    have z5 := M.size.trans z4
    have p5 := (M.out 7 (.inl (by decide))).trans p4
    have q5 := (M.out 8 (.inl (by decide))).trans q4
    replace r0 := (M.out 41 (.inl (by decide))).trans r0
    replace r1 := (M.out 49 (.inl (by decide))).trans r1
    replace r2 := (M.out 57 (.inl (by decide))).trans r2
    replace r3 := (M.out 65 (.inl (by decide))).trans r3
    have L5 := L4.more M
    clear M z4 p4 q4 L4
    refine ent7 73 rfl rfl rfl rfl rfl rfl rfl rfl rfl rfl rfl rfl rfl rfl rfl rfl rfl rfl rfl rfl rfl (by kernel_rfl) p5 q5 (by decide) (by decide) (by rw [z5]; decide) r4 hM.at1 rfl hM.at0 rfl (.inr (.inl ⟨rfl, rfl⟩)) ?_
    clear r4
    intro a6 M r4
    have z6 := M.size.trans z5
    have p6 := (M.out 7 (.inl (by decide))).trans p5
    have q6 := (M.out 8 (.inl (by decide))).trans q5
    replace r0 := (M.out 41 (.inl (by decide))).trans r0
    replace r1 := (M.out 49 (.inl (by decide))).trans r1
    replace r2 := (M.out 57 (.inl (by decide))).trans r2
    replace r3 := (M.out 65 (.inl (by decide))).trans r3
    have L6 := L5.more M
    clear M z5 p5 q5 L5
    refine ent8 81 rfl rfl rfl rfl rfl rfl rfl rfl rfl rfl rfl rfl rfl rfl rfl rfl rfl rfl rfl rfl rfl rfl rfl rfl (by kernel_rfl)  p6 q6 (by decide) (by decide) (by rw [z6]; decide) hM.at1 rfl hM.at0 rfl ?_
    intro a7 M r5
    have z7 := M.size.trans z6
    have p7 := (M.out 7 (.inl (by decide))).trans p6
    have q7 := (M.out 8 (.inl (by decide))).trans q6
    replace r0 := (M.out 41 (.inl (by decide))).trans r0
    replace r1 := (M.out 49 (.inl (by decide))).trans r1
    replace r2 := (M.out 57 (.inl (by decide))).trans r2
    replace r3 := (M.out 65 (.inl (by decide))).trans r3
    replace r4 := (M.out 80 (.inl (by decide))).trans r4
    have L7 := L6.more M
    clear M z6 p6 q6 L6
    refine ent7 88 rfl rfl rfl rfl rfl rfl rfl rfl rfl rfl rfl rfl rfl rfl rfl rfl rfl rfl rfl rfl rfl (by kernel_rfl) p7 q7 (by decide) (by decide) (by rw [z7]; decide) r5 hM.at1 rfl hM.at0 rfl (.inl ⟨rfl, rfl⟩) ?_
    clear r5
    intro a8 M r5
    have z8 := M.size.trans z7
    have p8 := (M.out 7 (.inl (by decide))).trans p7
    have q8 := (M.out 8 (.inl (by decide))).trans q7
    replace r0 := (M.out 41 (.inl (by decide))).trans r0
    replace r1 := (M.out 49 (.inl (by decide))).trans r1
    replace r2 := (M.out 57 (.inl (by decide))).trans r2
    replace r3 := (M.out 65 (.inl (by decide))).trans r3
    replace r4 := (M.out 80 (.inl (by decide))).trans r4
    have L8 := L7.more M
    clear M z7 p7 q7 L7
    refine ent8 96 rfl rfl rfl rfl rfl rfl rfl rfl rfl rfl rfl rfl rfl rfl rfl rfl rfl rfl rfl rfl rfl rfl rfl rfl (by kernel_rfl)  p8 q8 (by decide) (by decide) (by rw [z8]; decide) hM.at1 rfl hM.at0 rfl ?_
    intro a9 M r6
    have z9 := M.size.trans z8
    have p9 := (M.out 7 (.inl (by decide))).trans p8
    have q9 := (M.out 8 (.inl (by decide))).trans q8
    replace r0 := (M.out 41 (.inl (by decide))).trans r0
    replace r1 := (M.out 49 (.inl (by decide))).trans r1
    replace r2 := (M.out 57 (.inl (by decide))).trans r2
    replace r3 := (M.out 65 (.inl (by decide))).trans r3
    replace r4 := (M.out 80 (.inl (by decide))).trans r4
    replace r5 := (M.out 95 (.inl (by decide))).trans r5
    have L9 := L8.more M
    clear M z8 p8 q8 L8
    refine ent7 103 rfl rfl rfl rfl rfl rfl rfl rfl rfl rfl rfl rfl rfl rfl rfl rfl rfl rfl rfl rfl rfl (by kernel_rfl) p9 q9 (by decide) (by decide) (by rw [z9]; decide) r6 hM.at1 rfl hM.at0 rfl (.inr (.inr ⟨rfl, rfl⟩)) ?_
    clear r6
    intro a10 M r6
    have z10 := M.size.trans z9
    have p10 := (M.out 7 (.inl (by decide))).trans p9
    have q10 := (M.out 8 (.inl (by decide))).trans q9
    replace r0 := (M.out 41 (.inl (by decide))).trans r0
    replace r1 := (M.out 49 (.inl (by decide))).trans r1
    replace r2 := (M.out 57 (.inl (by decide))).trans r2
    replace r3 := (M.out 65 (.inl (by decide))).trans r3
    replace r4 := (M.out 80 (.inl (by decide))).trans r4
    replace r5 := (M.out 95 (.inl (by decide))).trans r5
    have L10 := L9.more M
    clear M z9 p9 q9 L9
    refine ent8 111 rfl rfl rfl rfl rfl rfl rfl rfl rfl rfl rfl rfl rfl rfl rfl rfl rfl rfl rfl rfl rfl rfl rfl rfl (by kernel_rfl)  p10 q10 (by decide) (by decide) (by rw [z10]; decide) hM.at1 rfl hM.at0 rfl ?_
    intro a11 M r7
    have z11 := M.size.trans z10
    have p11 := (M.out 7 (.inl (by decide))).trans p10
    have q11 := (M.out 8 (.inl (by decide))).trans q10
    replace r0 := (M.out 41 (.inl (by decide))).trans r0
    replace r1 := (M.out 49 (.inl (by decide))).trans r1
    replace r2 := (M.out 57 (.inl (by decide))).trans r2
    replace r3 := (M.out 65 (.inl (by decide))).trans r3
    replace r4 := (M.out 80 (.inl (by decide))).trans r4
    replace r5 := (M.out 95 (.inl (by decide))).trans r5
    replace r6 := (M.out 110 (.inl (by decide))).trans r6
    have L11 := L10.more M
    clear M z10 p10 q10 L10
    refine ent8 119 rfl rfl rfl rfl rfl rfl rfl rfl rfl rfl rfl rfl rfl rfl rfl rfl rfl rfl rfl rfl rfl rfl rfl rfl (by kernel_rfl)  p11 q11 (by decide) (by decide) (by rw [z11]; decide) hM.at1 rfl hM.at0 rfl ?_
    intro a12 M r8
    have z12 := M.size.trans z11
    have p12 := (M.out 7 (.inl (by decide))).trans p11
    have q12 := (M.out 8 (.inl (by decide))).trans q11
    replace r0 := (M.out 41 (.inl (by decide))).trans r0
    replace r1 := (M.out 49 (.inl (by decide))).trans r1
    replace r2 := (M.out 57 (.inl (by decide))).trans r2
    replace r3 := (M.out 65 (.inl (by decide))).trans r3
    replace r4 := (M.out 80 (.inl (by decide))).trans r4
    replace r5 := (M.out 95 (.inl (by decide))).trans r5
    replace r6 := (M.out 110 (.inl (by decide))).trans r6
    replace r7 := (M.out 118 (.inl (by decide))).trans r7
    have L12 := L11.more M
    clear M z11 p11 q11 L11
    refine ent8 127 rfl rfl rfl rfl rfl rfl rfl rfl rfl rfl rfl rfl rfl rfl rfl rfl rfl rfl rfl rfl rfl rfl rfl rfl (by kernel_rfl)  p12 q12 (by decide) (by decide) (by rw [z12]; decide) hM.at1 rfl hM.at0 rfl ?_
    intro a13 M r9
    have z13 := M.size.trans z12
    have p13 := (M.out 7 (.inl (by decide))).trans p12
    have q13 := (M.out 8 (.inl (by decide))).trans q12
    replace r0 := (M.out 41 (.inl (by decide))).trans r0
    replace r1 := (M.out 49 (.inl (by decide))).trans r1
    replace r2 := (M.out 57 (.inl (by decide))).trans r2
    replace r3 := (M.out 65 (.inl (by decide))).trans r3
    replace r4 := (M.out 80 (.inl (by decide))).trans r4
    replace r5 := (M.out 95 (.inl (by decide))).trans r5
    replace r6 := (M.out 110 (.inl (by decide))).trans r6
    replace r7 := (M.out 118 (.inl (by decide))).trans r7
    replace r8 := (M.out 126 (.inl (by decide))).trans r8
    have L13 := L12.more M
    clear M z12 p12 q12 L12
    refine ent8 135 rfl rfl rfl rfl rfl rfl rfl rfl rfl rfl rfl rfl rfl rfl rfl rfl rfl rfl rfl rfl rfl rfl rfl rfl (by kernel_rfl)  p13 q13 (by decide) (by decide) (by rw [z13]; decide) hM.at1 rfl hM.at0 rfl ?_
    intro a14 M r10
    have z14 := M.size.trans z13
    have p14 := (M.out 7 (.inl (by decide))).trans p13
    have q14 := (M.out 8 (.inl (by decide))).trans q13
    replace r0 := (M.out 41 (.inl (by decide))).trans r0
    replace r1 := (M.out 49 (.inl (by decide))).trans r1
    replace r2 := (M.out 57 (.inl (by decide))).trans r2
    replace r3 := (M.out 65 (.inl (by decide))).trans r3
    replace r4 := (M.out 80 (.inl (by decide))).trans r4
    replace r5 := (M.out 95 (.inl (by decide))).trans r5
    replace r6 := (M.out 110 (.inl (by decide))).trans r6
    replace r7 := (M.out 118 (.inl (by decide))).trans r7
    replace r8 := (M.out 126 (.inl (by decide))).trans r8
    replace r9 := (M.out 134 (.inl (by decide))).trans r9
    have L14 := L13.more M
    clear M z13 p13 q13 L13
    refine ent7 142 rfl rfl rfl rfl rfl rfl rfl rfl rfl rfl rfl rfl rfl rfl rfl rfl rfl rfl rfl rfl rfl (by kernel_rfl) p14 q14 (by decide) (by decide) (by rw [z14]; decide) r10 hM.at1 rfl hM.at0 rfl (.inr (.inl ⟨rfl, rfl⟩)) ?_
    clear r10
    intro a15 M r10
    have z15 := M.size.trans z14
    have p15 := (M.out 7 (.inl (by decide))).trans p14
    have q15 := (M.out 8 (.inl (by decide))).trans q14
    replace r0 := (M.out 41 (.inl (by decide))).trans r0
    replace r1 := (M.out 49 (.inl (by decide))).trans r1
    replace r2 := (M.out 57 (.inl (by decide))).trans r2
    replace r3 := (M.out 65 (.inl (by decide))).trans r3
    replace r4 := (M.out 80 (.inl (by decide))).trans r4
    replace r5 := (M.out 95 (.inl (by decide))).trans r5
    replace r6 := (M.out 110 (.inl (by decide))).trans r6
    replace r7 := (M.out 118 (.inl (by decide))).trans r7
    replace r8 := (M.out 126 (.inl (by decide))).trans r8
    replace r9 := (M.out 134 (.inl (by decide))).trans r9
    have L15 := L14.more M
    clear M z14 p14 q14 L14
    refine ent8 150 rfl rfl rfl rfl rfl rfl rfl rfl rfl rfl rfl rfl rfl rfl rfl rfl rfl rfl rfl rfl rfl rfl rfl rfl (by kernel_rfl)  p15 q15 (by decide) (by decide) (by rw [z15]; decide) hM.at1 rfl hM.at0 rfl ?_
    intro a16 M r11
    have z16 := M.size.trans z15
    have p16 := (M.out 7 (.inl (by decide))).trans p15
    have q16 := (M.out 8 (.inl (by decide))).trans q15
    replace r0 := (M.out 41 (.inl (by decide))).trans r0
    replace r1 := (M.out 49 (.inl (by decide))).trans r1
    replace r2 := (M.out 57 (.inl (by decide))).trans r2
    replace r3 := (M.out 65 (.inl (by decide))).trans r3
    replace r4 := (M.out 80 (.inl (by decide))).trans r4
    replace r5 := (M.out 95 (.inl (by decide))).trans r5
    replace r6 := (M.out 110 (.inl (by decide))).trans r6
    replace r7 := (M.out 118 (.inl (by decide))).trans r7
    replace r8 := (M.out 126 (.inl (by decide))).trans r8
    replace r9 := (M.out 134 (.inl (by decide))).trans r9
    replace r10 := (M.out 149 (.inl (by decide))).trans r10
    have L16 := L15.more M
    clear M z15 p15 q15 L15
    refine ent7 157 rfl rfl rfl rfl rfl rfl rfl rfl rfl rfl rfl rfl rfl rfl rfl rfl rfl rfl rfl rfl rfl (by kernel_rfl) p16 q16 (by decide) (by decide) (by rw [z16]; decide) r11 hM.at1 rfl hM.at0 rfl (.inl ⟨rfl, rfl⟩) ?_
    clear r11
    intro a17 M r11
    have z17 := M.size.trans z16
    have p17 := (M.out 7 (.inl (by decide))).trans p16
    have q17 := (M.out 8 (.inl (by decide))).trans q16
    replace r0 := (M.out 41 (.inl (by decide))).trans r0
    replace r1 := (M.out 49 (.inl (by decide))).trans r1
    replace r2 := (M.out 57 (.inl (by decide))).trans r2
    replace r3 := (M.out 65 (.inl (by decide))).trans r3
    replace r4 := (M.out 80 (.inl (by decide))).trans r4
    replace r5 := (M.out 95 (.inl (by decide))).trans r5
    replace r6 := (M.out 110 (.inl (by decide))).trans r6
    replace r7 := (M.out 118 (.inl (by decide))).trans r7
    replace r8 := (M.out 126 (.inl (by decide))).trans r8
    replace r9 := (M.out 134 (.inl (by decide))).trans r9
    replace r10 := (M.out 149 (.inl (by decide))).trans r10
    have L17 := L16.more M
    clear M z16 p16 q16 L16
    refine ent8 165 rfl rfl rfl rfl rfl rfl rfl rfl rfl rfl rfl rfl rfl rfl rfl rfl rfl rfl rfl rfl rfl rfl rfl rfl (by kernel_rfl)  p17 q17 (by decide) (by decide) (by rw [z17]; decide) hM.at1 rfl hM.at0 rfl ?_
    intro a18 M r12
    have z18 := M.size.trans z17
    have p18 := (M.out 7 (.inl (by decide))).trans p17
    have q18 := (M.out 8 (.inl (by decide))).trans q17
    replace r0 := (M.out 41 (.inl (by decide))).trans r0
    replace r1 := (M.out 49 (.inl (by decide))).trans r1
    replace r2 := (M.out 57 (.inl (by decide))).trans r2
    replace r3 := (M.out 65 (.inl (by decide))).trans r3
    replace r4 := (M.out 80 (.inl (by decide))).trans r4
    replace r5 := (M.out 95 (.inl (by decide))).trans r5
    replace r6 := (M.out 110 (.inl (by decide))).trans r6
    replace r7 := (M.out 118 (.inl (by decide))).trans r7
    replace r8 := (M.out 126 (.inl (by decide))).trans r8
    replace r9 := (M.out 134 (.inl (by decide))).trans r9
    replace r10 := (M.out 149 (.inl (by decide))).trans r10
    replace r11 := (M.out 164 (.inl (by decide))).trans r11
    have L18 := L17.more M
    clear M z17 p17 q17 L17
    refine ent7 172 rfl rfl rfl rfl rfl rfl rfl rfl rfl rfl rfl rfl rfl rfl rfl rfl rfl rfl rfl rfl rfl (by kernel_rfl) p18 q18 (by decide) (by decide) (by rw [z18]; decide) r12 hM.at1 rfl hM.at0 rfl (.inr (.inr ⟨rfl, rfl⟩)) ?_
    clear r12
    intro a19 M r12
    have z19 := M.size.trans z18
    have p19 := (M.out 7 (.inl (by decide))).trans p18
    have q19 := (M.out 8 (.inl (by decide))).trans q18
    replace r0 := (M.out 41 (.inl (by decide))).trans r0
    replace r1 := (M.out 49 (.inl (by decide))).trans r1
    replace r2 := (M.out 57 (.inl (by decide))).trans r2
    replace r3 := (M.out 65 (.inl (by decide))).trans r3
    replace r4 := (M.out 80 (.inl (by decide))).trans r4
    replace r5 := (M.out 95 (.inl (by decide))).trans r5
    replace r6 := (M.out 110 (.inl (by decide))).trans r6
    replace r7 := (M.out 118 (.inl (by decide))).trans r7
    replace r8 := (M.out 126 (.inl (by decide))).trans r8
    replace r9 := (M.out 134 (.inl (by decide))).trans r9
    replace r10 := (M.out 149 (.inl (by decide))).trans r10
    replace r11 := (M.out 164 (.inl (by decide))).trans r11
    have L19 := L18.more M
    clear M z18 p18 q18 L18
    refine v_bsN rfl rfl (bs_13 (hh == 0 && dh == 0) (hh == 0 && dh == 1) (hh == 0 && dh == 2) (hh == 1 && dh == 0) ((hh == 1 && dh == 1) && decide (dl < hl)) ((hh == 1 && dh == 1) && (hl == dl)) ((hh == 1 && dh == 1) && decide (hl < dl)) (hh == 1 && dh == 2) (hh == 2 && dh == 0) (hh == 2 && dh == 1) ((hh == 2 && dh == 2) && decide (dl < hl)) ((hh == 2 && dh == 2) && (hl == dl)) ((hh == 2 && dh == 2) && decide (hl < dl))) (by simp [ev_of r0, ev_of r1, ev_of r2, ev_of r3, ev_of r4, ev_of r5, ev_of r6, ev_of r7, ev_of r8, ev_of r9, ev_of r10, ev_of r11, ev_of r12]) ?_
    intro u zi hN
    replace hM := hM.new hN
    clear hN
    have M9 := L19.put (.slice (some ⟨zi, 0, none⟩) 13 13)
    have s9 := put_at (a := a19) (k := 180) (.slice (some ⟨zi, 0, none⟩) 13 13) (by rw [z19]; decide)
    refine s_val rfl rfl (x_asg rfl s9) ?_
    have ef := M9.fin (N := 271) ha0 rfl (by decide) 9 (by decide) (.slice (some ⟨zi, 0, none⟩) 13 13)
    have HL13 : ([Value.bool (hh == 0 && dh == 0), Value.bool (hh == 0 && dh == 1), Value.bool (hh == 0 && dh == 2), Value.bool (hh == 1 && dh == 0), Value.bool ((hh == 1 && dh == 1) && decide (dl < hl)), Value.bool ((hh == 1 && dh == 1) && (hl == dl)), Value.bool ((hh == 1 && dh == 1) && decide (hl < dl)), Value.bool (hh == 1 && dh == 2), Value.bool (hh == 2 && dh == 0), Value.bool (hh == 2 && dh == 1), Value.bool ((hh == 2 && dh == 2) && decide (dl < hl)), Value.bool ((hh == 2 && dh == 2) && (hl == dl)), Value.bool ((hh == 2 && dh == 2) && decide (hl < dl))] : List Value) = oneL c := by
      rcases HC.out with ⟨rfl, rfl, rfl⟩ | ⟨rfl, rfl, rfl⟩ | ⟨rfl, rfl, rfl⟩ | ⟨rfl, rfl, rfl⟩ | ⟨rfl, rfl, hk, rfl⟩ | ⟨rfl, rfl, hk, rfl⟩ | ⟨rfl, rfl, hk, rfl⟩ | ⟨rfl, rfl, rfl⟩ | ⟨rfl, rfl, rfl⟩ | ⟨rfl, rfl, rfl⟩ | ⟨rfl, rfl, hk, rfl⟩ | ⟨rfl, rfl, hk, rfl⟩ | ⟨rfl, rfl, hk, rfl⟩ <;> (simp [oneL, List.range, List.range.loop] <;> omega)
    rw [HL13] at hM
    clear r0 r1 r2 r3 r4 r5 r6 r7 r8 r9 r10 r11 r12 z19 p19 q19 L19 M9 s9 HL13 HC HT
    first | rw [ef] | (simp only [Act.put] at ef; rw [ef])
    clear ef ha0
    go_step
    rename_i HJ HK
    refine HK _ _ (Met.intro (HJ _ _ ?_))
    (repeat apply Exists.intro)
    refine ⟨?rel, rfl⟩
    case rel => exact ⟨zi, rfl, hM⟩
  case rest =>
  clear hM HC
  obtain ⟨zi, rfl, HX⟩ := hcut
  rename World => u5
  have hM := HX.out
  clear HX
  repeat' (first | go_values | go_skip | go_guarded | go_step | go_upon | (simp only [Int.not_lt, Int.not_le] at *; go_simp))
  go_loopw [10, 183] (fun nv iv wr => ∃ (k : Nat) (n : Int), k ≤ 13 ∧ iv = .int .i64 (k : Int) ∧ nv = .int .i64 n ∧ Hid (n = (if c ≤ (k : Int) then 1 else 0) ∧ Mm w wr [(zi, 4, oneL c), (yd, 37, mvl ⟨dh, dl⟩), (yh, 37, mvl ⟨hh, hl⟩), (zv, 39, vdl ⟨c, m, r, k0⟩), (zb, 37, mvl ⟨dh, dl⟩), (za, 37, mvl ⟨hh, hl⟩)])) (fun _ iv _ => 13 - (intOf iv).toNat)
  case atStart => exact ⟨0, 0, by omega, rfl, rfl, by rw [if_neg (by have := HR.out; omega)], hM⟩
  case round =>
    obtain ⟨k, n, hk, rfl, rfl, HX⟩ := hrel
    clear hM
    have hM := HX.out.2
    by_cases hlt : k < 13
    · have hg := one_at c k hlt
      by_cases e : c = (k : Int) + 1
      · have en : n = 0 := by have := HX.out.1; rw [if_neg (by omega)] at this; exact this
        have HS : Hid ((1 : Int) = (if c ≤ ((k + 1 : Nat) : Int) then 1 else 0)) := by show _ = _; rw [if_pos (by omega)]
        rw [decide_eq_true e] at hg
        have e1 : (c == (k : Int) + 1) = true := by simp [e]
        subst en
        clear HX HT HR e
        repeat' (first | (go_big_may; first | (refine v_get rfl rfl lod_bool rfl hM.at0 hg ?_) | (refine v_get rfl rfl (by first | exact lod_int | exact lod_str | exact lod_fcs | exact lod_err | exact lod_bool | exact lod_txs) rfl hM.at3 rfl ?_)) | go_values | go_skip | go_guarded | go_step | go_upon | (simp only [Int.not_lt, Int.not_le] at *; go_simp))
        go_roundw
        case rel => exact ⟨k + 1, 1, by omega, by go_num, rfl, HS.out, hM⟩
        case measure => simp [intOf]; omega
      · have HS : Hid (n = (if c ≤ ((k + 1 : Nat) : Int) then 1 else 0)) := by
          show _ = _
          have := HX.out.1
          rw [this]
          by_cases p : c ≤ (k : Int)
          · rw [if_pos p, if_pos (by omega)]
          · rw [if_neg p, if_neg (by omega)]
        rw [decide_eq_false e] at hg
        have e1 : (c == (k : Int) + 1) = false := by simp [e]
        clear HX HT HR e
        repeat' (first | (go_big_may; first | (refine v_get rfl rfl lod_bool rfl hM.at0 hg ?_) | (refine v_get rfl rfl (by first | exact lod_int | exact lod_str | exact lod_fcs | exact lod_err | exact lod_bool | exact lod_txs) rfl hM.at3 rfl ?_)) | go_values | go_skip | go_guarded | go_step | go_upon | (simp only [Int.not_lt, Int.not_le] at *; go_simp))
        go_roundw
        case rel => exact ⟨k + 1, n, by omega, by go_num, rfl, HS.out, hM⟩
        case measure => simp [intOf]; omega
    · obtain rfl : k = 13 := by omega
      obtain rfl : n = 1 := by have := HX.out.1; rw [if_pos (by have := HR.out; omega)] at this; exact this
      obtain ⟨hc4, s1, s2, s3, s4, s5, s6⟩ := HT.out
      have g1 : IntKind.i64.wrap (m + r) = hl := by rw [s1, IntKind.wrap_i64]; omega
      have g2 : (if dl < hl then dl else hl) = q := by rw [← s6]; split <;> omega
      clear HX HT HR hk hlt
      rcases hc4 with ⟨p1, p2, p3⟩ | ⟨p1, p2, p3, p4, p5⟩ | ⟨p1, p2, p3, p4, p5⟩ | ⟨p1, p2, p3, p4⟩
      · subst p2
        go_upto_region 15 with (fail)
        refine reg.wp_abs (fun a0 => a0.tmps.size = 271 ∧ a0.defers = [] ∧ a0.tmps[5]? = some (.pointer (some ⟨zv, 0, none⟩)) ∧ a0.tmps[7]? = some (.pointer (some ⟨yh, 0, none⟩)) ∧ a0.tmps[8]? = some (.pointer (some ⟨yd, 0, none⟩)) ∧ a0.tmps[10]? = some (.int .i64 1)) ⟨rfl, rfl, rfl, rfl, rfl, rfl⟩ ?_
        rintro a0 ⟨fz, fd, f5, f7, f8, f10⟩ ha0
        clear ha0
        go_step
        try simp only [List.append_eq, List.cons_append, List.nil_append]
        refine p_val (v := .pointer (some ⟨yd, 0, none⟩)) rfl rfl (x_fld (r := 0) rfl f8 (fun w => by kernel_rfl)) (by rw [fz]; decide) ?_
        intro b1 hk hv hz hf
        replace fz := hz.trans fz
        replace fd := hf.trans fd
        replace f5 := (hk 5 (by decide)).trans f5
        replace f7 := (hk 7 (by decide)).trans f7
        replace f8 := (hk 8 (by decide)).trans f8
        replace f10 := (hk 10 (by decide)).trans f10
        have f199 := hv
        clear hk hv hz hf
        refine p_val (v := .int .i64 dh) rfl rfl (p_get (v := .int .i64 dh) rfl f199 hM.at1 rfl) (by rw [fz]; decide) ?_
        intro b2 hk hv hz hf
        replace fz := hz.trans fz
        replace fd := hf.trans fd
        replace f5 := (hk 5 (by decide)).trans f5
        replace f7 := (hk 7 (by decide)).trans f7
        replace f8 := (hk 8 (by decide)).trans f8
        replace f10 := (hk 10 (by decide)).trans f10
        clear f199
        have f200 := hv
        clear hk hv hz hf
        refine p_val (v := .bool true) rfl rfl (by simp only [execOp, ev_con, ev_of f200]; simp [go_sem, p1]) (by rw [fz]; decide) ?_
        intro b3 hk hv hz hf
        replace fz := hz.trans fz
        replace fd := hf.trans fd
        replace f5 := (hk 5 (by decide)).trans f5
        replace f7 := (hk 7 (by decide)).trans f7
        replace f8 := (hk 8 (by decide)).trans f8
        replace f10 := (hk 10 (by decide)).trans f10
        clear f200
        have f201 := hv
        clear hk hv hz hf
        refine p_val (v := .bool true) rfl rfl (by simp only [execOp, ev_con, ev_of f201]; simp [go_sem]) (by rw [fz]; decide) ?_
        intro b4 hk hv hz hf
        replace fz := hz.trans fz
        replace fd := hf.trans fd
        replace f5 := (hk 5 (by decide)).trans f5
        replace f7 := (hk 7 (by decide)).trans f7
        replace f8 := (hk 8 (by decide)).trans f8
        replace f10 := (hk 10 (by decide)).trans f10
        clear f201
        have f202 := hv
        clear hk hv hz hf
        refine p_not ((wt_of rfl (by kernel_rfl) _ f202).trans rfl) rfl (by rw [fz]; decide) ?_
        intro b5 hk hv hz hf
        replace fz := hz.trans fz
        replace fd := hf.trans fd
        replace f5 := (hk 5 (by decide)).trans f5
        replace f7 := (hk 7 (by decide)).trans f7
        replace f8 := (hk 8 (by decide)).trans f8
        replace f10 := (hk 10 (by decide)).trans f10
        replace f202 := (hk 202 (by decide)).trans f202
        have f203 := hv
        clear hk hv hz hf
        refine p_not ((wt_of rfl (by kernel_rfl) _ f202).trans rfl) rfl (by rw [fz]; decide) ?_
        intro b6 hk hv hz hf
        replace fz := hz.trans fz
        replace fd := hf.trans fd
        replace f5 := (hk 5 (by decide)).trans f5
        replace f7 := (hk 7 (by decide)).trans f7
        replace f8 := (hk 8 (by decide)).trans f8
        replace f10 := (hk 10 (by decide)).trans f10
        replace f202 := (hk 202 (by decide)).trans f202
        clear f203
        have f204 := hv
        clear hk hv hz hf
        refine p_not ((wt_of rfl (by kernel_rfl) _ f202).trans rfl) rfl (by rw [fz]; decide) ?_
        intro b7 hk hv hz hf
        replace fz := hz.trans fz
        replace fd := hf.trans fd
        replace f5 := (hk 5 (by decide)).trans f5
        replace f7 := (hk 7 (by decide)).trans f7
        replace f8 := (hk 8 (by decide)).trans f8
        replace f10 := (hk 10 (by decide)).trans f10
        replace f202 := (hk 202 (by decide)).trans f202
        replace f204 := (hk 204 (by decide)).trans f204
        have f205 := hv
        clear hk hv hz hf
        refine p_not ((wt_of rfl (by kernel_rfl) _ f202).trans rfl) rfl (by rw [fz]; decide) ?_
        intro b8 hk hv hz hf
        replace fz := hz.trans fz
        replace fd := hf.trans fd
        replace f5 := (hk 5 (by decide)).trans f5
        replace f7 := (hk 7 (by decide)).trans f7
        replace f8 := (hk 8 (by decide)).trans f8
        replace f10 := (hk 10 (by decide)).trans f10
        replace f202 := (hk 202 (by decide)).trans f202
        replace f204 := (hk 204 (by decide)).trans f204
        clear f205
        have f206 := hv
        clear hk hv hz hf
        refine p_not ((wt_of rfl (by kernel_rfl) _ f202).trans rfl) rfl (by rw [fz]; decide) ?_
        intro b9 hk hv hz hf
        replace fz := hz.trans fz
        replace fd := hf.trans fd
        replace f5 := (hk 5 (by decide)).trans f5
        replace f7 := (hk 7 (by decide)).trans f7
        replace f8 := (hk 8 (by decide)).trans f8
        replace f10 := (hk 10 (by decide)).trans f10
        replace f202 := (hk 202 (by decide)).trans f202
        clear f204 f206
        have f207 := hv
        clear hk hv hz hf
        refine p_not ((wt_of rfl (by kernel_rfl) _ f202).trans rfl) rfl (by rw [fz]; decide) ?_
        intro b10 hk hv hz hf
        replace fz := hz.trans fz
        replace fd := hf.trans fd
        replace f5 := (hk 5 (by decide)).trans f5
        replace f7 := (hk 7 (by decide)).trans f7
        replace f8 := (hk 8 (by decide)).trans f8
        replace f10 := (hk 10 (by decide)).trans f10
        replace f202 := (hk 202 (by decide)).trans f202
        clear f207
        have f208 := hv
        clear hk hv hz hf
        refine p_not (wt_und rfl (by kernel_rfl) f208) rfl (by rw [fz]; decide) ?_
        intro b11 hk hv hz hf
        replace fz := hz.trans fz
        replace fd := hf.trans fd
        replace f5 := (hk 5 (by decide)).trans f5
        replace f7 := (hk 7 (by decide)).trans f7
        replace f8 := (hk 8 (by decide)).trans f8
        replace f10 := (hk 10 (by decide)).trans f10
        replace f202 := (hk 202 (by decide)).trans f202
        replace f208 := (hk 208 (by decide)).trans f208
        have f209 := hv
        clear hk hv hz hf
        refine p_not (wt_und rfl (by kernel_rfl) f208) rfl (by rw [fz]; decide) ?_
        intro b12 hk hv hz hf
        replace fz := hz.trans fz
        replace fd := hf.trans fd
        replace f5 := (hk 5 (by decide)).trans f5
        replace f7 := (hk 7 (by decide)).trans f7
        replace f8 := (hk 8 (by decide)).trans f8
        replace f10 := (hk 10 (by decide)).trans f10
        replace f202 := (hk 202 (by decide)).trans f202
        replace f208 := (hk 208 (by decide)).trans f208
        clear f209
        have f210 := hv
        clear hk hv hz hf
        refine p_not (wt_und rfl (by kernel_rfl) f208) rfl (by rw [fz]; decide) ?_
        intro b13 hk hv hz hf
        replace fz := hz.trans fz
        replace fd := hf.trans fd
        replace f5 := (hk 5 (by decide)).trans f5
        replace f7 := (hk 7 (by decide)).trans f7
        replace f8 := (hk 8 (by decide)).trans f8
        replace f10 := (hk 10 (by decide)).trans f10
        replace f202 := (hk 202 (by decide)).trans f202
        replace f208 := (hk 208 (by decide)).trans f208
        replace f210 := (hk 210 (by decide)).trans f210
        have f211 := hv
        clear hk hv hz hf
        refine p_not (wt_und rfl (by kernel_rfl) f208) rfl (by rw [fz]; decide) ?_
        intro b14 hk hv hz hf
        replace fz := hz.trans fz
        replace fd := hf.trans fd
        replace f5 := (hk 5 (by decide)).trans f5
        replace f7 := (hk 7 (by decide)).trans f7
        replace f8 := (hk 8 (by decide)).trans f8
        replace f10 := (hk 10 (by decide)).trans f10
        replace f202 := (hk 202 (by decide)).trans f202
        replace f208 := (hk 208 (by decide)).trans f208
        replace f210 := (hk 210 (by decide)).trans f210
        clear f211
        have f212 := hv
        clear hk hv hz hf
        refine p_not (wt_und rfl (by kernel_rfl) f208) rfl (by rw [fz]; decide) ?_
        intro b15 hk hv hz hf
        replace fz := hz.trans fz
        replace fd := hf.trans fd
        replace f5 := (hk 5 (by decide)).trans f5
        replace f7 := (hk 7 (by decide)).trans f7
        replace f8 := (hk 8 (by decide)).trans f8
        replace f10 := (hk 10 (by decide)).trans f10
        replace f202 := (hk 202 (by decide)).trans f202
        replace f208 := (hk 208 (by decide)).trans f208
        clear f210 f212
        have f213 := hv
        clear hk hv hz hf
        refine p_not ((wt_of rfl (by kernel_rfl) _ f202).trans rfl) rfl (by rw [fz]; decide) ?_
        intro b16 hk hv hz hf
        replace fz := hz.trans fz
        replace fd := hf.trans fd
        replace f5 := (hk 5 (by decide)).trans f5
        replace f7 := (hk 7 (by decide)).trans f7
        replace f8 := (hk 8 (by decide)).trans f8
        replace f10 := (hk 10 (by decide)).trans f10
        replace f202 := (hk 202 (by decide)).trans f202
        clear f208 f213
        have f214 := hv
        clear hk hv hz hf
        refine p_val (v := .bool true) rfl rfl (by simp only [execOp, ev_con, ev_of f202, ev_of f214]; simp [go_sem]) (by rw [fz]; decide) ?_
        intro b17 hk hv hz hf
        replace fz := hz.trans fz
        replace fd := hf.trans fd
        replace f5 := (hk 5 (by decide)).trans f5
        replace f7 := (hk 7 (by decide)).trans f7
        replace f8 := (hk 8 (by decide)).trans f8
        replace f10 := (hk 10 (by decide)).trans f10
        clear f202 f214
        have f215 := hv
        clear hk hv hz hf
        refine p_val (v := .bool true) rfl rfl (by simp only [execOp, ev_con, ev_of f215]; simp [go_sem]) (by rw [fz]; decide) ?_
        intro b18 hk hv hz hf
        replace fz := hz.trans fz
        replace fd := hf.trans fd
        replace f5 := (hk 5 (by decide)).trans f5
        replace f7 := (hk 7 (by decide)).trans f7
        replace f8 := (hk 8 (by decide)).trans f8
        replace f10 := (hk 10 (by decide)).trans f10
        clear f215
        have f13 := hv
        clear hk hv hz hf
        go_upto_region 16 with (fail)
        go_step
        try simp only [List.append_eq, List.cons_append, List.nil_append]
        refine p_val (v := .int .i64 1) rfl rfl (by simp only [execOp, ev_con, ev_of f10]; simp [go_sem]) (by rw [fz]; decide) ?_
        intro d1 hk hv hz hf
        replace fz := hz.trans fz
        replace fd := hf.trans fd
        replace f5 := (hk 5 (by decide)).trans f5
        replace f7 := (hk 7 (by decide)).trans f7
        replace f8 := (hk 8 (by decide)).trans f8
        replace f13 := (hk 13 (by decide)).trans f13
        clear f10
        have f216 := hv
        clear hk hv hz hf
        refine p_val (v := .bool true) rfl rfl (by simp only [execOp, ev_con, ev_of f216]; simp [go_sem]) (by rw [fz]; decide) ?_
        intro d2 hk hv hz hf
        replace fz := hz.trans fz
        replace fd := hf.trans fd
        replace f5 := (hk 5 (by decide)).trans f5
        replace f7 := (hk 7 (by decide)).trans f7
        replace f8 := (hk 8 (by decide)).trans f8
        replace f13 := (hk 13 (by decide)).trans f13
        clear f216
        have f217 := hv
        clear hk hv hz hf
        refine p_val (v := .bool true) rfl rfl (by simp only [execOp, ev_con, ev_of f217]; simp [go_sem]) (by rw [fz]; decide) ?_
        intro d3 hk hv hz hf
        replace fz := hz.trans fz
        replace fd := hf.trans fd
        replace f5 := (hk 5 (by decide)).trans f5
        replace f7 := (hk 7 (by decide)).trans f7
        replace f8 := (hk 8 (by decide)).trans f8
        replace f13 := (hk 13 (by decide)).trans f13
        clear f217
        have f218 := hv
        clear hk hv hz hf
        refine p_val (v := .pointer (some ⟨zv, 1, none⟩)) ((wt_of rfl (by kernel_rfl) _ f218).trans rfl) rfl (x_fld (r := 1) rfl f5 (fun w => by kernel_rfl)) (by rw [fz]; decide) ?_
        intro d4 hk hv hz hf
        replace fz := hz.trans fz
        replace fd := hf.trans fd
        replace f5 := (hk 5 (by decide)).trans f5
        replace f7 := (hk 7 (by decide)).trans f7
        replace f8 := (hk 8 (by decide)).trans f8
        replace f13 := (hk 13 (by decide)).trans f13
        replace f218 := (hk 218 (by decide)).trans f218
        have f219 := hv
        clear hk hv hz hf
        refine p_val (v := .int .i64 m) ((wt_of rfl (by kernel_rfl) _ f218).trans rfl) rfl (p_get (v := .int .i64 m) rfl f219 hM.at3 rfl) (by rw [fz]; decide) ?_
        intro d5 hk hv hz hf
        replace fz := hz.trans fz
        replace fd := hf.trans fd
        replace f5 := (hk 5 (by decide)).trans f5
        replace f7 := (hk 7 (by decide)).trans f7
        replace f8 := (hk 8 (by decide)).trans f8
        replace f13 := (hk 13 (by decide)).trans f13
        replace f218 := (hk 218 (by decide)).trans f218
        clear f219
        have f220 := hv
        clear hk hv hz hf
        refine p_val (v := .bool true) ((wt_of rfl (by kernel_rfl) _ f218).trans rfl) rfl (by simp only [execOp, ev_con, ev_of f220]; simp [go_sem, s2]) (by rw [fz]; decide) ?_
        intro d6 hk hv hz hf
        replace fz := hz.trans fz
        replace fd := hf.trans fd
        replace f5 := (hk 5 (by decide)).trans f5
        replace f7 := (hk 7 (by decide)).trans f7
        replace f8 := (hk 8 (by decide)).trans f8
        replace f13 := (hk 13 (by decide)).trans f13
        replace f218 := (hk 218 (by decide)).trans f218
        clear f220
        have f221 := hv
        clear hk hv hz hf
        refine p_val (v := .bool true) rfl rfl (by simp only [execOp, ev_con, ev_of f218, ev_of f221]; simp [go_sem]) (by rw [fz]; decide) ?_
        intro d7 hk hv hz hf
        replace fz := hz.trans fz
        replace fd := hf.trans fd
        replace f5 := (hk 5 (by decide)).trans f5
        replace f7 := (hk 7 (by decide)).trans f7
        replace f8 := (hk 8 (by decide)).trans f8
        replace f13 := (hk 13 (by decide)).trans f13
        clear f218 f221
        have f222 := hv
        clear hk hv hz hf
        refine p_val (v := .bool true) rfl rfl (by simp only [execOp, ev_con, ev_of f222]; simp [go_sem]) (by rw [fz]; decide) ?_
        intro d8 hk hv hz hf
        replace fz := hz.trans fz
        replace fd := hf.trans fd
        replace f5 := (hk 5 (by decide)).trans f5
        replace f7 := (hk 7 (by decide)).trans f7
        replace f8 := (hk 8 (by decide)).trans f8
        replace f13 := (hk 13 (by decide)).trans f13
        clear f222
        have f223 := hv
        clear hk hv hz hf
        refine p_val (v := .pointer (some ⟨zv, 1, none⟩)) ((wt_of rfl (by kernel_rfl) _ f223).trans rfl) rfl (x_fld (r := 1) rfl f5 (fun w => by kernel_rfl)) (by rw [fz]; decide) ?_
        intro d9 hk hv hz hf
        replace fz := hz.trans fz
        replace fd := hf.trans fd
        replace f5 := (hk 5 (by decide)).trans f5
        replace f7 := (hk 7 (by decide)).trans f7
        replace f8 := (hk 8 (by decide)).trans f8
        replace f13 := (hk 13 (by decide)).trans f13
        replace f223 := (hk 223 (by decide)).trans f223
        have f224 := hv
        clear hk hv hz hf
        refine p_val (v := .int .i64 m) ((wt_of rfl (by kernel_rfl) _ f223).trans rfl) rfl (p_get (v := .int .i64 m) rfl f224 hM.at3 rfl) (by rw [fz]; decide) ?_
        intro d10 hk hv hz hf
        replace fz := hz.trans fz
        replace fd := hf.trans fd
        replace f5 := (hk 5 (by decide)).trans f5
        replace f7 := (hk 7 (by decide)).trans f7
        replace f8 := (hk 8 (by decide)).trans f8
        replace f13 := (hk 13 (by decide)).trans f13
        replace f223 := (hk 223 (by decide)).trans f223
        clear f224
        have f225 := hv
        clear hk hv hz hf
        refine p_val (v := .pointer (some ⟨yh, 1, none⟩)) ((wt_of rfl (by kernel_rfl) _ f223).trans rfl) rfl (x_fld (r := 1) rfl f7 (fun w => by kernel_rfl)) (by rw [fz]; decide) ?_
        intro d11 hk hv hz hf
        replace fz := hz.trans fz
        replace fd := hf.trans fd
        replace f5 := (hk 5 (by decide)).trans f5
        replace f7 := (hk 7 (by decide)).trans f7
        replace f8 := (hk 8 (by decide)).trans f8
        replace f13 := (hk 13 (by decide)).trans f13
        replace f223 := (hk 223 (by decide)).trans f223
        replace f225 := (hk 225 (by decide)).trans f225
        have f226 := hv
        clear hk hv hz hf
        refine p_val (v := .int .i64 hl) ((wt_of rfl (by kernel_rfl) _ f223).trans rfl) rfl (p_get (v := .int .i64 hl) rfl f226 hM.at2 rfl) (by rw [fz]; decide) ?_
        intro d12 hk hv hz hf
        replace fz := hz.trans fz
        replace fd := hf.trans fd
        replace f5 := (hk 5 (by decide)).trans f5
        replace f7 := (hk 7 (by decide)).trans f7
        replace f8 := (hk 8 (by decide)).trans f8
        replace f13 := (hk 13 (by decide)).trans f13
        replace f223 := (hk 223 (by decide)).trans f223
        replace f225 := (hk 225 (by decide)).trans f225
        clear f226
        have f227 := hv
        clear hk hv hz hf
        refine p_val (v := .pointer (some ⟨yd, 1, none⟩)) ((wt_of rfl (by kernel_rfl) _ f223).trans rfl) rfl (x_fld (r := 1) rfl f8 (fun w => by kernel_rfl)) (by rw [fz]; decide) ?_
        intro d13 hk hv hz hf
        replace fz := hz.trans fz
        replace fd := hf.trans fd
        replace f5 := (hk 5 (by decide)).trans f5
        replace f7 := (hk 7 (by decide)).trans f7
        replace f8 := (hk 8 (by decide)).trans f8
        replace f13 := (hk 13 (by decide)).trans f13
        replace f223 := (hk 223 (by decide)).trans f223
        replace f225 := (hk 225 (by decide)).trans f225
        replace f227 := (hk 227 (by decide)).trans f227
        have f228 := hv
        clear hk hv hz hf
        refine p_val (v := .int .i64 dl) ((wt_of rfl (by kernel_rfl) _ f223).trans rfl) rfl (p_get (v := .int .i64 dl) rfl f228 hM.at1 rfl) (by rw [fz]; decide) ?_
        intro d14 hk hv hz hf
        replace fz := hz.trans fz
        replace fd := hf.trans fd
        replace f5 := (hk 5 (by decide)).trans f5
        replace f7 := (hk 7 (by decide)).trans f7
        replace f8 := (hk 8 (by decide)).trans f8
        replace f13 := (hk 13 (by decide)).trans f13
        replace f223 := (hk 223 (by decide)).trans f223
        replace f225 := (hk 225 (by decide)).trans f225
        replace f227 := (hk 227 (by decide)).trans f227
        clear f228
        have f229 := hv
        clear hk hv hz hf
        refine p_val (v := .int .i64 q) ((wt_of rfl (by kernel_rfl) _ f223).trans rfl) rfl (by simp only [execOp, ev_con, ev_of f227, ev_of f229]; simp [go_sem, f227, f229, s6]) (by rw [fz]; decide) ?_
        intro d15 hk hv hz hf
        replace fz := hz.trans fz
        replace fd := hf.trans fd
        replace f5 := (hk 5 (by decide)).trans f5
        replace f7 := (hk 7 (by decide)).trans f7
        replace f8 := (hk 8 (by decide)).trans f8
        replace f13 := (hk 13 (by decide)).trans f13
        replace f223 := (hk 223 (by decide)).trans f223
        replace f225 := (hk 225 (by decide)).trans f225
        clear f227 f229
        have f230 := hv
        clear hk hv hz hf
        refine p_val (v := .bool true) ((wt_of rfl (by kernel_rfl) _ f223).trans rfl) rfl (by simp only [execOp, ev_con, ev_of f225, ev_of f230]; simp [go_sem, s3]) (by rw [fz]; decide) ?_
        intro d16 hk hv hz hf
        replace fz := hz.trans fz
        replace fd := hf.trans fd
        replace f5 := (hk 5 (by decide)).trans f5
        replace f7 := (hk 7 (by decide)).trans f7
        replace f8 := (hk 8 (by decide)).trans f8
        replace f13 := (hk 13 (by decide)).trans f13
        replace f223 := (hk 223 (by decide)).trans f223
        clear f225 f230
        have f231 := hv
        clear hk hv hz hf
        refine p_val (v := .bool true) rfl rfl (by simp only [execOp, ev_con, ev_of f223, ev_of f231]; simp [go_sem]) (by rw [fz]; decide) ?_
        intro d17 hk hv hz hf
        replace fz := hz.trans fz
        replace fd := hf.trans fd
        replace f5 := (hk 5 (by decide)).trans f5
        replace f7 := (hk 7 (by decide)).trans f7
        replace f8 := (hk 8 (by decide)).trans f8
        replace f13 := (hk 13 (by decide)).trans f13
        clear f223 f231
        have f232 := hv
        clear hk hv hz hf
        refine p_val (v := .bool true) rfl rfl (by simp only [execOp, ev_con, ev_of f232]; simp [go_sem]) (by rw [fz]; decide) ?_
        intro d18 hk hv hz hf
        replace fz := hz.trans fz
        replace fd := hf.trans fd
        replace f5 := (hk 5 (by decide)).trans f5
        replace f7 := (hk 7 (by decide)).trans f7
        replace f8 := (hk 8 (by decide)).trans f8
        replace f13 := (hk 13 (by decide)).trans f13
        clear f232
        have f233 := hv
        clear hk hv hz hf
        refine p_val (v := .pointer (some ⟨zv, 1, none⟩)) ((wt_of rfl (by kernel_rfl) _ f233).trans rfl) rfl (x_fld (r := 1) rfl f5 (fun w => by kernel_rfl)) (by rw [fz]; decide) ?_
        intro d19 hk hv hz hf
        replace fz := hz.trans fz
        replace fd := hf.trans fd
        replace f5 := (hk 5 (by decide)).trans f5
        replace f7 := (hk 7 (by decide)).trans f7
        replace f8 := (hk 8 (by decide)).trans f8
        replace f13 := (hk 13 (by decide)).trans f13
        replace f233 := (hk 233 (by decide)).trans f233
        have f234 := hv
        clear hk hv hz hf
        refine p_val (v := .int .i64 m) ((wt_of rfl (by kernel_rfl) _ f233).trans rfl) rfl (p_get (v := .int .i64 m) rfl f234 hM.at3 rfl) (by rw [fz]; decide) ?_
        intro d20 hk hv hz hf
        replace fz := hz.trans fz
        replace fd := hf.trans fd
        replace f5 := (hk 5 (by decide)).trans f5
        replace f7 := (hk 7 (by decide)).trans f7
        replace f8 := (hk 8 (by decide)).trans f8
        replace f13 := (hk 13 (by decide)).trans f13
        replace f233 := (hk 233 (by decide)).trans f233
        clear f234
        have f235 := hv
        clear hk hv hz hf
        refine p_val (v := .pointer (some ⟨zv, 2, none⟩)) ((wt_of rfl (by kernel_rfl) _ f233).trans rfl) rfl (x_fld (r := 2) rfl f5 (fun w => by kernel_rfl)) (by rw [fz]; decide) ?_
        intro d21 hk hv hz hf
        replace fz := hz.trans fz
        replace fd := hf.trans fd
        replace f5 := (hk 5 (by decide)).trans f5
        replace f7 := (hk 7 (by decide)).trans f7
        replace f8 := (hk 8 (by decide)).trans f8
        replace f13 := (hk 13 (by decide)).trans f13
        replace f233 := (hk 233 (by decide)).trans f233
        replace f235 := (hk 235 (by decide)).trans f235
        have f236 := hv
        clear hk hv hz hf
        refine p_val (v := .int .i64 r) ((wt_of rfl (by kernel_rfl) _ f233).trans rfl) rfl (p_get (v := .int .i64 r) rfl f236 hM.at3 rfl) (by rw [fz]; decide) ?_
        intro d22 hk hv hz hf
        replace fz := hz.trans fz
        replace fd := hf.trans fd
        replace f5 := (hk 5 (by decide)).trans f5
        replace f7 := (hk 7 (by decide)).trans f7
        replace f8 := (hk 8 (by decide)).trans f8
        replace f13 := (hk 13 (by decide)).trans f13
        replace f233 := (hk 233 (by decide)).trans f233
        replace f235 := (hk 235 (by decide)).trans f235
        clear f236
        have f237 := hv
        clear hk hv hz hf
        refine p_val (v := .int .i64 hl) ((wt_of rfl (by kernel_rfl) _ f233).trans rfl) rfl (by simp only [execOp, ev_con, ev_of f235, ev_of f237]; simp [go_sem, g1]) (by rw [fz]; decide) ?_
        intro d23 hk hv hz hf
        replace fz := hz.trans fz
        replace fd := hf.trans fd
        replace f5 := (hk 5 (by decide)).trans f5
        replace f7 := (hk 7 (by decide)).trans f7
        replace f8 := (hk 8 (by decide)).trans f8
        replace f13 := (hk 13 (by decide)).trans f13
        replace f233 := (hk 233 (by decide)).trans f233
        clear f235 f237
        have f238 := hv
        clear hk hv hz hf
        refine p_val (v := .pointer (some ⟨yh, 1, none⟩)) ((wt_of rfl (by kernel_rfl) _ f233).trans rfl) rfl (x_fld (r := 1) rfl f7 (fun w => by kernel_rfl)) (by rw [fz]; decide) ?_
        intro d24 hk hv hz hf
        replace fz := hz.trans fz
        replace fd := hf.trans fd
        replace f5 := (hk 5 (by decide)).trans f5
        replace f8 := (hk 8 (by decide)).trans f8
        replace f13 := (hk 13 (by decide)).trans f13
        replace f233 := (hk 233 (by decide)).trans f233
        replace f238 := (hk 238 (by decide)).trans f238
        clear f7
        have f239 := hv
        clear hk hv hz hf
        refine p_val (v := .int .i64 hl) ((wt_of rfl (by kernel_rfl) _ f233).trans rfl) rfl (p_get (v := .int .i64 hl) rfl f239 hM.at2 rfl) (by rw [fz]; decide) ?_
        intro d25 hk hv hz hf
        replace fz := hz.trans fz
        replace fd := hf.trans fd
        replace f5 := (hk 5 (by decide)).trans f5
        replace f8 := (hk 8 (by decide)).trans f8
        replace f13 := (hk 13 (by decide)).trans f13
        replace f233 := (hk 233 (by decide)).trans f233
        replace f238 := (hk 238 (by decide)).trans f238
        clear f239
        have f240 := hv
        clear hk hv hz hf
        refine p_val (v := .bool true) ((wt_of rfl (by kernel_rfl) _ f233).trans rfl) rfl (by simp only [execOp, ev_con, ev_of f238, ev_of f240]; simp [go_sem]) (by rw [fz]; decide) ?_
        intro d26 hk hv hz hf
        replace fz := hz.trans fz
        replace fd := hf.trans fd
        replace f5 := (hk 5 (by decide)).trans f5
        replace f8 := (hk 8 (by decide)).trans f8
        replace f13 := (hk 13 (by decide)).trans f13
        replace f233 := (hk 233 (by decide)).trans f233
        clear f238 f240
        have f241 := hv
        clear hk hv hz hf
        refine p_val (v := .bool true) rfl rfl (by simp only [execOp, ev_con, ev_of f233, ev_of f241]; simp [go_sem]) (by rw [fz]; decide) ?_
        intro d27 hk hv hz hf
        replace fz := hz.trans fz
        replace fd := hf.trans fd
        replace f5 := (hk 5 (by decide)).trans f5
        replace f8 := (hk 8 (by decide)).trans f8
        replace f13 := (hk 13 (by decide)).trans f13
        clear f233 f241
        have f242 := hv
        clear hk hv hz hf
        refine p_val (v := .bool true) rfl rfl (by simp only [execOp, ev_con, ev_of f242]; simp [go_sem]) (by rw [fz]; decide) ?_
        intro d28 hk hv hz hf
        replace fz := hz.trans fz
        replace fd := hf.trans fd
        replace f5 := (hk 5 (by decide)).trans f5
        replace f8 := (hk 8 (by decide)).trans f8
        replace f13 := (hk 13 (by decide)).trans f13
        clear f242
        have f243 := hv
        clear hk hv hz hf
        refine p_val (v := .pointer (some ⟨zv, 3, none⟩)) ((wt_of rfl (by kernel_rfl) _ f243).trans rfl) rfl (x_fld (r := 3) rfl f5 (fun w => by kernel_rfl)) (by rw [fz]; decide) ?_
        intro d29 hk hv hz hf
        replace fz := hz.trans fz
        replace fd := hf.trans fd
        replace f5 := (hk 5 (by decide)).trans f5
        replace f8 := (hk 8 (by decide)).trans f8
        replace f13 := (hk 13 (by decide)).trans f13
        replace f243 := (hk 243 (by decide)).trans f243
        have f244 := hv
        clear hk hv hz hf
        refine p_val (v := .int .i64 0) ((wt_of rfl (by kernel_rfl) _ f243).trans rfl) rfl (p_get (v := .int .i64 0) rfl f244 hM.at3 rfl) (by rw [fz]; decide) ?_
        intro d30 hk hv hz hf
        replace fz := hz.trans fz
        replace fd := hf.trans fd
        replace f5 := (hk 5 (by decide)).trans f5
        replace f8 := (hk 8 (by decide)).trans f8
        replace f13 := (hk 13 (by decide)).trans f13
        replace f243 := (hk 243 (by decide)).trans f243
        clear f244
        have f245 := hv
        clear hk hv hz hf
        refine p_val (v := .bool true) ((wt_of rfl (by kernel_rfl) _ f243).trans rfl) rfl (by simp only [execOp, ev_con, ev_of f245]; simp [go_sem]) (by rw [fz]; decide) ?_
        intro d31 hk hv hz hf
        replace fz := hz.trans fz
        replace fd := hf.trans fd
        replace f5 := (hk 5 (by decide)).trans f5
        replace f8 := (hk 8 (by decide)).trans f8
        replace f13 := (hk 13 (by decide)).trans f13
        replace f243 := (hk 243 (by decide)).trans f243
        clear f245
        have f246 := hv
        clear hk hv hz hf
        refine p_val (v := .bool true) ((wt_of rfl (by kernel_rfl) _ f243).trans rfl) rfl (by simp only [execOp, ev_con, ev_of f13]; simp [go_sem]) (by rw [fz]; decide) ?_
        intro d32 hk hv hz hf
        replace fz := hz.trans fz
        replace fd := hf.trans fd
        replace f5 := (hk 5 (by decide)).trans f5
        replace f8 := (hk 8 (by decide)).trans f8
        replace f13 := (hk 13 (by decide)).trans f13
        replace f243 := (hk 243 (by decide)).trans f243
        replace f246 := (hk 246 (by decide)).trans f246
        have f247 := hv
        clear hk hv hz hf
        refine p_val (v := .bool true) ((wt_of rfl (by kernel_rfl) _ f243).trans rfl) rfl (by simp only [execOp, ev_con, ev_of f246, ev_of f247]; simp [go_sem]) (by rw [fz]; decide) ?_
        intro d33 hk hv hz hf
        replace fz := hz.trans fz
        replace fd := hf.trans fd
        replace f5 := (hk 5 (by decide)).trans f5
        replace f8 := (hk 8 (by decide)).trans f8
        replace f13 := (hk 13 (by decide)).trans f13
        replace f243 := (hk 243 (by decide)).trans f243
        clear f246 f247
        have f248 := hv
        clear hk hv hz hf
        refine p_val (v := .bool true) rfl rfl (by simp only [execOp, ev_con, ev_of f243, ev_of f248]; simp [go_sem]) (by rw [fz]; decide) ?_
        intro d34 hk hv hz hf
        replace fz := hz.trans fz
        replace fd := hf.trans fd
        replace f5 := (hk 5 (by decide)).trans f5
        replace f8 := (hk 8 (by decide)).trans f8
        replace f13 := (hk 13 (by decide)).trans f13
        clear f243 f248
        have f249 := hv
        clear hk hv hz hf
        refine p_val (v := .bool true) rfl rfl (by simp only [execOp, ev_con, ev_of f249]; simp [go_sem]) (by rw [fz]; decide) ?_
        intro d35 hk hv hz hf
        replace fz := hz.trans fz
        replace fd := hf.trans fd
        replace f5 := (hk 5 (by decide)).trans f5
        replace f8 := (hk 8 (by decide)).trans f8
        replace f13 := (hk 13 (by decide)).trans f13
        clear f249
        have f250 := hv
        clear hk hv hz hf
        refine p_val (v := .pointer (some ⟨zv, 3, none⟩)) ((wt_of rfl (by kernel_rfl) _ f250).trans rfl) rfl (x_fld (r := 3) rfl f5 (fun w => by kernel_rfl)) (by rw [fz]; decide) ?_
        intro d36 hk hv hz hf
        replace fz := hz.trans fz
        replace fd := hf.trans fd
        replace f5 := (hk 5 (by decide)).trans f5
        replace f8 := (hk 8 (by decide)).trans f8
        replace f13 := (hk 13 (by decide)).trans f13
        replace f250 := (hk 250 (by decide)).trans f250
        have f251 := hv
        clear hk hv hz hf
        refine p_val (v := .int .i64 0) ((wt_of rfl (by kernel_rfl) _ f250).trans rfl) rfl (p_get (v := .int .i64 0) rfl f251 hM.at3 rfl) (by rw [fz]; decide) ?_
        intro d37 hk hv hz hf
        replace fz := hz.trans fz
        replace fd := hf.trans fd
        replace f5 := (hk 5 (by decide)).trans f5
        replace f8 := (hk 8 (by decide)).trans f8
        replace f13 := (hk 13 (by decide)).trans f13
        replace f250 := (hk 250 (by decide)).trans f250
        clear f251
        have f252 := hv
        clear hk hv hz hf
        refine p_val (v := .bool true) ((wt_of rfl (by kernel_rfl) _ f250).trans rfl) rfl (by simp only [execOp, ev_con, ev_of f252]; simp [go_sem]) (by rw [fz]; decide) ?_
        intro d38 hk hv hz hf
        replace fz := hz.trans fz
        replace fd := hf.trans fd
        replace f5 := (hk 5 (by decide)).trans f5
        replace f8 := (hk 8 (by decide)).trans f8
        replace f13 := (hk 13 (by decide)).trans f13
        replace f250 := (hk 250 (by decide)).trans f250
        clear f252
        have f253 := hv
        clear hk hv hz hf
        refine p_val (v := .bool true) ((wt_of rfl (by kernel_rfl) _ f250).trans rfl) rfl (by simp only [execOp, ev_con, ev_of f253]; simp [go_sem]) (by rw [fz]; decide) ?_
        intro d39 hk hv hz hf
        replace fz := hz.trans fz
        replace fd := hf.trans fd
        replace f5 := (hk 5 (by decide)).trans f5
        replace f8 := (hk 8 (by decide)).trans f8
        replace f13 := (hk 13 (by decide)).trans f13
        replace f250 := (hk 250 (by decide)).trans f250
        clear f253
        have f254 := hv
        clear hk hv hz hf
        refine p_not ((wt_of rfl (by kernel_rfl) _ f254).trans rfl) rfl (by rw [fz]; decide) ?_
        intro d40 hk hv hz hf
        replace fz := hz.trans fz
        replace fd := hf.trans fd
        replace f5 := (hk 5 (by decide)).trans f5
        replace f8 := (hk 8 (by decide)).trans f8
        replace f13 := (hk 13 (by decide)).trans f13
        replace f250 := (hk 250 (by decide)).trans f250
        replace f254 := (hk 254 (by decide)).trans f254
        have f255 := hv
        clear hk hv hz hf
        refine p_not ((wt_of rfl (by kernel_rfl) _ f254).trans rfl) rfl (by rw [fz]; decide) ?_
        intro d41 hk hv hz hf
        replace fz := hz.trans fz
        replace fd := hf.trans fd
        replace f5 := (hk 5 (by decide)).trans f5
        replace f8 := (hk 8 (by decide)).trans f8
        replace f13 := (hk 13 (by decide)).trans f13
        replace f250 := (hk 250 (by decide)).trans f250
        replace f254 := (hk 254 (by decide)).trans f254
        clear f255
        have f256 := hv
        clear hk hv hz hf
        refine p_not ((wt_of rfl (by kernel_rfl) _ f254).trans rfl) rfl (by rw [fz]; decide) ?_
        intro d42 hk hv hz hf
        replace fz := hz.trans fz
        replace fd := hf.trans fd
        replace f5 := (hk 5 (by decide)).trans f5
        replace f8 := (hk 8 (by decide)).trans f8
        replace f13 := (hk 13 (by decide)).trans f13
        replace f250 := (hk 250 (by decide)).trans f250
        replace f254 := (hk 254 (by decide)).trans f254
        clear f256
        have f257 := hv
        clear hk hv hz hf
        refine p_val (v := .bool true) ((wt_of rfl (by kernel_rfl) _ f250).trans rfl) rfl (by simp only [execOp, ev_con, ev_of f254, ev_of f257]; simp [go_sem]) (by rw [fz]; decide) ?_
        intro d43 hk hv hz hf
        replace fz := hz.trans fz
        replace fd := hf.trans fd
        replace f5 := (hk 5 (by decide)).trans f5
        replace f8 := (hk 8 (by decide)).trans f8
        replace f13 := (hk 13 (by decide)).trans f13
        replace f250 := (hk 250 (by decide)).trans f250
        clear f254 f257
        have f258 := hv
        clear hk hv hz hf
        refine p_val (v := .bool true) rfl rfl (by simp only [execOp, ev_con, ev_of f250, ev_of f258]; simp [go_sem]) (by rw [fz]; decide) ?_
        intro d44 hk hv hz hf
        replace fz := hz.trans fz
        replace fd := hf.trans fd
        replace f5 := (hk 5 (by decide)).trans f5
        replace f8 := (hk 8 (by decide)).trans f8
        replace f13 := (hk 13 (by decide)).trans f13
        clear f250 f258
        have f259 := hv
        clear hk hv hz hf
        refine p_val (v := .bool true) rfl rfl (by simp only [execOp, ev_con, ev_of f259]; simp [go_sem]) (by rw [fz]; decide) ?_
        intro d45 hk hv hz hf
        replace fz := hz.trans fz
        replace fd := hf.trans fd
        replace f5 := (hk 5 (by decide)).trans f5
        replace f8 := (hk 8 (by decide)).trans f8
        replace f13 := (hk 13 (by decide)).trans f13
        clear f259
        have f260 := hv
        clear hk hv hz hf
        refine p_val (v := .bool true) ((wt_of rfl (by kernel_rfl) _ f260).trans rfl) rfl (by simp only [execOp, ev_con, ev_of f13]; simp [go_sem]) (by rw [fz]; decide) ?_
        intro d46 hk hv hz hf
        replace fz := hz.trans fz
        replace fd := hf.trans fd
        replace f5 := (hk 5 (by decide)).trans f5
        replace f8 := (hk 8 (by decide)).trans f8
        replace f260 := (hk 260 (by decide)).trans f260
        clear f13
        have f261 := hv
        clear hk hv hz hf
        refine p_val (v := .bool false) ((wt_of rfl (by kernel_rfl) _ f260).trans rfl) rfl (by simp only [execOp, ev_con, ev_of f261]; simp [go_sem]) (by rw [fz]; decide) ?_
        intro d47 hk hv hz hf
        replace fz := hz.trans fz
        replace fd := hf.trans fd
        replace f5 := (hk 5 (by decide)).trans f5
        replace f8 := (hk 8 (by decide)).trans f8
        replace f260 := (hk 260 (by decide)).trans f260
        clear f261
        have f262 := hv
        clear hk hv hz hf
        refine p_val (v := .bool false) ((wt_of rfl (by kernel_rfl) _ f260).trans rfl) rfl (by simp only [execOp, ev_con, ev_of f262]; simp [go_sem]) (by rw [fz]; decide) ?_
        intro d48 hk hv hz hf
        replace fz := hz.trans fz
        replace fd := hf.trans fd
        replace f5 := (hk 5 (by decide)).trans f5
        replace f8 := (hk 8 (by decide)).trans f8
        replace f260 := (hk 260 (by decide)).trans f260
        clear f262
        have f263 := hv
        clear hk hv hz hf
        refine p_val (v := .pointer (some ⟨zv, 1, none⟩)) ((wt_of rfl (by kernel_rfl) _ f263).trans rfl) rfl (x_fld (r := 1) rfl f5 (fun w => by kernel_rfl)) (by rw [fz]; decide) ?_
        intro d49 hk hv hz hf
        replace fz := hz.trans fz
        replace fd := hf.trans fd
        replace f8 := (hk 8 (by decide)).trans f8
        replace f260 := (hk 260 (by decide)).trans f260
        replace f263 := (hk 263 (by decide)).trans f263
        clear f5
        have f264 := hv
        clear hk hv hz hf
        refine p_val (v := .int .i64 m) ((wt_of rfl (by kernel_rfl) _ f263).trans rfl) rfl (p_get (v := .int .i64 m) rfl f264 hM.at3 rfl) (by rw [fz]; decide) ?_
        intro d50 hk hv hz hf
        replace fz := hz.trans fz
        replace fd := hf.trans fd
        replace f8 := (hk 8 (by decide)).trans f8
        replace f260 := (hk 260 (by decide)).trans f260
        replace f263 := (hk 263 (by decide)).trans f263
        clear f264
        have f265 := hv
        clear hk hv hz hf
        refine p_val (v := .pointer (some ⟨yd, 1, none⟩)) ((wt_of rfl (by kernel_rfl) _ f263).trans rfl) rfl (x_fld (r := 1) rfl f8 (fun w => by kernel_rfl)) (by rw [fz]; decide) ?_
        intro d51 hk hv hz hf
        replace fz := hz.trans fz
        replace fd := hf.trans fd
        replace f260 := (hk 260 (by decide)).trans f260
        replace f263 := (hk 263 (by decide)).trans f263
        replace f265 := (hk 265 (by decide)).trans f265
        clear f8
        have f266 := hv
        clear hk hv hz hf
        refine p_val (v := .int .i64 dl) ((wt_of rfl (by kernel_rfl) _ f263).trans rfl) rfl (p_get (v := .int .i64 dl) rfl f266 hM.at1 rfl) (by rw [fz]; decide) ?_
        intro d52 hk hv hz hf
        replace fz := hz.trans fz
        replace fd := hf.trans fd
        replace f260 := (hk 260 (by decide)).trans f260
        replace f263 := (hk 263 (by decide)).trans f263
        replace f265 := (hk 265 (by decide)).trans f265
        clear f266
        have f267 := hv
        clear hk hv hz hf
        refine p_val (v := .bool true) ((wt_of rfl (by kernel_rfl) _ f263).trans rfl) rfl (by simp only [execOp, ev_con, ev_of f265, ev_of f267]; simp [go_sem, p3]) (by rw [fz]; decide) ?_
        intro d53 hk hv hz hf
        replace fz := hz.trans fz
        replace fd := hf.trans fd
        replace f260 := (hk 260 (by decide)).trans f260
        replace f263 := (hk 263 (by decide)).trans f263
        clear f265 f267
        have f268 := hv
        clear hk hv hz hf
        refine p_val (v := .bool true) ((wt_of rfl (by kernel_rfl) _ f260).trans rfl) rfl (by simp only [execOp, ev_con, ev_of f263, ev_of f268]; simp [go_sem]) (by rw [fz]; decide) ?_
        intro d54 hk hv hz hf
        replace fz := hz.trans fz
        replace fd := hf.trans fd
        replace f260 := (hk 260 (by decide)).trans f260
        clear f263 f268
        have f269 := hv
        clear hk hv hz hf
        refine p_val (v := .bool true) rfl rfl (by simp only [execOp, ev_con, ev_of f260, ev_of f269]; simp [go_sem]) (by rw [fz]; decide) ?_
        intro d55 hk hv hz hf
        replace fz := hz.trans fz
        replace fd := hf.trans fd
        clear f260 f269
        have f270 := hv
        clear hk hv hz hf
        refine p_val (v := .bool true) rfl rfl (by simp only [execOp, ev_con, ev_of f270]; simp [go_sem]) (by rw [fz]; decide) ?_
        intro d56 hk hv hz hf
        replace fz := hz.trans fz
        replace fd := hf.trans fd
        clear f270
        have f4 := hv
        clear hk hv hz hf
        go_step
        go_step
        go_step
        go_step
        exact bodyPost_ret (ret_t rfl f4) fd ⟨rfl, hM.below⟩
      · subst p4
        go_upto_region 15 with (fail)
        refine reg.wp_abs (fun a0 => a0.tmps.size = 271 ∧ a0.defers = [] ∧ a0.tmps[5]? = some (.pointer (some ⟨zv, 0, none⟩)) ∧ a0.tmps[7]? = some (.pointer (some ⟨yh, 0, none⟩)) ∧ a0.tmps[8]? = some (.pointer (some ⟨yd, 0, none⟩)) ∧ a0.tmps[10]? = some (.int .i64 1)) ⟨rfl, rfl, rfl, rfl, rfl, rfl⟩ ?_
        rintro a0 ⟨fz, fd, f5, f7, f8, f10⟩ ha0
        clear ha0
        go_step
        try simp only [List.append_eq, List.cons_append, List.nil_append]
        refine p_val (v := .pointer (some ⟨yd, 0, none⟩)) rfl rfl (x_fld (r := 0) rfl f8 (fun w => by kernel_rfl)) (by rw [fz]; decide) ?_
        intro b1 hk hv hz hf
        replace fz := hz.trans fz
        replace fd := hf.trans fd
        replace f5 := (hk 5 (by decide)).trans f5
        replace f7 := (hk 7 (by decide)).trans f7
        replace f8 := (hk 8 (by decide)).trans f8
        replace f10 := (hk 10 (by decide)).trans f10
        have f199 := hv
        clear hk hv hz hf
        refine p_val (v := .int .i64 dh) rfl rfl (p_get (v := .int .i64 dh) rfl f199 hM.at1 rfl) (by rw [fz]; decide) ?_
        intro b2 hk hv hz hf
        replace fz := hz.trans fz
        replace fd := hf.trans fd
        replace f5 := (hk 5 (by decide)).trans f5
        replace f7 := (hk 7 (by decide)).trans f7
        replace f8 := (hk 8 (by decide)).trans f8
        replace f10 := (hk 10 (by decide)).trans f10
        clear f199
        have f200 := hv
        clear hk hv hz hf
        refine p_val (v := .bool false) rfl rfl (by simp only [execOp, ev_con, ev_of f200]; simp [go_sem, p1]) (by rw [fz]; decide) ?_
        intro b3 hk hv hz hf
        replace fz := hz.trans fz
        replace fd := hf.trans fd
        replace f5 := (hk 5 (by decide)).trans f5
        replace f7 := (hk 7 (by decide)).trans f7
        replace f8 := (hk 8 (by decide)).trans f8
        replace f10 := (hk 10 (by decide)).trans f10
        clear f200
        have f201 := hv
        clear hk hv hz hf
        refine p_val (v := .bool false) rfl rfl (by simp only [execOp, ev_con, ev_of f201]; simp [go_sem]) (by rw [fz]; decide) ?_
        intro b4 hk hv hz hf
        replace fz := hz.trans fz
        replace fd := hf.trans fd
        replace f5 := (hk 5 (by decide)).trans f5
        replace f7 := (hk 7 (by decide)).trans f7
        replace f8 := (hk 8 (by decide)).trans f8
        replace f10 := (hk 10 (by decide)).trans f10
        clear f201
        have f202 := hv
        clear hk hv hz hf
        refine p_val (v := .pointer (some ⟨yd, 0, none⟩)) ((wt_of rfl (by kernel_rfl) _ f202).trans rfl) rfl (x_fld (r := 0) rfl f8 (fun w => by kernel_rfl)) (by rw [fz]; decide) ?_
        intro b5 hk hv hz hf
        replace fz := hz.trans fz
        replace fd := hf.trans fd
        replace f5 := (hk 5 (by decide)).trans f5
        replace f7 := (hk 7 (by decide)).trans f7
        replace f8 := (hk 8 (by decide)).trans f8
        replace f10 := (hk 10 (by decide)).trans f10
        replace f202 := (hk 202 (by decide)).trans f202
        have f203 := hv
        clear hk hv hz hf
        refine p_val (v := .int .i64 dh) ((wt_of rfl (by kernel_rfl) _ f202).trans rfl) rfl (p_get (v := .int .i64 dh) rfl f203 hM.at1 rfl) (by rw [fz]; decide) ?_
        intro b6 hk hv hz hf
        replace fz := hz.trans fz
        replace fd := hf.trans fd
        replace f5 := (hk 5 (by decide)).trans f5
        replace f7 := (hk 7 (by decide)).trans f7
        replace f8 := (hk 8 (by decide)).trans f8
        replace f10 := (hk 10 (by decide)).trans f10
        replace f202 := (hk 202 (by decide)).trans f202
        clear f203
        have f204 := hv
        clear hk hv hz hf
        refine p_val (v := .pointer (some ⟨yh, 0, none⟩)) ((wt_of rfl (by kernel_rfl) _ f202).trans rfl) rfl (x_fld (r := 0) rfl f7 (fun w => by kernel_rfl)) (by rw [fz]; decide) ?_
        intro b7 hk hv hz hf
        replace fz := hz.trans fz
        replace fd := hf.trans fd
        replace f5 := (hk 5 (by decide)).trans f5
        replace f7 := (hk 7 (by decide)).trans f7
        replace f8 := (hk 8 (by decide)).trans f8
        replace f10 := (hk 10 (by decide)).trans f10
        replace f202 := (hk 202 (by decide)).trans f202
        replace f204 := (hk 204 (by decide)).trans f204
        have f205 := hv
        clear hk hv hz hf
        refine p_val (v := .int .i64 hh) ((wt_of rfl (by kernel_rfl) _ f202).trans rfl) rfl (p_get (v := .int .i64 hh) rfl f205 hM.at2 rfl) (by rw [fz]; decide) ?_
        intro b8 hk hv hz hf
        replace fz := hz.trans fz
        replace fd := hf.trans fd
        replace f5 := (hk 5 (by decide)).trans f5
        replace f7 := (hk 7 (by decide)).trans f7
        replace f8 := (hk 8 (by decide)).trans f8
        replace f10 := (hk 10 (by decide)).trans f10
        replace f202 := (hk 202 (by decide)).trans f202
        replace f204 := (hk 204 (by decide)).trans f204
        clear f205
        have f206 := hv
        clear hk hv hz hf
        refine p_val (v := .bool true) ((wt_of rfl (by kernel_rfl) _ f202).trans rfl) rfl (by simp only [execOp, ev_con, ev_of f204, ev_of f206]; simp [go_sem, p2]) (by rw [fz]; decide) ?_
        intro b9 hk hv hz hf
        replace fz := hz.trans fz
        replace fd := hf.trans fd
        replace f5 := (hk 5 (by decide)).trans f5
        replace f7 := (hk 7 (by decide)).trans f7
        replace f8 := (hk 8 (by decide)).trans f8
        replace f10 := (hk 10 (by decide)).trans f10
        replace f202 := (hk 202 (by decide)).trans f202
        clear f204 f206
        have f207 := hv
        clear hk hv hz hf
        refine p_val (v := .bool true) ((wt_of rfl (by kernel_rfl) _ f202).trans rfl) rfl (by simp only [execOp, ev_con, ev_of f207]; simp [go_sem]) (by rw [fz]; decide) ?_
        intro b10 hk hv hz hf
        replace fz := hz.trans fz
        replace fd := hf.trans fd
        replace f5 := (hk 5 (by decide)).trans f5
        replace f7 := (hk 7 (by decide)).trans f7
        replace f8 := (hk 8 (by decide)).trans f8
        replace f10 := (hk 10 (by decide)).trans f10
        replace f202 := (hk 202 (by decide)).trans f202
        clear f207
        have f208 := hv
        clear hk hv hz hf
        refine p_val (v := .pointer (some ⟨yd, 1, none⟩)) ((wt_of rfl (by kernel_rfl) _ f208).trans rfl) rfl (x_fld (r := 1) rfl f8 (fun w => by kernel_rfl)) (by rw [fz]; decide) ?_
        intro b11 hk hv hz hf
        replace fz := hz.trans fz
        replace fd := hf.trans fd
        replace f5 := (hk 5 (by decide)).trans f5
        replace f7 := (hk 7 (by decide)).trans f7
        replace f8 := (hk 8 (by decide)).trans f8
        replace f10 := (hk 10 (by decide)).trans f10
        replace f202 := (hk 202 (by decide)).trans f202
        replace f208 := (hk 208 (by decide)).trans f208
        have f209 := hv
        clear hk hv hz hf
        refine p_val (v := .int .i64 dl) ((wt_of rfl (by kernel_rfl) _ f208).trans rfl) rfl (p_get (v := .int .i64 dl) rfl f209 hM.at1 rfl) (by rw [fz]; decide) ?_
        intro b12 hk hv hz hf
        replace fz := hz.trans fz
        replace fd := hf.trans fd
        replace f5 := (hk 5 (by decide)).trans f5
        replace f7 := (hk 7 (by decide)).trans f7
        replace f8 := (hk 8 (by decide)).trans f8
        replace f10 := (hk 10 (by decide)).trans f10
        replace f202 := (hk 202 (by decide)).trans f202
        replace f208 := (hk 208 (by decide)).trans f208
        clear f209
        have f210 := hv
        clear hk hv hz hf
        refine p_val (v := .pointer (some ⟨yh, 1, none⟩)) ((wt_of rfl (by kernel_rfl) _ f208).trans rfl) rfl (x_fld (r := 1) rfl f7 (fun w => by kernel_rfl)) (by rw [fz]; decide) ?_
        intro b13 hk hv hz hf
        replace fz := hz.trans fz
        replace fd := hf.trans fd
        replace f5 := (hk 5 (by decide)).trans f5
        replace f7 := (hk 7 (by decide)).trans f7
        replace f8 := (hk 8 (by decide)).trans f8
        replace f10 := (hk 10 (by decide)).trans f10
        replace f202 := (hk 202 (by decide)).trans f202
        replace f208 := (hk 208 (by decide)).trans f208
        replace f210 := (hk 210 (by decide)).trans f210
        have f211 := hv
        clear hk hv hz hf
        refine p_val (v := .int .i64 hl) ((wt_of rfl (by kernel_rfl) _ f208).trans rfl) rfl (p_get (v := .int .i64 hl) rfl f211 hM.at2 rfl) (by rw [fz]; decide) ?_
        intro b14 hk hv hz hf
        replace fz := hz.trans fz
        replace fd := hf.trans fd
        replace f5 := (hk 5 (by decide)).trans f5
        replace f7 := (hk 7 (by decide)).trans f7
        replace f8 := (hk 8 (by decide)).trans f8
        replace f10 := (hk 10 (by decide)).trans f10
        replace f202 := (hk 202 (by decide)).trans f202
        replace f208 := (hk 208 (by decide)).trans f208
        replace f210 := (hk 210 (by decide)).trans f210
        clear f211
        have f212 := hv
        clear hk hv hz hf
        refine p_val (v := .bool true) ((wt_of rfl (by kernel_rfl) _ f208).trans rfl) rfl (by simp only [execOp, ev_con, ev_of f210, ev_of f212]; simp [go_sem, p3]) (by rw [fz]; decide) ?_
        intro b15 hk hv hz hf
        replace fz := hz.trans fz
        replace fd := hf.trans fd
        replace f5 := (hk 5 (by decide)).trans f5
        replace f7 := (hk 7 (by decide)).trans f7
        replace f8 := (hk 8 (by decide)).trans f8
        replace f10 := (hk 10 (by decide)).trans f10
        replace f202 := (hk 202 (by decide)).trans f202
        replace f208 := (hk 208 (by decide)).trans f208
        clear f210 f212
        have f213 := hv
        clear hk hv hz hf
        refine p_val (v := .bool true) ((wt_of rfl (by kernel_rfl) _ f202).trans rfl) rfl (by simp only [execOp, ev_con, ev_of f208, ev_of f213]; simp [go_sem]) (by rw [fz]; decide) ?_
        intro b16 hk hv hz hf
        replace fz := hz.trans fz
        replace fd := hf.trans fd
        replace f5 := (hk 5 (by decide)).trans f5
        replace f7 := (hk 7 (by decide)).trans f7
        replace f8 := (hk 8 (by decide)).trans f8
        replace f10 := (hk 10 (by decide)).trans f10
        replace f202 := (hk 202 (by decide)).trans f202
        clear f208 f213
        have f214 := hv
        clear hk hv hz hf
        refine p_val (v := .bool true) rfl rfl (by simp only [execOp, ev_con, ev_of f202, ev_of f214]; simp [go_sem]) (by rw [fz]; decide) ?_
        intro b17 hk hv hz hf
        replace fz := hz.trans fz
        replace fd := hf.trans fd
        replace f5 := (hk 5 (by decide)).trans f5
        replace f7 := (hk 7 (by decide)).trans f7
        replace f8 := (hk 8 (by decide)).trans f8
        replace f10 := (hk 10 (by decide)).trans f10
        clear f202 f214
        have f215 := hv
        clear hk hv hz hf
        refine p_val (v := .bool true) rfl rfl (by simp only [execOp, ev_con, ev_of f215]; simp [go_sem]) (by rw [fz]; decide) ?_
        intro b18 hk hv hz hf
        replace fz := hz.trans fz
        replace fd := hf.trans fd
        replace f5 := (hk 5 (by decide)).trans f5
        replace f7 := (hk 7 (by decide)).trans f7
        replace f8 := (hk 8 (by decide)).trans f8
        replace f10 := (hk 10 (by decide)).trans f10
        clear f215
        have f13 := hv
        clear hk hv hz hf
        go_upto_region 16 with (fail)
        go_step
        try simp only [List.append_eq, List.cons_append, List.nil_append]
        refine p_val (v := .int .i64 1) rfl rfl (by simp only [execOp, ev_con, ev_of f10]; simp [go_sem]) (by rw [fz]; decide) ?_
        intro d1 hk hv hz hf
        replace fz := hz.trans fz
        replace fd := hf.trans fd
        replace f5 := (hk 5 (by decide)).trans f5
        replace f7 := (hk 7 (by decide)).trans f7
        replace f8 := (hk 8 (by decide)).trans f8
        replace f13 := (hk 13 (by decide)).trans f13
        clear f10
        have f216 := hv
        clear hk hv hz hf
        refine p_val (v := .bool true) rfl rfl (by simp only [execOp, ev_con, ev_of f216]; simp [go_sem]) (by rw [fz]; decide) ?_
        intro d2 hk hv hz hf
        replace fz := hz.trans fz
        replace fd := hf.trans fd
        replace f5 := (hk 5 (by decide)).trans f5
        replace f7 := (hk 7 (by decide)).trans f7
        replace f8 := (hk 8 (by decide)).trans f8
        replace f13 := (hk 13 (by decide)).trans f13
        clear f216
        have f217 := hv
        clear hk hv hz hf
        refine p_val (v := .bool true) rfl rfl (by simp only [execOp, ev_con, ev_of f217]; simp [go_sem]) (by rw [fz]; decide) ?_
        intro d3 hk hv hz hf
        replace fz := hz.trans fz
        replace fd := hf.trans fd
        replace f5 := (hk 5 (by decide)).trans f5
        replace f7 := (hk 7 (by decide)).trans f7
        replace f8 := (hk 8 (by decide)).trans f8
        replace f13 := (hk 13 (by decide)).trans f13
        clear f217
        have f218 := hv
        clear hk hv hz hf
        refine p_val (v := .pointer (some ⟨zv, 1, none⟩)) ((wt_of rfl (by kernel_rfl) _ f218).trans rfl) rfl (x_fld (r := 1) rfl f5 (fun w => by kernel_rfl)) (by rw [fz]; decide) ?_
        intro d4 hk hv hz hf
        replace fz := hz.trans fz
        replace fd := hf.trans fd
        replace f5 := (hk 5 (by decide)).trans f5
        replace f7 := (hk 7 (by decide)).trans f7
        replace f8 := (hk 8 (by decide)).trans f8
        replace f13 := (hk 13 (by decide)).trans f13
        replace f218 := (hk 218 (by decide)).trans f218
        have f219 := hv
        clear hk hv hz hf
        refine p_val (v := .int .i64 m) ((wt_of rfl (by kernel_rfl) _ f218).trans rfl) rfl (p_get (v := .int .i64 m) rfl f219 hM.at3 rfl) (by rw [fz]; decide) ?_
        intro d5 hk hv hz hf
        replace fz := hz.trans fz
        replace fd := hf.trans fd
        replace f5 := (hk 5 (by decide)).trans f5
        replace f7 := (hk 7 (by decide)).trans f7
        replace f8 := (hk 8 (by decide)).trans f8
        replace f13 := (hk 13 (by decide)).trans f13
        replace f218 := (hk 218 (by decide)).trans f218
        clear f219
        have f220 := hv
        clear hk hv hz hf
        refine p_val (v := .bool true) ((wt_of rfl (by kernel_rfl) _ f218).trans rfl) rfl (by simp only [execOp, ev_con, ev_of f220]; simp [go_sem, s2]) (by rw [fz]; decide) ?_
        intro d6 hk hv hz hf
        replace fz := hz.trans fz
        replace fd := hf.trans fd
        replace f5 := (hk 5 (by decide)).trans f5
        replace f7 := (hk 7 (by decide)).trans f7
        replace f8 := (hk 8 (by decide)).trans f8
        replace f13 := (hk 13 (by decide)).trans f13
        replace f218 := (hk 218 (by decide)).trans f218
        clear f220
        have f221 := hv
        clear hk hv hz hf
        refine p_val (v := .bool true) rfl rfl (by simp only [execOp, ev_con, ev_of f218, ev_of f221]; simp [go_sem]) (by rw [fz]; decide) ?_
        intro d7 hk hv hz hf
        replace fz := hz.trans fz
        replace fd := hf.trans fd
        replace f5 := (hk 5 (by decide)).trans f5
        replace f7 := (hk 7 (by decide)).trans f7
        replace f8 := (hk 8 (by decide)).trans f8
        replace f13 := (hk 13 (by decide)).trans f13
        clear f218 f221
        have f222 := hv
        clear hk hv hz hf
        refine p_val (v := .bool true) rfl rfl (by simp only [execOp, ev_con, ev_of f222]; simp [go_sem]) (by rw [fz]; decide) ?_
        intro d8 hk hv hz hf
        replace fz := hz.trans fz
        replace fd := hf.trans fd
        replace f5 := (hk 5 (by decide)).trans f5
        replace f7 := (hk 7 (by decide)).trans f7
        replace f8 := (hk 8 (by decide)).trans f8
        replace f13 := (hk 13 (by decide)).trans f13
        clear f222
        have f223 := hv
        clear hk hv hz hf
        refine p_val (v := .pointer (some ⟨zv, 1, none⟩)) ((wt_of rfl (by kernel_rfl) _ f223).trans rfl) rfl (x_fld (r := 1) rfl f5 (fun w => by kernel_rfl)) (by rw [fz]; decide) ?_
        intro d9 hk hv hz hf
        replace fz := hz.trans fz
        replace fd := hf.trans fd
        replace f5 := (hk 5 (by decide)).trans f5
        replace f7 := (hk 7 (by decide)).trans f7
        replace f8 := (hk 8 (by decide)).trans f8
        replace f13 := (hk 13 (by decide)).trans f13
        replace f223 := (hk 223 (by decide)).trans f223
        have f224 := hv
        clear hk hv hz hf
        refine p_val (v := .int .i64 m) ((wt_of rfl (by kernel_rfl) _ f223).trans rfl) rfl (p_get (v := .int .i64 m) rfl f224 hM.at3 rfl) (by rw [fz]; decide) ?_
        intro d10 hk hv hz hf
        replace fz := hz.trans fz
        replace fd := hf.trans fd
        replace f5 := (hk 5 (by decide)).trans f5
        replace f7 := (hk 7 (by decide)).trans f7
        replace f8 := (hk 8 (by decide)).trans f8
        replace f13 := (hk 13 (by decide)).trans f13
        replace f223 := (hk 223 (by decide)).trans f223
        clear f224
        have f225 := hv
        clear hk hv hz hf
        refine p_val (v := .pointer (some ⟨yh, 1, none⟩)) ((wt_of rfl (by kernel_rfl) _ f223).trans rfl) rfl (x_fld (r := 1) rfl f7 (fun w => by kernel_rfl)) (by rw [fz]; decide) ?_
        intro d11 hk hv hz hf
        replace fz := hz.trans fz
        replace fd := hf.trans fd
        replace f5 := (hk 5 (by decide)).trans f5
        replace f7 := (hk 7 (by decide)).trans f7
        replace f8 := (hk 8 (by decide)).trans f8
        replace f13 := (hk 13 (by decide)).trans f13
        replace f223 := (hk 223 (by decide)).trans f223
        replace f225 := (hk 225 (by decide)).trans f225
        have f226 := hv
        clear hk hv hz hf
        refine p_val (v := .int .i64 hl) ((wt_of rfl (by kernel_rfl) _ f223).trans rfl) rfl (p_get (v := .int .i64 hl) rfl f226 hM.at2 rfl) (by rw [fz]; decide) ?_
        intro d12 hk hv hz hf
        replace fz := hz.trans fz
        replace fd := hf.trans fd
        replace f5 := (hk 5 (by decide)).trans f5
        replace f7 := (hk 7 (by decide)).trans f7
        replace f8 := (hk 8 (by decide)).trans f8
        replace f13 := (hk 13 (by decide)).trans f13
        replace f223 := (hk 223 (by decide)).trans f223
        replace f225 := (hk 225 (by decide)).trans f225
        clear f226
        have f227 := hv
        clear hk hv hz hf
        refine p_val (v := .pointer (some ⟨yd, 1, none⟩)) ((wt_of rfl (by kernel_rfl) _ f223).trans rfl) rfl (x_fld (r := 1) rfl f8 (fun w => by kernel_rfl)) (by rw [fz]; decide) ?_
        intro d13 hk hv hz hf
        replace fz := hz.trans fz
        replace fd := hf.trans fd
        replace f5 := (hk 5 (by decide)).trans f5
        replace f7 := (hk 7 (by decide)).trans f7
        replace f8 := (hk 8 (by decide)).trans f8
        replace f13 := (hk 13 (by decide)).trans f13
        replace f223 := (hk 223 (by decide)).trans f223
        replace f225 := (hk 225 (by decide)).trans f225
        replace f227 := (hk 227 (by decide)).trans f227
        have f228 := hv
        clear hk hv hz hf
        refine p_val (v := .int .i64 dl) ((wt_of rfl (by kernel_rfl) _ f223).trans rfl) rfl (p_get (v := .int .i64 dl) rfl f228 hM.at1 rfl) (by rw [fz]; decide) ?_
        intro d14 hk hv hz hf
        replace fz := hz.trans fz
        replace fd := hf.trans fd
        replace f5 := (hk 5 (by decide)).trans f5
        replace f7 := (hk 7 (by decide)).trans f7
        replace f8 := (hk 8 (by decide)).trans f8
        replace f13 := (hk 13 (by decide)).trans f13
        replace f223 := (hk 223 (by decide)).trans f223
        replace f225 := (hk 225 (by decide)).trans f225
        replace f227 := (hk 227 (by decide)).trans f227
        clear f228
        have f229 := hv
        clear hk hv hz hf
        refine p_val (v := .int .i64 q) ((wt_of rfl (by kernel_rfl) _ f223).trans rfl) rfl (by simp only [execOp, ev_con, ev_of f227, ev_of f229]; simp [go_sem, f227, f229, s6]) (by rw [fz]; decide) ?_
        intro d15 hk hv hz hf
        replace fz := hz.trans fz
        replace fd := hf.trans fd
        replace f5 := (hk 5 (by decide)).trans f5
        replace f7 := (hk 7 (by decide)).trans f7
        replace f8 := (hk 8 (by decide)).trans f8
        replace f13 := (hk 13 (by decide)).trans f13
        replace f223 := (hk 223 (by decide)).trans f223
        replace f225 := (hk 225 (by decide)).trans f225
        clear f227 f229
        have f230 := hv
        clear hk hv hz hf
        refine p_val (v := .bool true) ((wt_of rfl (by kernel_rfl) _ f223).trans rfl) rfl (by simp only [execOp, ev_con, ev_of f225, ev_of f230]; simp [go_sem, s3]) (by rw [fz]; decide) ?_
        intro d16 hk hv hz hf
        replace fz := hz.trans fz
        replace fd := hf.trans fd
        replace f5 := (hk 5 (by decide)).trans f5
        replace f7 := (hk 7 (by decide)).trans f7
        replace f8 := (hk 8 (by decide)).trans f8
        replace f13 := (hk 13 (by decide)).trans f13
        replace f223 := (hk 223 (by decide)).trans f223
        clear f225 f230
        have f231 := hv
        clear hk hv hz hf
        refine p_val (v := .bool true) rfl rfl (by simp only [execOp, ev_con, ev_of f223, ev_of f231]; simp [go_sem]) (by rw [fz]; decide) ?_
        intro d17 hk hv hz hf
        replace fz := hz.trans fz
        replace fd := hf.trans fd
        replace f5 := (hk 5 (by decide)).trans f5
        replace f7 := (hk 7 (by decide)).trans f7
        replace f8 := (hk 8 (by decide)).trans f8
        replace f13 := (hk 13 (by decide)).trans f13
        clear f223 f231
        have f232 := hv
        clear hk hv hz hf
        refine p_val (v := .bool true) rfl rfl (by simp only [execOp, ev_con, ev_of f232]; simp [go_sem]) (by rw [fz]; decide) ?_
        intro d18 hk hv hz hf
        replace fz := hz.trans fz
        replace fd := hf.trans fd
        replace f5 := (hk 5 (by decide)).trans f5
        replace f7 := (hk 7 (by decide)).trans f7
        replace f8 := (hk 8 (by decide)).trans f8
        replace f13 := (hk 13 (by decide)).trans f13
        clear f232
        have f233 := hv
        clear hk hv hz hf
        refine p_val (v := .pointer (some ⟨zv, 1, none⟩)) ((wt_of rfl (by kernel_rfl) _ f233).trans rfl) rfl (x_fld (r := 1) rfl f5 (fun w => by kernel_rfl)) (by rw [fz]; decide) ?_
        intro d19 hk hv hz hf
        replace fz := hz.trans fz
        replace fd := hf.trans fd
        replace f5 := (hk 5 (by decide)).trans f5
        replace f7 := (hk 7 (by decide)).trans f7
        replace f8 := (hk 8 (by decide)).trans f8
        replace f13 := (hk 13 (by decide)).trans f13
        replace f233 := (hk 233 (by decide)).trans f233
        have f234 := hv
        clear hk hv hz hf
        refine p_val (v := .int .i64 m) ((wt_of rfl (by kernel_rfl) _ f233).trans rfl) rfl (p_get (v := .int .i64 m) rfl f234 hM.at3 rfl) (by rw [fz]; decide) ?_
        intro d20 hk hv hz hf
        replace fz := hz.trans fz
        replace fd := hf.trans fd
        replace f5 := (hk 5 (by decide)).trans f5
        replace f7 := (hk 7 (by decide)).trans f7
        replace f8 := (hk 8 (by decide)).trans f8
        replace f13 := (hk 13 (by decide)).trans f13
        replace f233 := (hk 233 (by decide)).trans f233
        clear f234
        have f235 := hv
        clear hk hv hz hf
        refine p_val (v := .pointer (some ⟨zv, 2, none⟩)) ((wt_of rfl (by kernel_rfl) _ f233).trans rfl) rfl (x_fld (r := 2) rfl f5 (fun w => by kernel_rfl)) (by rw [fz]; decide) ?_
        intro d21 hk hv hz hf
        replace fz := hz.trans fz
        replace fd := hf.trans fd
        replace f5 := (hk 5 (by decide)).trans f5
        replace f7 := (hk 7 (by decide)).trans f7
        replace f8 := (hk 8 (by decide)).trans f8
        replace f13 := (hk 13 (by decide)).trans f13
        replace f233 := (hk 233 (by decide)).trans f233
        replace f235 := (hk 235 (by decide)).trans f235
        have f236 := hv
        clear hk hv hz hf
        refine p_val (v := .int .i64 r) ((wt_of rfl (by kernel_rfl) _ f233).trans rfl) rfl (p_get (v := .int .i64 r) rfl f236 hM.at3 rfl) (by rw [fz]; decide) ?_
        intro d22 hk hv hz hf
        replace fz := hz.trans fz
        replace fd := hf.trans fd
        replace f5 := (hk 5 (by decide)).trans f5
        replace f7 := (hk 7 (by decide)).trans f7
        replace f8 := (hk 8 (by decide)).trans f8
        replace f13 := (hk 13 (by decide)).trans f13
        replace f233 := (hk 233 (by decide)).trans f233
        replace f235 := (hk 235 (by decide)).trans f235
        clear f236
        have f237 := hv
        clear hk hv hz hf
        refine p_val (v := .int .i64 hl) ((wt_of rfl (by kernel_rfl) _ f233).trans rfl) rfl (by simp only [execOp, ev_con, ev_of f235, ev_of f237]; simp [go_sem, g1]) (by rw [fz]; decide) ?_
        intro d23 hk hv hz hf
        replace fz := hz.trans fz
        replace fd := hf.trans fd
        replace f5 := (hk 5 (by decide)).trans f5
        replace f7 := (hk 7 (by decide)).trans f7
        replace f8 := (hk 8 (by decide)).trans f8
        replace f13 := (hk 13 (by decide)).trans f13
        replace f233 := (hk 233 (by decide)).trans f233
        clear f235 f237
        have f238 := hv
        clear hk hv hz hf
        refine p_val (v := .pointer (some ⟨yh, 1, none⟩)) ((wt_of rfl (by kernel_rfl) _ f233).trans rfl) rfl (x_fld (r := 1) rfl f7 (fun w => by kernel_rfl)) (by rw [fz]; decide) ?_
        intro d24 hk hv hz hf
        replace fz := hz.trans fz
        replace fd := hf.trans fd
        replace f5 := (hk 5 (by decide)).trans f5
        replace f8 := (hk 8 (by decide)).trans f8
        replace f13 := (hk 13 (by decide)).trans f13
        replace f233 := (hk 233 (by decide)).trans f233
        replace f238 := (hk 238 (by decide)).trans f238
        clear f7
        have f239 := hv
        clear hk hv hz hf
        refine p_val (v := .int .i64 hl) ((wt_of rfl (by kernel_rfl) _ f233).trans rfl) rfl (p_get (v := .int .i64 hl) rfl f239 hM.at2 rfl) (by rw [fz]; decide) ?_
        intro d25 hk hv hz hf
        replace fz := hz.trans fz
        replace fd := hf.trans fd
        replace f5 := (hk 5 (by decide)).trans f5
        replace f8 := (hk 8 (by decide)).trans f8
        replace f13 := (hk 13 (by decide)).trans f13
        replace f233 := (hk 233 (by decide)).trans f233
        replace f238 := (hk 238 (by decide)).trans f238
        clear f239
        have f240 := hv
        clear hk hv hz hf
        refine p_val (v := .bool true) ((wt_of rfl (by kernel_rfl) _ f233).trans rfl) rfl (by simp only [execOp, ev_con, ev_of f238, ev_of f240]; simp [go_sem]) (by rw [fz]; decide) ?_
        intro d26 hk hv hz hf
        replace fz := hz.trans fz
        replace fd := hf.trans fd
        replace f5 := (hk 5 (by decide)).trans f5
        replace f8 := (hk 8 (by decide)).trans f8
        replace f13 := (hk 13 (by decide)).trans f13
        replace f233 := (hk 233 (by decide)).trans f233
        clear f238 f240
        have f241 := hv
        clear hk hv hz hf
        refine p_val (v := .bool true) rfl rfl (by simp only [execOp, ev_con, ev_of f233, ev_of f241]; simp [go_sem]) (by rw [fz]; decide) ?_
        intro d27 hk hv hz hf
        replace fz := hz.trans fz
        replace fd := hf.trans fd
        replace f5 := (hk 5 (by decide)).trans f5
        replace f8 := (hk 8 (by decide)).trans f8
        replace f13 := (hk 13 (by decide)).trans f13
        clear f233 f241
        have f242 := hv
        clear hk hv hz hf
        refine p_val (v := .bool true) rfl rfl (by simp only [execOp, ev_con, ev_of f242]; simp [go_sem]) (by rw [fz]; decide) ?_
        intro d28 hk hv hz hf
        replace fz := hz.trans fz
        replace fd := hf.trans fd
        replace f5 := (hk 5 (by decide)).trans f5
        replace f8 := (hk 8 (by decide)).trans f8
        replace f13 := (hk 13 (by decide)).trans f13
        clear f242
        have f243 := hv
        clear hk hv hz hf
        refine p_val (v := .pointer (some ⟨zv, 3, none⟩)) ((wt_of rfl (by kernel_rfl) _ f243).trans rfl) rfl (x_fld (r := 3) rfl f5 (fun w => by kernel_rfl)) (by rw [fz]; decide) ?_
        intro d29 hk hv hz hf
        replace fz := hz.trans fz
        replace fd := hf.trans fd
        replace f5 := (hk 5 (by decide)).trans f5
        replace f8 := (hk 8 (by decide)).trans f8
        replace f13 := (hk 13 (by decide)).trans f13
        replace f243 := (hk 243 (by decide)).trans f243
        have f244 := hv
        clear hk hv hz hf
        refine p_val (v := .int .i64 0) ((wt_of rfl (by kernel_rfl) _ f243).trans rfl) rfl (p_get (v := .int .i64 0) rfl f244 hM.at3 rfl) (by rw [fz]; decide) ?_
        intro d30 hk hv hz hf
        replace fz := hz.trans fz
        replace fd := hf.trans fd
        replace f5 := (hk 5 (by decide)).trans f5
        replace f8 := (hk 8 (by decide)).trans f8
        replace f13 := (hk 13 (by decide)).trans f13
        replace f243 := (hk 243 (by decide)).trans f243
        clear f244
        have f245 := hv
        clear hk hv hz hf
        refine p_val (v := .bool true) ((wt_of rfl (by kernel_rfl) _ f243).trans rfl) rfl (by simp only [execOp, ev_con, ev_of f245]; simp [go_sem]) (by rw [fz]; decide) ?_
        intro d31 hk hv hz hf
        replace fz := hz.trans fz
        replace fd := hf.trans fd
        replace f5 := (hk 5 (by decide)).trans f5
        replace f8 := (hk 8 (by decide)).trans f8
        replace f13 := (hk 13 (by decide)).trans f13
        replace f243 := (hk 243 (by decide)).trans f243
        clear f245
        have f246 := hv
        clear hk hv hz hf
        refine p_val (v := .bool true) ((wt_of rfl (by kernel_rfl) _ f243).trans rfl) rfl (by simp only [execOp, ev_con, ev_of f13]; simp [go_sem]) (by rw [fz]; decide) ?_
        intro d32 hk hv hz hf
        replace fz := hz.trans fz
        replace fd := hf.trans fd
        replace f5 := (hk 5 (by decide)).trans f5
        replace f8 := (hk 8 (by decide)).trans f8
        replace f13 := (hk 13 (by decide)).trans f13
        replace f243 := (hk 243 (by decide)).trans f243
        replace f246 := (hk 246 (by decide)).trans f246
        have f247 := hv
        clear hk hv hz hf
        refine p_val (v := .bool true) ((wt_of rfl (by kernel_rfl) _ f243).trans rfl) rfl (by simp only [execOp, ev_con, ev_of f246, ev_of f247]; simp [go_sem]) (by rw [fz]; decide) ?_
        intro d33 hk hv hz hf
        replace fz := hz.trans fz
        replace fd := hf.trans fd
        replace f5 := (hk 5 (by decide)).trans f5
        replace f8 := (hk 8 (by decide)).trans f8
        replace f13 := (hk 13 (by decide)).trans f13
        replace f243 := (hk 243 (by decide)).trans f243
        clear f246 f247
        have f248 := hv
        clear hk hv hz hf
        refine p_val (v := .bool true) rfl rfl (by simp only [execOp, ev_con, ev_of f243, ev_of f248]; simp [go_sem]) (by rw [fz]; decide) ?_
        intro d34 hk hv hz hf
        replace fz := hz.trans fz
        replace fd := hf.trans fd
        replace f5 := (hk 5 (by decide)).trans f5
        replace f8 := (hk 8 (by decide)).trans f8
        replace f13 := (hk 13 (by decide)).trans f13
        clear f243 f248
        have f249 := hv
        clear hk hv hz hf
        refine p_val (v := .bool true) rfl rfl (by simp only [execOp, ev_con, ev_of f249]; simp [go_sem]) (by rw [fz]; decide) ?_
        intro d35 hk hv hz hf
        replace fz := hz.trans fz
        replace fd := hf.trans fd
        replace f5 := (hk 5 (by decide)).trans f5
        replace f8 := (hk 8 (by decide)).trans f8
        replace f13 := (hk 13 (by decide)).trans f13
        clear f249
        have f250 := hv
        clear hk hv hz hf
        refine p_val (v := .pointer (some ⟨zv, 3, none⟩)) ((wt_of rfl (by kernel_rfl) _ f250).trans rfl) rfl (x_fld (r := 3) rfl f5 (fun w => by kernel_rfl)) (by rw [fz]; decide) ?_
        intro d36 hk hv hz hf
        replace fz := hz.trans fz
        replace fd := hf.trans fd
        replace f5 := (hk 5 (by decide)).trans f5
        replace f8 := (hk 8 (by decide)).trans f8
        replace f13 := (hk 13 (by decide)).trans f13
        replace f250 := (hk 250 (by decide)).trans f250
        have f251 := hv
        clear hk hv hz hf
        refine p_val (v := .int .i64 0) ((wt_of rfl (by kernel_rfl) _ f250).trans rfl) rfl (p_get (v := .int .i64 0) rfl f251 hM.at3 rfl) (by rw [fz]; decide) ?_
        intro d37 hk hv hz hf
        replace fz := hz.trans fz
        replace fd := hf.trans fd
        replace f5 := (hk 5 (by decide)).trans f5
        replace f8 := (hk 8 (by decide)).trans f8
        replace f13 := (hk 13 (by decide)).trans f13
        replace f250 := (hk 250 (by decide)).trans f250
        clear f251
        have f252 := hv
        clear hk hv hz hf
        refine p_val (v := .bool true) ((wt_of rfl (by kernel_rfl) _ f250).trans rfl) rfl (by simp only [execOp, ev_con, ev_of f252]; simp [go_sem]) (by rw [fz]; decide) ?_
        intro d38 hk hv hz hf
        replace fz := hz.trans fz
        replace fd := hf.trans fd
        replace f5 := (hk 5 (by decide)).trans f5
        replace f8 := (hk 8 (by decide)).trans f8
        replace f13 := (hk 13 (by decide)).trans f13
        replace f250 := (hk 250 (by decide)).trans f250
        clear f252
        have f253 := hv
        clear hk hv hz hf
        refine p_val (v := .bool true) ((wt_of rfl (by kernel_rfl) _ f250).trans rfl) rfl (by simp only [execOp, ev_con, ev_of f253]; simp [go_sem]) (by rw [fz]; decide) ?_
        intro d39 hk hv hz hf
        replace fz := hz.trans fz
        replace fd := hf.trans fd
        replace f5 := (hk 5 (by decide)).trans f5
        replace f8 := (hk 8 (by decide)).trans f8
        replace f13 := (hk 13 (by decide)).trans f13
        replace f250 := (hk 250 (by decide)).trans f250
        clear f253
        have f254 := hv
        clear hk hv hz hf
        refine p_not ((wt_of rfl (by kernel_rfl) _ f254).trans rfl) rfl (by rw [fz]; decide) ?_
        intro d40 hk hv hz hf
        replace fz := hz.trans fz
        replace fd := hf.trans fd
        replace f5 := (hk 5 (by decide)).trans f5
        replace f8 := (hk 8 (by decide)).trans f8
        replace f13 := (hk 13 (by decide)).trans f13
        replace f250 := (hk 250 (by decide)).trans f250
        replace f254 := (hk 254 (by decide)).trans f254
        have f255 := hv
        clear hk hv hz hf
        refine p_not ((wt_of rfl (by kernel_rfl) _ f254).trans rfl) rfl (by rw [fz]; decide) ?_
        intro d41 hk hv hz hf
        replace fz := hz.trans fz
        replace fd := hf.trans fd
        replace f5 := (hk 5 (by decide)).trans f5
        replace f8 := (hk 8 (by decide)).trans f8
        replace f13 := (hk 13 (by decide)).trans f13
        replace f250 := (hk 250 (by decide)).trans f250
        replace f254 := (hk 254 (by decide)).trans f254
        clear f255
        have f256 := hv
        clear hk hv hz hf
        refine p_not ((wt_of rfl (by kernel_rfl) _ f254).trans rfl) rfl (by rw [fz]; decide) ?_
        intro d42 hk hv hz hf
        replace fz := hz.trans fz
        replace fd := hf.trans fd
        replace f5 := (hk 5 (by decide)).trans f5
        replace f8 := (hk 8 (by decide)).trans f8
        replace f13 := (hk 13 (by decide)).trans f13
        replace f250 := (hk 250 (by decide)).trans f250
        replace f254 := (hk 254 (by decide)).trans f254
        clear f256
        have f257 := hv
        clear hk hv hz hf
        refine p_val (v := .bool true) ((wt_of rfl (by kernel_rfl) _ f250).trans rfl) rfl (by simp only [execOp, ev_con, ev_of f254, ev_of f257]; simp [go_sem]) (by rw [fz]; decide) ?_
        intro d43 hk hv hz hf
        replace fz := hz.trans fz
        replace fd := hf.trans fd
        replace f5 := (hk 5 (by decide)).trans f5
        replace f8 := (hk 8 (by decide)).trans f8
        replace f13 := (hk 13 (by decide)).trans f13
        replace f250 := (hk 250 (by decide)).trans f250
        clear f254 f257
        have f258 := hv
        clear hk hv hz hf
        refine p_val (v := .bool true) rfl rfl (by simp only [execOp, ev_con, ev_of f250, ev_of f258]; simp [go_sem]) (by rw [fz]; decide) ?_
        intro d44 hk hv hz hf
        replace fz := hz.trans fz
        replace fd := hf.trans fd
        replace f5 := (hk 5 (by decide)).trans f5
        replace f8 := (hk 8 (by decide)).trans f8
        replace f13 := (hk 13 (by decide)).trans f13
        clear f250 f258
        have f259 := hv
        clear hk hv hz hf
        refine p_val (v := .bool true) rfl rfl (by simp only [execOp, ev_con, ev_of f259]; simp [go_sem]) (by rw [fz]; decide) ?_
        intro d45 hk hv hz hf
        replace fz := hz.trans fz
        replace fd := hf.trans fd
        replace f5 := (hk 5 (by decide)).trans f5
        replace f8 := (hk 8 (by decide)).trans f8
        replace f13 := (hk 13 (by decide)).trans f13
        clear f259
        have f260 := hv
        clear hk hv hz hf
        refine p_val (v := .bool true) ((wt_of rfl (by kernel_rfl) _ f260).trans rfl) rfl (by simp only [execOp, ev_con, ev_of f13]; simp [go_sem]) (by rw [fz]; decide) ?_
        intro d46 hk hv hz hf
        replace fz := hz.trans fz
        replace fd := hf.trans fd
        replace f5 := (hk 5 (by decide)).trans f5
        replace f8 := (hk 8 (by decide)).trans f8
        replace f260 := (hk 260 (by decide)).trans f260
        clear f13
        have f261 := hv
        clear hk hv hz hf
        refine p_val (v := .bool false) ((wt_of rfl (by kernel_rfl) _ f260).trans rfl) rfl (by simp only [execOp, ev_con, ev_of f261]; simp [go_sem]) (by rw [fz]; decide) ?_
        intro d47 hk hv hz hf
        replace fz := hz.trans fz
        replace fd := hf.trans fd
        replace f5 := (hk 5 (by decide)).trans f5
        replace f8 := (hk 8 (by decide)).trans f8
        replace f260 := (hk 260 (by decide)).trans f260
        clear f261
        have f262 := hv
        clear hk hv hz hf
        refine p_val (v := .bool false) ((wt_of rfl (by kernel_rfl) _ f260).trans rfl) rfl (by simp only [execOp, ev_con, ev_of f262]; simp [go_sem]) (by rw [fz]; decide) ?_
        intro d48 hk hv hz hf
        replace fz := hz.trans fz
        replace fd := hf.trans fd
        replace f5 := (hk 5 (by decide)).trans f5
        replace f8 := (hk 8 (by decide)).trans f8
        replace f260 := (hk 260 (by decide)).trans f260
        clear f262
        have f263 := hv
        clear hk hv hz hf
        refine p_val (v := .pointer (some ⟨zv, 1, none⟩)) ((wt_of rfl (by kernel_rfl) _ f263).trans rfl) rfl (x_fld (r := 1) rfl f5 (fun w => by kernel_rfl)) (by rw [fz]; decide) ?_
        intro d49 hk hv hz hf
        replace fz := hz.trans fz
        replace fd := hf.trans fd
        replace f8 := (hk 8 (by decide)).trans f8
        replace f260 := (hk 260 (by decide)).trans f260
        replace f263 := (hk 263 (by decide)).trans f263
        clear f5
        have f264 := hv
        clear hk hv hz hf
        refine p_val (v := .int .i64 m) ((wt_of rfl (by kernel_rfl) _ f263).trans rfl) rfl (p_get (v := .int .i64 m) rfl f264 hM.at3 rfl) (by rw [fz]; decide) ?_
        intro d50 hk hv hz hf
        replace fz := hz.trans fz
        replace fd := hf.trans fd
        replace f8 := (hk 8 (by decide)).trans f8
        replace f260 := (hk 260 (by decide)).trans f260
        replace f263 := (hk 263 (by decide)).trans f263
        clear f264
        have f265 := hv
        clear hk hv hz hf
        refine p_val (v := .pointer (some ⟨yd, 1, none⟩)) ((wt_of rfl (by kernel_rfl) _ f263).trans rfl) rfl (x_fld (r := 1) rfl f8 (fun w => by kernel_rfl)) (by rw [fz]; decide) ?_
        intro d51 hk hv hz hf
        replace fz := hz.trans fz
        replace fd := hf.trans fd
        replace f260 := (hk 260 (by decide)).trans f260
        replace f263 := (hk 263 (by decide)).trans f263
        replace f265 := (hk 265 (by decide)).trans f265
        clear f8
        have f266 := hv
        clear hk hv hz hf
        refine p_val (v := .int .i64 dl) ((wt_of rfl (by kernel_rfl) _ f263).trans rfl) rfl (p_get (v := .int .i64 dl) rfl f266 hM.at1 rfl) (by rw [fz]; decide) ?_
        intro d52 hk hv hz hf
        replace fz := hz.trans fz
        replace fd := hf.trans fd
        replace f260 := (hk 260 (by decide)).trans f260
        replace f263 := (hk 263 (by decide)).trans f263
        replace f265 := (hk 265 (by decide)).trans f265
        clear f266
        have f267 := hv
        clear hk hv hz hf
        refine p_val (v := .bool true) ((wt_of rfl (by kernel_rfl) _ f263).trans rfl) rfl (by simp only [execOp, ev_con, ev_of f265, ev_of f267]; simp [go_sem, p5]) (by rw [fz]; decide) ?_
        intro d53 hk hv hz hf
        replace fz := hz.trans fz
        replace fd := hf.trans fd
        replace f260 := (hk 260 (by decide)).trans f260
        replace f263 := (hk 263 (by decide)).trans f263
        clear f265 f267
        have f268 := hv
        clear hk hv hz hf
        refine p_val (v := .bool true) ((wt_of rfl (by kernel_rfl) _ f260).trans rfl) rfl (by simp only [execOp, ev_con, ev_of f263, ev_of f268]; simp [go_sem]) (by rw [fz]; decide) ?_
        intro d54 hk hv hz hf
        replace fz := hz.trans fz
        replace fd := hf.trans fd
        replace f260 := (hk 260 (by decide)).trans f260
        clear f263 f268
        have f269 := hv
        clear hk hv hz hf
        refine p_val (v := .bool true) rfl rfl (by simp only [execOp, ev_con, ev_of f260, ev_of f269]; simp [go_sem]) (by rw [fz]; decide) ?_
        intro d55 hk hv hz hf
        replace fz := hz.trans fz
        replace fd := hf.trans fd
        clear f260 f269
        have f270 := hv
        clear hk hv hz hf
        refine p_val (v := .bool true) rfl rfl (by simp only [execOp, ev_con, ev_of f270]; simp [go_sem]) (by rw [fz]; decide) ?_
        intro d56 hk hv hz hf
        replace fz := hz.trans fz
        replace fd := hf.trans fd
        clear f270
        have f4 := hv
        clear hk hv hz hf
        go_step
        go_step
        go_step
        go_step
        exact bodyPost_ret (ret_t rfl f4) fd ⟨rfl, hM.below⟩
      · subst p4
        go_upto_region 15 with (fail)
        refine reg.wp_abs (fun a0 => a0.tmps.size = 271 ∧ a0.defers = [] ∧ a0.tmps[5]? = some (.pointer (some ⟨zv, 0, none⟩)) ∧ a0.tmps[7]? = some (.pointer (some ⟨yh, 0, none⟩)) ∧ a0.tmps[8]? = some (.pointer (some ⟨yd, 0, none⟩)) ∧ a0.tmps[10]? = some (.int .i64 1)) ⟨rfl, rfl, rfl, rfl, rfl, rfl⟩ ?_
        rintro a0 ⟨fz, fd, f5, f7, f8, f10⟩ ha0
        clear ha0
        go_step
        try simp only [List.append_eq, List.cons_append, List.nil_append]
        refine p_val (v := .pointer (some ⟨yd, 0, none⟩)) rfl rfl (x_fld (r := 0) rfl f8 (fun w => by kernel_rfl)) (by rw [fz]; decide) ?_
        intro b1 hk hv hz hf
        replace fz := hz.trans fz
        replace fd := hf.trans fd
        replace f5 := (hk 5 (by decide)).trans f5
        replace f7 := (hk 7 (by decide)).trans f7
        replace f8 := (hk 8 (by decide)).trans f8
        replace f10 := (hk 10 (by decide)).trans f10
        have f199 := hv
        clear hk hv hz hf
        refine p_val (v := .int .i64 dh) rfl rfl (p_get (v := .int .i64 dh) rfl f199 hM.at1 rfl) (by rw [fz]; decide) ?_
        intro b2 hk hv hz hf
        replace fz := hz.trans fz
        replace fd := hf.trans fd
        replace f5 := (hk 5 (by decide)).trans f5
        replace f7 := (hk 7 (by decide)).trans f7
        replace f8 := (hk 8 (by decide)).trans f8
        replace f10 := (hk 10 (by decide)).trans f10
        clear f199
        have f200 := hv
        clear hk hv hz hf
        refine p_val (v := .bool false) rfl rfl (by simp only [execOp, ev_con, ev_of f200]; simp [go_sem, p1]) (by rw [fz]; decide) ?_
        intro b3 hk hv hz hf
        replace fz := hz.trans fz
        replace fd := hf.trans fd
        replace f5 := (hk 5 (by decide)).trans f5
        replace f7 := (hk 7 (by decide)).trans f7
        replace f8 := (hk 8 (by decide)).trans f8
        replace f10 := (hk 10 (by decide)).trans f10
        clear f200
        have f201 := hv
        clear hk hv hz hf
        refine p_val (v := .bool false) rfl rfl (by simp only [execOp, ev_con, ev_of f201]; simp [go_sem]) (by rw [fz]; decide) ?_
        intro b4 hk hv hz hf
        replace fz := hz.trans fz
        replace fd := hf.trans fd
        replace f5 := (hk 5 (by decide)).trans f5
        replace f7 := (hk 7 (by decide)).trans f7
        replace f8 := (hk 8 (by decide)).trans f8
        replace f10 := (hk 10 (by decide)).trans f10
        clear f201
        have f202 := hv
        clear hk hv hz hf
        refine p_val (v := .pointer (some ⟨yd, 0, none⟩)) ((wt_of rfl (by kernel_rfl) _ f202).trans rfl) rfl (x_fld (r := 0) rfl f8 (fun w => by kernel_rfl)) (by rw [fz]; decide) ?_
        intro b5 hk hv hz hf
        replace fz := hz.trans fz
        replace fd := hf.trans fd
        replace f5 := (hk 5 (by decide)).trans f5
        replace f7 := (hk 7 (by decide)).trans f7
        replace f8 := (hk 8 (by decide)).trans f8
        replace f10 := (hk 10 (by decide)).trans f10
        replace f202 := (hk 202 (by decide)).trans f202
        have f203 := hv
        clear hk hv hz hf
        refine p_val (v := .int .i64 dh) ((wt_of rfl (by kernel_rfl) _ f202).trans rfl) rfl (p_get (v := .int .i64 dh) rfl f203 hM.at1 rfl) (by rw [fz]; decide) ?_
        intro b6 hk hv hz hf
        replace fz := hz.trans fz
        replace fd := hf.trans fd
        replace f5 := (hk 5 (by decide)).trans f5
        replace f7 := (hk 7 (by decide)).trans f7
        replace f8 := (hk 8 (by decide)).trans f8
        replace f10 := (hk 10 (by decide)).trans f10
        replace f202 := (hk 202 (by decide)).trans f202
        clear f203
        have f204 := hv
        clear hk hv hz hf
        refine p_val (v := .pointer (some ⟨yh, 0, none⟩)) ((wt_of rfl (by kernel_rfl) _ f202).trans rfl) rfl (x_fld (r := 0) rfl f7 (fun w => by kernel_rfl)) (by rw [fz]; decide) ?_
        intro b7 hk hv hz hf
        replace fz := hz.trans fz
        replace fd := hf.trans fd
        replace f5 := (hk 5 (by decide)).trans f5
        replace f7 := (hk 7 (by decide)).trans f7
        replace f8 := (hk 8 (by decide)).trans f8
        replace f10 := (hk 10 (by decide)).trans f10
        replace f202 := (hk 202 (by decide)).trans f202
        replace f204 := (hk 204 (by decide)).trans f204
        have f205 := hv
        clear hk hv hz hf
        refine p_val (v := .int .i64 hh) ((wt_of rfl (by kernel_rfl) _ f202).trans rfl) rfl (p_get (v := .int .i64 hh) rfl f205 hM.at2 rfl) (by rw [fz]; decide) ?_
        intro b8 hk hv hz hf
        replace fz := hz.trans fz
        replace fd := hf.trans fd
        replace f5 := (hk 5 (by decide)).trans f5
        replace f7 := (hk 7 (by decide)).trans f7
        replace f8 := (hk 8 (by decide)).trans f8
        replace f10 := (hk 10 (by decide)).trans f10
        replace f202 := (hk 202 (by decide)).trans f202
        replace f204 := (hk 204 (by decide)).trans f204
        clear f205
        have f206 := hv
        clear hk hv hz hf
        refine p_val (v := .bool true) ((wt_of rfl (by kernel_rfl) _ f202).trans rfl) rfl (by simp only [execOp, ev_con, ev_of f204, ev_of f206]; simp [go_sem, p2]) (by rw [fz]; decide) ?_
        intro b9 hk hv hz hf
        replace fz := hz.trans fz
        replace fd := hf.trans fd
        replace f5 := (hk 5 (by decide)).trans f5
        replace f7 := (hk 7 (by decide)).trans f7
        replace f8 := (hk 8 (by decide)).trans f8
        replace f10 := (hk 10 (by decide)).trans f10
        replace f202 := (hk 202 (by decide)).trans f202
        clear f204 f206
        have f207 := hv
        clear hk hv hz hf
        refine p_val (v := .bool true) ((wt_of rfl (by kernel_rfl) _ f202).trans rfl) rfl (by simp only [execOp, ev_con, ev_of f207]; simp [go_sem]) (by rw [fz]; decide) ?_
        intro b10 hk hv hz hf
        replace fz := hz.trans fz
        replace fd := hf.trans fd
        replace f5 := (hk 5 (by decide)).trans f5
        replace f7 := (hk 7 (by decide)).trans f7
        replace f8 := (hk 8 (by decide)).trans f8
        replace f10 := (hk 10 (by decide)).trans f10
        replace f202 := (hk 202 (by decide)).trans f202
        clear f207
        have f208 := hv
        clear hk hv hz hf
        refine p_val (v := .pointer (some ⟨yd, 1, none⟩)) ((wt_of rfl (by kernel_rfl) _ f208).trans rfl) rfl (x_fld (r := 1) rfl f8 (fun w => by kernel_rfl)) (by rw [fz]; decide) ?_
        intro b11 hk hv hz hf
        replace fz := hz.trans fz
        replace fd := hf.trans fd
        replace f5 := (hk 5 (by decide)).trans f5
        replace f7 := (hk 7 (by decide)).trans f7
        replace f8 := (hk 8 (by decide)).trans f8
        replace f10 := (hk 10 (by decide)).trans f10
        replace f202 := (hk 202 (by decide)).trans f202
        replace f208 := (hk 208 (by decide)).trans f208
        have f209 := hv
        clear hk hv hz hf
        refine p_val (v := .int .i64 dl) ((wt_of rfl (by kernel_rfl) _ f208).trans rfl) rfl (p_get (v := .int .i64 dl) rfl f209 hM.at1 rfl) (by rw [fz]; decide) ?_
        intro b12 hk hv hz hf
        replace fz := hz.trans fz
        replace fd := hf.trans fd
        replace f5 := (hk 5 (by decide)).trans f5
        replace f7 := (hk 7 (by decide)).trans f7
        replace f8 := (hk 8 (by decide)).trans f8
        replace f10 := (hk 10 (by decide)).trans f10
        replace f202 := (hk 202 (by decide)).trans f202
        replace f208 := (hk 208 (by decide)).trans f208
        clear f209
        have f210 := hv
        clear hk hv hz hf
        refine p_val (v := .pointer (some ⟨yh, 1, none⟩)) ((wt_of rfl (by kernel_rfl) _ f208).trans rfl) rfl (x_fld (r := 1) rfl f7 (fun w => by kernel_rfl)) (by rw [fz]; decide) ?_
        intro b13 hk hv hz hf
        replace fz := hz.trans fz
        replace fd := hf.trans fd
        replace f5 := (hk 5 (by decide)).trans f5
        replace f7 := (hk 7 (by decide)).trans f7
        replace f8 := (hk 8 (by decide)).trans f8
        replace f10 := (hk 10 (by decide)).trans f10
        replace f202 := (hk 202 (by decide)).trans f202
        replace f208 := (hk 208 (by decide)).trans f208
        replace f210 := (hk 210 (by decide)).trans f210
        have f211 := hv
        clear hk hv hz hf
        refine p_val (v := .int .i64 hl) ((wt_of rfl (by kernel_rfl) _ f208).trans rfl) rfl (p_get (v := .int .i64 hl) rfl f211 hM.at2 rfl) (by rw [fz]; decide) ?_
        intro b14 hk hv hz hf
        replace fz := hz.trans fz
        replace fd := hf.trans fd
        replace f5 := (hk 5 (by decide)).trans f5
        replace f7 := (hk 7 (by decide)).trans f7
        replace f8 := (hk 8 (by decide)).trans f8
        replace f10 := (hk 10 (by decide)).trans f10
        replace f202 := (hk 202 (by decide)).trans f202
        replace f208 := (hk 208 (by decide)).trans f208
        replace f210 := (hk 210 (by decide)).trans f210
        clear f211
        have f212 := hv
        clear hk hv hz hf
        refine p_val (v := .bool false) ((wt_of rfl (by kernel_rfl) _ f208).trans rfl) rfl (by simp only [execOp, ev_con, ev_of f210, ev_of f212]; simp [go_sem, p3]) (by rw [fz]; decide) ?_
        intro b15 hk hv hz hf
        replace fz := hz.trans fz
        replace fd := hf.trans fd
        replace f5 := (hk 5 (by decide)).trans f5
        replace f7 := (hk 7 (by decide)).trans f7
        replace f8 := (hk 8 (by decide)).trans f8
        replace f10 := (hk 10 (by decide)).trans f10
        replace f202 := (hk 202 (by decide)).trans f202
        replace f208 := (hk 208 (by decide)).trans f208
        clear f210 f212
        have f213 := hv
        clear hk hv hz hf
        refine p_val (v := .bool false) ((wt_of rfl (by kernel_rfl) _ f202).trans rfl) rfl (by simp only [execOp, ev_con, ev_of f208, ev_of f213]; simp [go_sem]) (by rw [fz]; decide) ?_
        intro b16 hk hv hz hf
        replace fz := hz.trans fz
        replace fd := hf.trans fd
        replace f5 := (hk 5 (by decide)).trans f5
        replace f7 := (hk 7 (by decide)).trans f7
        replace f8 := (hk 8 (by decide)).trans f8
        replace f10 := (hk 10 (by decide)).trans f10
        replace f202 := (hk 202 (by decide)).trans f202
        clear f208 f213
        have f214 := hv
        clear hk hv hz hf
        refine p_val (v := .bool false) rfl rfl (by simp only [execOp, ev_con, ev_of f202, ev_of f214]; simp [go_sem]) (by rw [fz]; decide) ?_
        intro b17 hk hv hz hf
        replace fz := hz.trans fz
        replace fd := hf.trans fd
        replace f5 := (hk 5 (by decide)).trans f5
        replace f7 := (hk 7 (by decide)).trans f7
        replace f8 := (hk 8 (by decide)).trans f8
        replace f10 := (hk 10 (by decide)).trans f10
        clear f202 f214
        have f215 := hv
        clear hk hv hz hf
        refine p_val (v := .bool false) rfl rfl (by simp only [execOp, ev_con, ev_of f215]; simp [go_sem]) (by rw [fz]; decide) ?_
        intro b18 hk hv hz hf
        replace fz := hz.trans fz
        replace fd := hf.trans fd
        replace f5 := (hk 5 (by decide)).trans f5
        replace f7 := (hk 7 (by decide)).trans f7
        replace f8 := (hk 8 (by decide)).trans f8
        replace f10 := (hk 10 (by decide)).trans f10
        clear f215
        have f13 := hv
        clear hk hv hz hf
        go_upto_region 16 with (fail)
        go_step
        try simp only [List.append_eq, List.cons_append, List.nil_append]
        refine p_val (v := .int .i64 1) rfl rfl (by simp only [execOp, ev_con, ev_of f10]; simp [go_sem]) (by rw [fz]; decide) ?_
        intro d1 hk hv hz hf
        replace fz := hz.trans fz
        replace fd := hf.trans fd
        replace f5 := (hk 5 (by decide)).trans f5
        replace f7 := (hk 7 (by decide)).trans f7
        replace f8 := (hk 8 (by decide)).trans f8
        replace f13 := (hk 13 (by decide)).trans f13
        clear f10
        have f216 := hv
        clear hk hv hz hf
        refine p_val (v := .bool true) rfl rfl (by simp only [execOp, ev_con, ev_of f216]; simp [go_sem]) (by rw [fz]; decide) ?_
        intro d2 hk hv hz hf
        replace fz := hz.trans fz
        replace fd := hf.trans fd
        replace f5 := (hk 5 (by decide)).trans f5
        replace f7 := (hk 7 (by decide)).trans f7
        replace f8 := (hk 8 (by decide)).trans f8
        replace f13 := (hk 13 (by decide)).trans f13
        clear f216
        have f217 := hv
        clear hk hv hz hf
        refine p_val (v := .bool true) rfl rfl (by simp only [execOp, ev_con, ev_of f217]; simp [go_sem]) (by rw [fz]; decide) ?_
        intro d3 hk hv hz hf
        replace fz := hz.trans fz
        replace fd := hf.trans fd
        replace f5 := (hk 5 (by decide)).trans f5
        replace f7 := (hk 7 (by decide)).trans f7
        replace f8 := (hk 8 (by decide)).trans f8
        replace f13 := (hk 13 (by decide)).trans f13
        clear f217
        have f218 := hv
        clear hk hv hz hf
        refine p_val (v := .pointer (some ⟨zv, 1, none⟩)) ((wt_of rfl (by kernel_rfl) _ f218).trans rfl) rfl (x_fld (r := 1) rfl f5 (fun w => by kernel_rfl)) (by rw [fz]; decide) ?_
        intro d4 hk hv hz hf
        replace fz := hz.trans fz
        replace fd := hf.trans fd
        replace f5 := (hk 5 (by decide)).trans f5
        replace f7 := (hk 7 (by decide)).trans f7
        replace f8 := (hk 8 (by decide)).trans f8
        replace f13 := (hk 13 (by decide)).trans f13
        replace f218 := (hk 218 (by decide)).trans f218
        have f219 := hv
        clear hk hv hz hf
        refine p_val (v := .int .i64 m) ((wt_of rfl (by kernel_rfl) _ f218).trans rfl) rfl (p_get (v := .int .i64 m) rfl f219 hM.at3 rfl) (by rw [fz]; decide) ?_
        intro d5 hk hv hz hf
        replace fz := hz.trans fz
        replace fd := hf.trans fd
        replace f5 := (hk 5 (by decide)).trans f5
        replace f7 := (hk 7 (by decide)).trans f7
        replace f8 := (hk 8 (by decide)).trans f8
        replace f13 := (hk 13 (by decide)).trans f13
        replace f218 := (hk 218 (by decide)).trans f218
        clear f219
        have f220 := hv
        clear hk hv hz hf
        refine p_val (v := .bool true) ((wt_of rfl (by kernel_rfl) _ f218).trans rfl) rfl (by simp only [execOp, ev_con, ev_of f220]; simp [go_sem, s2]) (by rw [fz]; decide) ?_
        intro d6 hk hv hz hf
        replace fz := hz.trans fz
        replace fd := hf.trans fd
        replace f5 := (hk 5 (by decide)).trans f5
        replace f7 := (hk 7 (by decide)).trans f7
        replace f8 := (hk 8 (by decide)).trans f8
        replace f13 := (hk 13 (by decide)).trans f13
        replace f218 := (hk 218 (by decide)).trans f218
        clear f220
        have f221 := hv
        clear hk hv hz hf
        refine p_val (v := .bool true) rfl rfl (by simp only [execOp, ev_con, ev_of f218, ev_of f221]; simp [go_sem]) (by rw [fz]; decide) ?_
        intro d7 hk hv hz hf
        replace fz := hz.trans fz
        replace fd := hf.trans fd
        replace f5 := (hk 5 (by decide)).trans f5
        replace f7 := (hk 7 (by decide)).trans f7
        replace f8 := (hk 8 (by decide)).trans f8
        replace f13 := (hk 13 (by decide)).trans f13
        clear f218 f221
        have f222 := hv
        clear hk hv hz hf
        refine p_val (v := .bool true) rfl rfl (by simp only [execOp, ev_con, ev_of f222]; simp [go_sem]) (by rw [fz]; decide) ?_
        intro d8 hk hv hz hf
        replace fz := hz.trans fz
        replace fd := hf.trans fd
        replace f5 := (hk 5 (by decide)).trans f5
        replace f7 := (hk 7 (by decide)).trans f7
        replace f8 := (hk 8 (by decide)).trans f8
        replace f13 := (hk 13 (by decide)).trans f13
        clear f222
        have f223 := hv
        clear hk hv hz hf
        refine p_val (v := .pointer (some ⟨zv, 1, none⟩)) ((wt_of rfl (by kernel_rfl) _ f223).trans rfl) rfl (x_fld (r := 1) rfl f5 (fun w => by kernel_rfl)) (by rw [fz]; decide) ?_
        intro d9 hk hv hz hf
        replace fz := hz.trans fz
        replace fd := hf.trans fd
        replace f5 := (hk 5 (by decide)).trans f5
        replace f7 := (hk 7 (by decide)).trans f7
        replace f8 := (hk 8 (by decide)).trans f8
        replace f13 := (hk 13 (by decide)).trans f13
        replace f223 := (hk 223 (by decide)).trans f223
        have f224 := hv
        clear hk hv hz hf
        refine p_val (v := .int .i64 m) ((wt_of rfl (by kernel_rfl) _ f223).trans rfl) rfl (p_get (v := .int .i64 m) rfl f224 hM.at3 rfl) (by rw [fz]; decide) ?_
        intro d10 hk hv hz hf
        replace fz := hz.trans fz
        replace fd := hf.trans fd
        replace f5 := (hk 5 (by decide)).trans f5
        replace f7 := (hk 7 (by decide)).trans f7
        replace f8 := (hk 8 (by decide)).trans f8
        replace f13 := (hk 13 (by decide)).trans f13
        replace f223 := (hk 223 (by decide)).trans f223
        clear f224
        have f225 := hv
        clear hk hv hz hf
        refine p_val (v := .pointer (some ⟨yh, 1, none⟩)) ((wt_of rfl (by kernel_rfl) _ f223).trans rfl) rfl (x_fld (r := 1) rfl f7 (fun w => by kernel_rfl)) (by rw [fz]; decide) ?_
        intro d11 hk hv hz hf
        replace fz := hz.trans fz
        replace fd := hf.trans fd
        replace f5 := (hk 5 (by decide)).trans f5
        replace f7 := (hk 7 (by decide)).trans f7
        replace f8 := (hk 8 (by decide)).trans f8
        replace f13 := (hk 13 (by decide)).trans f13
        replace f223 := (hk 223 (by decide)).trans f223
        replace f225 := (hk 225 (by decide)).trans f225
        have f226 := hv
        clear hk hv hz hf
        refine p_val (v := .int .i64 hl) ((wt_of rfl (by kernel_rfl) _ f223).trans rfl) rfl (p_get (v := .int .i64 hl) rfl f226 hM.at2 rfl) (by rw [fz]; decide) ?_
        intro d12 hk hv hz hf
        replace fz := hz.trans fz
        replace fd := hf.trans fd
        replace f5 := (hk 5 (by decide)).trans f5
        replace f7 := (hk 7 (by decide)).trans f7
        replace f8 := (hk 8 (by decide)).trans f8
        replace f13 := (hk 13 (by decide)).trans f13
        replace f223 := (hk 223 (by decide)).trans f223
        replace f225 := (hk 225 (by decide)).trans f225
        clear f226
        have f227 := hv
        clear hk hv hz hf
        refine p_val (v := .pointer (some ⟨yd, 1, none⟩)) ((wt_of rfl (by kernel_rfl) _ f223).trans rfl) rfl (x_fld (r := 1) rfl f8 (fun w => by kernel_rfl)) (by rw [fz]; decide) ?_
        intro d13 hk hv hz hf
        replace fz := hz.trans fz
        replace fd := hf.trans fd
        replace f5 := (hk 5 (by decide)).trans f5
        replace f7 := (hk 7 (by decide)).trans f7
        replace f8 := (hk 8 (by decide)).trans f8
        replace f13 := (hk 13 (by decide)).trans f13
        replace f223 := (hk 223 (by decide)).trans f223
        replace f225 := (hk 225 (by decide)).trans f225
        replace f227 := (hk 227 (by decide)).trans f227
        have f228 := hv
        clear hk hv hz hf
        refine p_val (v := .int .i64 dl) ((wt_of rfl (by kernel_rfl) _ f223).trans rfl) rfl (p_get (v := .int .i64 dl) rfl f228 hM.at1 rfl) (by rw [fz]; decide) ?_
        intro d14 hk hv hz hf
        replace fz := hz.trans fz
        replace fd := hf.trans fd
        replace f5 := (hk 5 (by decide)).trans f5
        replace f7 := (hk 7 (by decide)).trans f7
        replace f8 := (hk 8 (by decide)).trans f8
        replace f13 := (hk 13 (by decide)).trans f13
        replace f223 := (hk 223 (by decide)).trans f223
        replace f225 := (hk 225 (by decide)).trans f225
        replace f227 := (hk 227 (by decide)).trans f227
        clear f228
        have f229 := hv
        clear hk hv hz hf
        refine p_val (v := .int .i64 q) ((wt_of rfl (by kernel_rfl) _ f223).trans rfl) rfl (by simp only [execOp, ev_con, ev_of f227, ev_of f229]; simp [go_sem, f227, f229, s6]) (by rw [fz]; decide) ?_
        intro d15 hk hv hz hf
        replace fz := hz.trans fz
        replace fd := hf.trans fd
        replace f5 := (hk 5 (by decide)).trans f5
        replace f7 := (hk 7 (by decide)).trans f7
        replace f8 := (hk 8 (by decide)).trans f8
        replace f13 := (hk 13 (by decide)).trans f13
        replace f223 := (hk 223 (by decide)).trans f223
        replace f225 := (hk 225 (by decide)).trans f225
        clear f227 f229
        have f230 := hv
        clear hk hv hz hf
        refine p_val (v := .bool true) ((wt_of rfl (by kernel_rfl) _ f223).trans rfl) rfl (by simp only [execOp, ev_con, ev_of f225, ev_of f230]; simp [go_sem, s3]) (by rw [fz]; decide) ?_
        intro d16 hk hv hz hf
        replace fz := hz.trans fz
        replace fd := hf.trans fd
        replace f5 := (hk 5 (by decide)).trans f5
        replace f7 := (hk 7 (by decide)).trans f7
        replace f8 := (hk 8 (by decide)).trans f8
        replace f13 := (hk 13 (by decide)).trans f13
        replace f223 := (hk 223 (by decide)).trans f223
        clear f225 f230
        have f231 := hv
        clear hk hv hz hf
        refine p_val (v := .bool true) rfl rfl (by simp only [execOp, ev_con, ev_of f223, ev_of f231]; simp [go_sem]) (by rw [fz]; decide) ?_
        intro d17 hk hv hz hf
        replace fz := hz.trans fz
        replace fd := hf.trans fd
        replace f5 := (hk 5 (by decide)).trans f5
        replace f7 := (hk 7 (by decide)).trans f7
        replace f8 := (hk 8 (by decide)).trans f8
        replace f13 := (hk 13 (by decide)).trans f13
        clear f223 f231
        have f232 := hv
        clear hk hv hz hf
        refine p_val (v := .bool true) rfl rfl (by simp only [execOp, ev_con, ev_of f232]; simp [go_sem]) (by rw [fz]; decide) ?_
        intro d18 hk hv hz hf
        replace fz := hz.trans fz
        replace fd := hf.trans fd
        replace f5 := (hk 5 (by decide)).trans f5
        replace f7 := (hk 7 (by decide)).trans f7
        replace f8 := (hk 8 (by decide)).trans f8
        replace f13 := (hk 13 (by decide)).trans f13
        clear f232
        have f233 := hv
        clear hk hv hz hf
        refine p_val (v := .pointer (some ⟨zv, 1, none⟩)) ((wt_of rfl (by kernel_rfl) _ f233).trans rfl) rfl (x_fld (r := 1) rfl f5 (fun w => by kernel_rfl)) (by rw [fz]; decide) ?_
        intro d19 hk hv hz hf
        replace fz := hz.trans fz
        replace fd := hf.trans fd
        replace f5 := (hk 5 (by decide)).trans f5
        replace f7 := (hk 7 (by decide)).trans f7
        replace f8 := (hk 8 (by decide)).trans f8
        replace f13 := (hk 13 (by decide)).trans f13
        replace f233 := (hk 233 (by decide)).trans f233
        have f234 := hv
        clear hk hv hz hf
        refine p_val (v := .int .i64 m) ((wt_of rfl (by kernel_rfl) _ f233).trans rfl) rfl (p_get (v := .int .i64 m) rfl f234 hM.at3 rfl) (by rw [fz]; decide) ?_
        intro d20 hk hv hz hf
        replace fz := hz.trans fz
        replace fd := hf.trans fd
        replace f5 := (hk 5 (by decide)).trans f5
        replace f7 := (hk 7 (by decide)).trans f7
        replace f8 := (hk 8 (by decide)).trans f8
        replace f13 := (hk 13 (by decide)).trans f13
        replace f233 := (hk 233 (by decide)).trans f233
        clear f234
        have f235 := hv
        clear hk hv hz hf
        refine p_val (v := .pointer (some ⟨zv, 2, none⟩)) ((wt_of rfl (by kernel_rfl) _ f233).trans rfl) rfl (x_fld (r := 2) rfl f5 (fun w => by kernel_rfl)) (by rw [fz]; decide) ?_
        intro d21 hk hv hz hf
        replace fz := hz.trans fz
        replace fd := hf.trans fd
        replace f5 := (hk 5 (by decide)).trans f5
        replace f7 := (hk 7 (by decide)).trans f7
        replace f8 := (hk 8 (by decide)).trans f8
        replace f13 := (hk 13 (by decide)).trans f13
        replace f233 := (hk 233 (by decide)).trans f233
        replace f235 := (hk 235 (by decide)).trans f235
        have f236 := hv
        clear hk hv hz hf
        refine p_val (v := .int .i64 r) ((wt_of rfl (by kernel_rfl) _ f233).trans rfl) rfl (p_get (v := .int .i64 r) rfl f236 hM.at3 rfl) (by rw [fz]; decide) ?_
        intro d22 hk hv hz hf
        replace fz := hz.trans fz
        replace fd := hf.trans fd
        replace f5 := (hk 5 (by decide)).trans f5
        replace f7 := (hk 7 (by decide)).trans f7
        replace f8 := (hk 8 (by decide)).trans f8
        replace f13 := (hk 13 (by decide)).trans f13
        replace f233 := (hk 233 (by decide)).trans f233
        replace f235 := (hk 235 (by decide)).trans f235
        clear f236
        have f237 := hv
        clear hk hv hz hf
        refine p_val (v := .int .i64 hl) ((wt_of rfl (by kernel_rfl) _ f233).trans rfl) rfl (by simp only [execOp, ev_con, ev_of f235, ev_of f237]; simp [go_sem, g1]) (by rw [fz]; decide) ?_
        intro d23 hk hv hz hf
        replace fz := hz.trans fz
        replace fd := hf.trans fd
        replace f5 := (hk 5 (by decide)).trans f5
        replace f7 := (hk 7 (by decide)).trans f7
        replace f8 := (hk 8 (by decide)).trans f8
        replace f13 := (hk 13 (by decide)).trans f13
        replace f233 := (hk 233 (by decide)).trans f233
        clear f235 f237
        have f238 := hv
        clear hk hv hz hf
        refine p_val (v := .pointer (some ⟨yh, 1, none⟩)) ((wt_of rfl (by kernel_rfl) _ f233).trans rfl) rfl (x_fld (r := 1) rfl f7 (fun w => by kernel_rfl)) (by rw [fz]; decide) ?_
        intro d24 hk hv hz hf
        replace fz := hz.trans fz
        replace fd := hf.trans fd
        replace f5 := (hk 5 (by decide)).trans f5
        replace f8 := (hk 8 (by decide)).trans f8
        replace f13 := (hk 13 (by decide)).trans f13
        replace f233 := (hk 233 (by decide)).trans f233
        replace f238 := (hk 238 (by decide)).trans f238
        clear f7
        have f239 := hv
        clear hk hv hz hf
        refine p_val (v := .int .i64 hl) ((wt_of rfl (by kernel_rfl) _ f233).trans rfl) rfl (p_get (v := .int .i64 hl) rfl f239 hM.at2 rfl) (by rw [fz]; decide) ?_
        intro d25 hk hv hz hf
        replace fz := hz.trans fz
        replace fd := hf.trans fd
        replace f5 := (hk 5 (by decide)).trans f5
        replace f8 := (hk 8 (by decide)).trans f8
        replace f13 := (hk 13 (by decide)).trans f13
        replace f233 := (hk 233 (by decide)).trans f233
        replace f238 := (hk 238 (by decide)).trans f238
        clear f239
        have f240 := hv
        clear hk hv hz hf
        refine p_val (v := .bool true) ((wt_of rfl (by kernel_rfl) _ f233).trans rfl) rfl (by simp only [execOp, ev_con, ev_of f238, ev_of f240]; simp [go_sem]) (by rw [fz]; decide) ?_
        intro d26 hk hv hz hf
        replace fz := hz.trans fz
        replace fd := hf.trans fd
        replace f5 := (hk 5 (by decide)).trans f5
        replace f8 := (hk 8 (by decide)).trans f8
        replace f13 := (hk 13 (by decide)).trans f13
        replace f233 := (hk 233 (by decide)).trans f233
        clear f238 f240
        have f241 := hv
        clear hk hv hz hf
        refine p_val (v := .bool true) rfl rfl (by simp only [execOp, ev_con, ev_of f233, ev_of f241]; simp [go_sem]) (by rw [fz]; decide) ?_
        intro d27 hk hv hz hf
        replace fz := hz.trans fz
        replace fd := hf.trans fd
        replace f5 := (hk 5 (by decide)).trans f5
        replace f8 := (hk 8 (by decide)).trans f8
        replace f13 := (hk 13 (by decide)).trans f13
        clear f233 f241
        have f242 := hv
        clear hk hv hz hf
        refine p_val (v := .bool true) rfl rfl (by simp only [execOp, ev_con, ev_of f242]; simp [go_sem]) (by rw [fz]; decide) ?_
        intro d28 hk hv hz hf
        replace fz := hz.trans fz
        replace fd := hf.trans fd
        replace f5 := (hk 5 (by decide)).trans f5
        replace f8 := (hk 8 (by decide)).trans f8
        replace f13 := (hk 13 (by decide)).trans f13
        clear f242
        have f243 := hv
        clear hk hv hz hf
        refine p_val (v := .pointer (some ⟨zv, 3, none⟩)) ((wt_of rfl (by kernel_rfl) _ f243).trans rfl) rfl (x_fld (r := 3) rfl f5 (fun w => by kernel_rfl)) (by rw [fz]; decide) ?_
        intro d29 hk hv hz hf
        replace fz := hz.trans fz
        replace fd := hf.trans fd
        replace f5 := (hk 5 (by decide)).trans f5
        replace f8 := (hk 8 (by decide)).trans f8
        replace f13 := (hk 13 (by decide)).trans f13
        replace f243 := (hk 243 (by decide)).trans f243
        have f244 := hv
        clear hk hv hz hf
        refine p_val (v := .int .i64 2) ((wt_of rfl (by kernel_rfl) _ f243).trans rfl) rfl (p_get (v := .int .i64 2) rfl f244 hM.at3 rfl) (by rw [fz]; decide) ?_
        intro d30 hk hv hz hf
        replace fz := hz.trans fz
        replace fd := hf.trans fd
        replace f5 := (hk 5 (by decide)).trans f5
        replace f8 := (hk 8 (by decide)).trans f8
        replace f13 := (hk 13 (by decide)).trans f13
        replace f243 := (hk 243 (by decide)).trans f243
        clear f244
        have f245 := hv
        clear hk hv hz hf
        refine p_val (v := .bool false) ((wt_of rfl (by kernel_rfl) _ f243).trans rfl) rfl (by simp only [execOp, ev_con, ev_of f245]; simp [go_sem]) (by rw [fz]; decide) ?_
        intro d31 hk hv hz hf
        replace fz := hz.trans fz
        replace fd := hf.trans fd
        replace f5 := (hk 5 (by decide)).trans f5
        replace f8 := (hk 8 (by decide)).trans f8
        replace f13 := (hk 13 (by decide)).trans f13
        replace f243 := (hk 243 (by decide)).trans f243
        clear f245
        have f246 := hv
        clear hk hv hz hf
        refine p_val (v := .bool false) ((wt_of rfl (by kernel_rfl) _ f243).trans rfl) rfl (by simp only [execOp, ev_con, ev_of f13]; simp [go_sem]) (by rw [fz]; decide) ?_
        intro d32 hk hv hz hf
        replace fz := hz.trans fz
        replace fd := hf.trans fd
        replace f5 := (hk 5 (by decide)).trans f5
        replace f8 := (hk 8 (by decide)).trans f8
        replace f13 := (hk 13 (by decide)).trans f13
        replace f243 := (hk 243 (by decide)).trans f243
        replace f246 := (hk 246 (by decide)).trans f246
        have f247 := hv
        clear hk hv hz hf
        refine p_val (v := .bool true) ((wt_of rfl (by kernel_rfl) _ f243).trans rfl) rfl (by simp only [execOp, ev_con, ev_of f246, ev_of f247]; simp [go_sem]) (by rw [fz]; decide) ?_
        intro d33 hk hv hz hf
        replace fz := hz.trans fz
        replace fd := hf.trans fd
        replace f5 := (hk 5 (by decide)).trans f5
        replace f8 := (hk 8 (by decide)).trans f8
        replace f13 := (hk 13 (by decide)).trans f13
        replace f243 := (hk 243 (by decide)).trans f243
        clear f246 f247
        have f248 := hv
        clear hk hv hz hf
        refine p_val (v := .bool true) rfl rfl (by simp only [execOp, ev_con, ev_of f243, ev_of f248]; simp [go_sem]) (by rw [fz]; decide) ?_
        intro d34 hk hv hz hf
        replace fz := hz.trans fz
        replace fd := hf.trans fd
        replace f5 := (hk 5 (by decide)).trans f5
        replace f8 := (hk 8 (by decide)).trans f8
        replace f13 := (hk 13 (by decide)).trans f13
        clear f243 f248
        have f249 := hv
        clear hk hv hz hf
        refine p_val (v := .bool true) rfl rfl (by simp only [execOp, ev_con, ev_of f249]; simp [go_sem]) (by rw [fz]; decide) ?_
        intro d35 hk hv hz hf
        replace fz := hz.trans fz
        replace fd := hf.trans fd
        replace f5 := (hk 5 (by decide)).trans f5
        replace f8 := (hk 8 (by decide)).trans f8
        replace f13 := (hk 13 (by decide)).trans f13
        clear f249
        have f250 := hv
        clear hk hv hz hf
        refine p_val (v := .pointer (some ⟨zv, 3, none⟩)) ((wt_of rfl (by kernel_rfl) _ f250).trans rfl) rfl (x_fld (r := 3) rfl f5 (fun w => by kernel_rfl)) (by rw [fz]; decide) ?_
        intro d36 hk hv hz hf
        replace fz := hz.trans fz
        replace fd := hf.trans fd
        replace f5 := (hk 5 (by decide)).trans f5
        replace f8 := (hk 8 (by decide)).trans f8
        replace f13 := (hk 13 (by decide)).trans f13
        replace f250 := (hk 250 (by decide)).trans f250
        have f251 := hv
        clear hk hv hz hf
        refine p_val (v := .int .i64 2) ((wt_of rfl (by kernel_rfl) _ f250).trans rfl) rfl (p_get (v := .int .i64 2) rfl f251 hM.at3 rfl) (by rw [fz]; decide) ?_
        intro d37 hk hv hz hf
        replace fz := hz.trans fz
        replace fd := hf.trans fd
        replace f5 := (hk 5 (by decide)).trans f5
        replace f8 := (hk 8 (by decide)).trans f8
        replace f13 := (hk 13 (by decide)).trans f13
        replace f250 := (hk 250 (by decide)).trans f250
        clear f251
        have f252 := hv
        clear hk hv hz hf
        refine p_val (v := .bool false) ((wt_of rfl (by kernel_rfl) _ f250).trans rfl) rfl (by simp only [execOp, ev_con, ev_of f252]; simp [go_sem]) (by rw [fz]; decide) ?_
        intro d38 hk hv hz hf
        replace fz := hz.trans fz
        replace fd := hf.trans fd
        replace f5 := (hk 5 (by decide)).trans f5
        replace f8 := (hk 8 (by decide)).trans f8
        replace f13 := (hk 13 (by decide)).trans f13
        replace f250 := (hk 250 (by decide)).trans f250
        clear f252
        have f253 := hv
        clear hk hv hz hf
        refine p_val (v := .bool false) ((wt_of rfl (by kernel_rfl) _ f250).trans rfl) rfl (by simp only [execOp, ev_con, ev_of f253]; simp [go_sem]) (by rw [fz]; decide) ?_
        intro d39 hk hv hz hf
        replace fz := hz.trans fz
        replace fd := hf.trans fd
        replace f5 := (hk 5 (by decide)).trans f5
        replace f8 := (hk 8 (by decide)).trans f8
        replace f13 := (hk 13 (by decide)).trans f13
        replace f250 := (hk 250 (by decide)).trans f250
        clear f253
        have f254 := hv
        clear hk hv hz hf
        refine p_val (v := .pointer (some ⟨zv, 3, none⟩)) ((wt_of rfl (by kernel_rfl) _ f254).trans rfl) rfl (x_fld (r := 3) rfl f5 (fun w => by kernel_rfl)) (by rw [fz]; decide) ?_
        intro d40 hk hv hz hf
        replace fz := hz.trans fz
        replace fd := hf.trans fd
        replace f5 := (hk 5 (by decide)).trans f5
        replace f8 := (hk 8 (by decide)).trans f8
        replace f13 := (hk 13 (by decide)).trans f13
        replace f250 := (hk 250 (by decide)).trans f250
        replace f254 := (hk 254 (by decide)).trans f254
        have f255 := hv
        clear hk hv hz hf
        refine p_val (v := .int .i64 2) ((wt_of rfl (by kernel_rfl) _ f254).trans rfl) rfl (p_get (v := .int .i64 2) rfl f255 hM.at3 rfl) (by rw [fz]; decide) ?_
        intro d41 hk hv hz hf
        replace fz := hz.trans fz
        replace fd := hf.trans fd
        replace f5 := (hk 5 (by decide)).trans f5
        replace f8 := (hk 8 (by decide)).trans f8
        replace f13 := (hk 13 (by decide)).trans f13
        replace f250 := (hk 250 (by decide)).trans f250
        replace f254 := (hk 254 (by decide)).trans f254
        clear f255
        have f256 := hv
        clear hk hv hz hf
        refine p_val (v := .bool true) ((wt_of rfl (by kernel_rfl) _ f254).trans rfl) rfl (by simp only [execOp, ev_con, ev_of f256]; simp [go_sem]) (by rw [fz]; decide) ?_
        intro d42 hk hv hz hf
        replace fz := hz.trans fz
        replace fd := hf.trans fd
        replace f5 := (hk 5 (by decide)).trans f5
        replace f8 := (hk 8 (by decide)).trans f8
        replace f13 := (hk 13 (by decide)).trans f13
        replace f250 := (hk 250 (by decide)).trans f250
        replace f254 := (hk 254 (by decide)).trans f254
        clear f256
        have f257 := hv
        clear hk hv hz hf
        refine p_val (v := .bool true) ((wt_of rfl (by kernel_rfl) _ f250).trans rfl) rfl (by simp only [execOp, ev_con, ev_of f254, ev_of f257]; simp [go_sem]) (by rw [fz]; decide) ?_
        intro d43 hk hv hz hf
        replace fz := hz.trans fz
        replace fd := hf.trans fd
        replace f5 := (hk 5 (by decide)).trans f5
        replace f8 := (hk 8 (by decide)).trans f8
        replace f13 := (hk 13 (by decide)).trans f13
        replace f250 := (hk 250 (by decide)).trans f250
        clear f254 f257
        have f258 := hv
        clear hk hv hz hf
        refine p_val (v := .bool true) rfl rfl (by simp only [execOp, ev_con, ev_of f250, ev_of f258]; simp [go_sem]) (by rw [fz]; decide) ?_
        intro d44 hk hv hz hf
        replace fz := hz.trans fz
        replace fd := hf.trans fd
        replace f5 := (hk 5 (by decide)).trans f5
        replace f8 := (hk 8 (by decide)).trans f8
        replace f13 := (hk 13 (by decide)).trans f13
        clear f250 f258
        have f259 := hv
        clear hk hv hz hf
        refine p_val (v := .bool true) rfl rfl (by simp only [execOp, ev_con, ev_of f259]; simp [go_sem]) (by rw [fz]; decide) ?_
        intro d45 hk hv hz hf
        replace fz := hz.trans fz
        replace fd := hf.trans fd
        replace f5 := (hk 5 (by decide)).trans f5
        replace f8 := (hk 8 (by decide)).trans f8
        replace f13 := (hk 13 (by decide)).trans f13
        clear f259
        have f260 := hv
        clear hk hv hz hf
        refine p_val (v := .bool false) ((wt_of rfl (by kernel_rfl) _ f260).trans rfl) rfl (by simp only [execOp, ev_con, ev_of f13]; simp [go_sem]) (by rw [fz]; decide) ?_
        intro d46 hk hv hz hf
        replace fz := hz.trans fz
        replace fd := hf.trans fd
        replace f5 := (hk 5 (by decide)).trans f5
        replace f8 := (hk 8 (by decide)).trans f8
        replace f260 := (hk 260 (by decide)).trans f260
        clear f13
        have f261 := hv
        clear hk hv hz hf
        refine p_val (v := .bool true) ((wt_of rfl (by kernel_rfl) _ f260).trans rfl) rfl (by simp only [execOp, ev_con, ev_of f261]; simp [go_sem]) (by rw [fz]; decide) ?_
        intro d47 hk hv hz hf
        replace fz := hz.trans fz
        replace fd := hf.trans fd
        replace f5 := (hk 5 (by decide)).trans f5
        replace f8 := (hk 8 (by decide)).trans f8
        replace f260 := (hk 260 (by decide)).trans f260
        clear f261
        have f262 := hv
        clear hk hv hz hf
        refine p_val (v := .bool true) ((wt_of rfl (by kernel_rfl) _ f260).trans rfl) rfl (by simp only [execOp, ev_con, ev_of f262]; simp [go_sem]) (by rw [fz]; decide) ?_
        intro d48 hk hv hz hf
        replace fz := hz.trans fz
        replace fd := hf.trans fd
        replace f5 := (hk 5 (by decide)).trans f5
        replace f8 := (hk 8 (by decide)).trans f8
        replace f260 := (hk 260 (by decide)).trans f260
        clear f262
        have f263 := hv
        clear hk hv hz hf
        refine p_not ((wt_of rfl (by kernel_rfl) _ f263).trans rfl) rfl (by rw [fz]; decide) ?_
        intro d49 hk hv hz hf
        replace fz := hz.trans fz
        replace fd := hf.trans fd
        replace f8 := (hk 8 (by decide)).trans f8
        replace f260 := (hk 260 (by decide)).trans f260
        replace f263 := (hk 263 (by decide)).trans f263
        clear f5
        have f264 := hv
        clear hk hv hz hf
        refine p_not ((wt_of rfl (by kernel_rfl) _ f263).trans rfl) rfl (by rw [fz]; decide) ?_
        intro d50 hk hv hz hf
        replace fz := hz.trans fz
        replace fd := hf.trans fd
        replace f8 := (hk 8 (by decide)).trans f8
        replace f260 := (hk 260 (by decide)).trans f260
        replace f263 := (hk 263 (by decide)).trans f263
        clear f264
        have f265 := hv
        clear hk hv hz hf
        refine p_not ((wt_of rfl (by kernel_rfl) _ f263).trans rfl) rfl (by rw [fz]; decide) ?_
        intro d51 hk hv hz hf
        replace fz := hz.trans fz
        replace fd := hf.trans fd
        replace f260 := (hk 260 (by decide)).trans f260
        replace f263 := (hk 263 (by decide)).trans f263
        replace f265 := (hk 265 (by decide)).trans f265
        clear f8
        have f266 := hv
        clear hk hv hz hf
        refine p_not ((wt_of rfl (by kernel_rfl) _ f263).trans rfl) rfl (by rw [fz]; decide) ?_
        intro d52 hk hv hz hf
        replace fz := hz.trans fz
        replace fd := hf.trans fd
        replace f260 := (hk 260 (by decide)).trans f260
        replace f263 := (hk 263 (by decide)).trans f263
        replace f265 := (hk 265 (by decide)).trans f265
        clear f266
        have f267 := hv
        clear hk hv hz hf
        refine p_not ((wt_of rfl (by kernel_rfl) _ f263).trans rfl) rfl (by rw [fz]; decide) ?_
        intro d53 hk hv hz hf
        replace fz := hz.trans fz
        replace fd := hf.trans fd
        replace f260 := (hk 260 (by decide)).trans f260
        replace f263 := (hk 263 (by decide)).trans f263
        clear f265 f267
        have f268 := hv
        clear hk hv hz hf
        refine p_val (v := .bool true) ((wt_of rfl (by kernel_rfl) _ f260).trans rfl) rfl (by simp only [execOp, ev_con, ev_of f263, ev_of f268]; simp [go_sem]) (by rw [fz]; decide) ?_
        intro d54 hk hv hz hf
        replace fz := hz.trans fz
        replace fd := hf.trans fd
        replace f260 := (hk 260 (by decide)).trans f260
        clear f263 f268
        have f269 := hv
        clear hk hv hz hf
        refine p_val (v := .bool true) rfl rfl (by simp only [execOp, ev_con, ev_of f260, ev_of f269]; simp [go_sem]) (by rw [fz]; decide) ?_
        intro d55 hk hv hz hf
        replace fz := hz.trans fz
        replace fd := hf.trans fd
        clear f260 f269
        have f270 := hv
        clear hk hv hz hf
        refine p_val (v := .bool true) rfl rfl (by simp only [execOp, ev_con, ev_of f270]; simp [go_sem]) (by rw [fz]; decide) ?_
        intro d56 hk hv hz hf
        replace fz := hz.trans fz
        replace fd := hf.trans fd
        clear f270
        have f4 := hv
        clear hk hv hz hf
        go_step
        go_step
        go_step
        go_step
        exact bodyPost_ret (ret_t rfl f4) fd ⟨rfl, hM.below⟩
      · subst p3
        go_upto_region 15 with (fail)
        refine reg.wp_abs (fun a0 => a0.tmps.size = 271 ∧ a0.defers = [] ∧ a0.tmps[5]? = some (.pointer (some ⟨zv, 0, none⟩)) ∧ a0.tmps[7]? = some (.pointer (some ⟨yh, 0, none⟩)) ∧ a0.tmps[8]? = some (.pointer (some ⟨yd, 0, none⟩)) ∧ a0.tmps[10]? = some (.int .i64 1)) ⟨rfl, rfl, rfl, rfl, rfl, rfl⟩ ?_
        rintro a0 ⟨fz, fd, f5, f7, f8, f10⟩ ha0
        clear ha0
        go_step
        try simp only [List.append_eq, List.cons_append, List.nil_append]
        refine p_val (v := .pointer (some ⟨yd, 0, none⟩)) rfl rfl (x_fld (r := 0) rfl f8 (fun w => by kernel_rfl)) (by rw [fz]; decide) ?_
        intro b1 hk hv hz hf
        replace fz := hz.trans fz
        replace fd := hf.trans fd
        replace f5 := (hk 5 (by decide)).trans f5
        replace f7 := (hk 7 (by decide)).trans f7
        replace f8 := (hk 8 (by decide)).trans f8
        replace f10 := (hk 10 (by decide)).trans f10
        have f199 := hv
        clear hk hv hz hf
        refine p_val (v := .int .i64 dh) rfl rfl (p_get (v := .int .i64 dh) rfl f199 hM.at1 rfl) (by rw [fz]; decide) ?_
        intro b2 hk hv hz hf
        replace fz := hz.trans fz
        replace fd := hf.trans fd
        replace f5 := (hk 5 (by decide)).trans f5
        replace f7 := (hk 7 (by decide)).trans f7
        replace f8 := (hk 8 (by decide)).trans f8
        replace f10 := (hk 10 (by decide)).trans f10
        clear f199
        have f200 := hv
        clear hk hv hz hf
        refine p_val (v := .bool false) rfl rfl (by simp only [execOp, ev_con, ev_of f200]; simp [go_sem, p1]) (by rw [fz]; decide) ?_
        intro b3 hk hv hz hf
        replace fz := hz.trans fz
        replace fd := hf.trans fd
        replace f5 := (hk 5 (by decide)).trans f5
        replace f7 := (hk 7 (by decide)).trans f7
        replace f8 := (hk 8 (by decide)).trans f8
        replace f10 := (hk 10 (by decide)).trans f10
        clear f200
        have f201 := hv
        clear hk hv hz hf
        refine p_val (v := .bool false) rfl rfl (by simp only [execOp, ev_con, ev_of f201]; simp [go_sem]) (by rw [fz]; decide) ?_
        intro b4 hk hv hz hf
        replace fz := hz.trans fz
        replace fd := hf.trans fd
        replace f5 := (hk 5 (by decide)).trans f5
        replace f7 := (hk 7 (by decide)).trans f7
        replace f8 := (hk 8 (by decide)).trans f8
        replace f10 := (hk 10 (by decide)).trans f10
        clear f201
        have f202 := hv
        clear hk hv hz hf
        refine p_val (v := .pointer (some ⟨yd, 0, none⟩)) ((wt_of rfl (by kernel_rfl) _ f202).trans rfl) rfl (x_fld (r := 0) rfl f8 (fun w => by kernel_rfl)) (by rw [fz]; decide) ?_
        intro b5 hk hv hz hf
        replace fz := hz.trans fz
        replace fd := hf.trans fd
        replace f5 := (hk 5 (by decide)).trans f5
        replace f7 := (hk 7 (by decide)).trans f7
        replace f8 := (hk 8 (by decide)).trans f8
        replace f10 := (hk 10 (by decide)).trans f10
        replace f202 := (hk 202 (by decide)).trans f202
        have f203 := hv
        clear hk hv hz hf
        refine p_val (v := .int .i64 dh) ((wt_of rfl (by kernel_rfl) _ f202).trans rfl) rfl (p_get (v := .int .i64 dh) rfl f203 hM.at1 rfl) (by rw [fz]; decide) ?_
        intro b6 hk hv hz hf
        replace fz := hz.trans fz
        replace fd := hf.trans fd
        replace f5 := (hk 5 (by decide)).trans f5
        replace f7 := (hk 7 (by decide)).trans f7
        replace f8 := (hk 8 (by decide)).trans f8
        replace f10 := (hk 10 (by decide)).trans f10
        replace f202 := (hk 202 (by decide)).trans f202
        clear f203
        have f204 := hv
        clear hk hv hz hf
        refine p_val (v := .pointer (some ⟨yh, 0, none⟩)) ((wt_of rfl (by kernel_rfl) _ f202).trans rfl) rfl (x_fld (r := 0) rfl f7 (fun w => by kernel_rfl)) (by rw [fz]; decide) ?_
        intro b7 hk hv hz hf
        replace fz := hz.trans fz
        replace fd := hf.trans fd
        replace f5 := (hk 5 (by decide)).trans f5
        replace f7 := (hk 7 (by decide)).trans f7
        replace f8 := (hk 8 (by decide)).trans f8
        replace f10 := (hk 10 (by decide)).trans f10
        replace f202 := (hk 202 (by decide)).trans f202
        replace f204 := (hk 204 (by decide)).trans f204
        have f205 := hv
        clear hk hv hz hf
        refine p_val (v := .int .i64 hh) ((wt_of rfl (by kernel_rfl) _ f202).trans rfl) rfl (p_get (v := .int .i64 hh) rfl f205 hM.at2 rfl) (by rw [fz]; decide) ?_
        intro b8 hk hv hz hf
        replace fz := hz.trans fz
        replace fd := hf.trans fd
        replace f5 := (hk 5 (by decide)).trans f5
        replace f7 := (hk 7 (by decide)).trans f7
        replace f8 := (hk 8 (by decide)).trans f8
        replace f10 := (hk 10 (by decide)).trans f10
        replace f202 := (hk 202 (by decide)).trans f202
        replace f204 := (hk 204 (by decide)).trans f204
        clear f205
        have f206 := hv
        clear hk hv hz hf
        refine p_val (v := .bool false) ((wt_of rfl (by kernel_rfl) _ f202).trans rfl) rfl (by simp only [execOp, ev_con, ev_of f204, ev_of f206]; simp [go_sem, p2]) (by rw [fz]; decide) ?_
        intro b9 hk hv hz hf
        replace fz := hz.trans fz
        replace fd := hf.trans fd
        replace f5 := (hk 5 (by decide)).trans f5
        replace f7 := (hk 7 (by decide)).trans f7
        replace f8 := (hk 8 (by decide)).trans f8
        replace f10 := (hk 10 (by decide)).trans f10
        replace f202 := (hk 202 (by decide)).trans f202
        clear f204 f206
        have f207 := hv
        clear hk hv hz hf
        refine p_val (v := .bool false) ((wt_of rfl (by kernel_rfl) _ f202).trans rfl) rfl (by simp only [execOp, ev_con, ev_of f207]; simp [go_sem]) (by rw [fz]; decide) ?_
        intro b10 hk hv hz hf
        replace fz := hz.trans fz
        replace fd := hf.trans fd
        replace f5 := (hk 5 (by decide)).trans f5
        replace f7 := (hk 7 (by decide)).trans f7
        replace f8 := (hk 8 (by decide)).trans f8
        replace f10 := (hk 10 (by decide)).trans f10
        replace f202 := (hk 202 (by decide)).trans f202
        clear f207
        have f208 := hv
        clear hk hv hz hf
        refine p_not ((wt_of rfl (by kernel_rfl) _ f208).trans rfl) rfl (by rw [fz]; decide) ?_
        intro b11 hk hv hz hf
        replace fz := hz.trans fz
        replace fd := hf.trans fd
        replace f5 := (hk 5 (by decide)).trans f5
        replace f7 := (hk 7 (by decide)).trans f7
        replace f8 := (hk 8 (by decide)).trans f8
        replace f10 := (hk 10 (by decide)).trans f10
        replace f202 := (hk 202 (by decide)).trans f202
        replace f208 := (hk 208 (by decide)).trans f208
        have f209 := hv
        clear hk hv hz hf
        refine p_not ((wt_of rfl (by kernel_rfl) _ f208).trans rfl) rfl (by rw [fz]; decide) ?_
        intro b12 hk hv hz hf
        replace fz := hz.trans fz
        replace fd := hf.trans fd
        replace f5 := (hk 5 (by decide)).trans f5
        replace f7 := (hk 7 (by decide)).trans f7
        replace f8 := (hk 8 (by decide)).trans f8
        replace f10 := (hk 10 (by decide)).trans f10
        replace f202 := (hk 202 (by decide)).trans f202
        replace f208 := (hk 208 (by decide)).trans f208
        clear f209
        have f210 := hv
        clear hk hv hz hf
        refine p_not ((wt_of rfl (by kernel_rfl) _ f208).trans rfl) rfl (by rw [fz]; decide) ?_
        intro b13 hk hv hz hf
        replace fz := hz.trans fz
        replace fd := hf.trans fd
        replace f5 := (hk 5 (by decide)).trans f5
        replace f7 := (hk 7 (by decide)).trans f7
        replace f8 := (hk 8 (by decide)).trans f8
        replace f10 := (hk 10 (by decide)).trans f10
        replace f202 := (hk 202 (by decide)).trans f202
        replace f208 := (hk 208 (by decide)).trans f208
        replace f210 := (hk 210 (by decide)).trans f210
        have f211 := hv
        clear hk hv hz hf
        refine p_not ((wt_of rfl (by kernel_rfl) _ f208).trans rfl) rfl (by rw [fz]; decide) ?_
        intro b14 hk hv hz hf
        replace fz := hz.trans fz
        replace fd := hf.trans fd
        replace f5 := (hk 5 (by decide)).trans f5
        replace f7 := (hk 7 (by decide)).trans f7
        replace f8 := (hk 8 (by decide)).trans f8
        replace f10 := (hk 10 (by decide)).trans f10
        replace f202 := (hk 202 (by decide)).trans f202
        replace f208 := (hk 208 (by decide)).trans f208
        replace f210 := (hk 210 (by decide)).trans f210
        clear f211
        have f212 := hv
        clear hk hv hz hf
        refine p_not ((wt_of rfl (by kernel_rfl) _ f208).trans rfl) rfl (by rw [fz]; decide) ?_
        intro b15 hk hv hz hf
        replace fz := hz.trans fz
        replace fd := hf.trans fd
        replace f5 := (hk 5 (by decide)).trans f5
        replace f7 := (hk 7 (by decide)).trans f7
        replace f8 := (hk 8 (by decide)).trans f8
        replace f10 := (hk 10 (by decide)).trans f10
        replace f202 := (hk 202 (by decide)).trans f202
        replace f208 := (hk 208 (by decide)).trans f208
        clear f210 f212
        have f213 := hv
        clear hk hv hz hf
        refine p_val (v := .bool false) ((wt_of rfl (by kernel_rfl) _ f202).trans rfl) rfl (by simp only [execOp, ev_con, ev_of f208, ev_of f213]; simp [go_sem]) (by rw [fz]; decide) ?_
        intro b16 hk hv hz hf
        replace fz := hz.trans fz
        replace fd := hf.trans fd
        replace f5 := (hk 5 (by decide)).trans f5
        replace f7 := (hk 7 (by decide)).trans f7
        replace f8 := (hk 8 (by decide)).trans f8
        replace f10 := (hk 10 (by decide)).trans f10
        replace f202 := (hk 202 (by decide)).trans f202
        clear f208 f213
        have f214 := hv
        clear hk hv hz hf
        refine p_val (v := .bool false) rfl rfl (by simp only [execOp, ev_con, ev_of f202, ev_of f214]; simp [go_sem]) (by rw [fz]; decide) ?_
        intro b17 hk hv hz hf
        replace fz := hz.trans fz
        replace fd := hf.trans fd
        replace f5 := (hk 5 (by decide)).trans f5
        replace f7 := (hk 7 (by decide)).trans f7
        replace f8 := (hk 8 (by decide)).trans f8
        replace f10 := (hk 10 (by decide)).trans f10
        clear f202 f214
        have f215 := hv
        clear hk hv hz hf
        refine p_val (v := .bool false) rfl rfl (by simp only [execOp, ev_con, ev_of f215]; simp [go_sem]) (by rw [fz]; decide) ?_
        intro b18 hk hv hz hf
        replace fz := hz.trans fz
        replace fd := hf.trans fd
        replace f5 := (hk 5 (by decide)).trans f5
        replace f7 := (hk 7 (by decide)).trans f7
        replace f8 := (hk 8 (by decide)).trans f8
        replace f10 := (hk 10 (by decide)).trans f10
        clear f215
        have f13 := hv
        clear hk hv hz hf
        go_upto_region 16 with (fail)
        go_step
        try simp only [List.append_eq, List.cons_append, List.nil_append]
        refine p_val (v := .int .i64 1) rfl rfl (by simp only [execOp, ev_con, ev_of f10]; simp [go_sem]) (by rw [fz]; decide) ?_
        intro d1 hk hv hz hf
        replace fz := hz.trans fz
        replace fd := hf.trans fd
        replace f5 := (hk 5 (by decide)).trans f5
        replace f7 := (hk 7 (by decide)).trans f7
        replace f8 := (hk 8 (by decide)).trans f8
        replace f13 := (hk 13 (by decide)).trans f13
        clear f10
        have f216 := hv
        clear hk hv hz hf
        refine p_val (v := .bool true) rfl rfl (by simp only [execOp, ev_con, ev_of f216]; simp [go_sem]) (by rw [fz]; decide) ?_
        intro d2 hk hv hz hf
        replace fz := hz.trans fz
        replace fd := hf.trans fd
        replace f5 := (hk 5 (by decide)).trans f5
        replace f7 := (hk 7 (by decide)).trans f7
        replace f8 := (hk 8 (by decide)).trans f8
        replace f13 := (hk 13 (by decide)).trans f13
        clear f216
        have f217 := hv
        clear hk hv hz hf
        refine p_val (v := .bool true) rfl rfl (by simp only [execOp, ev_con, ev_of f217]; simp [go_sem]) (by rw [fz]; decide) ?_
        intro d3 hk hv hz hf
        replace fz := hz.trans fz
        replace fd := hf.trans fd
        replace f5 := (hk 5 (by decide)).trans f5
        replace f7 := (hk 7 (by decide)).trans f7
        replace f8 := (hk 8 (by decide)).trans f8
        replace f13 := (hk 13 (by decide)).trans f13
        clear f217
        have f218 := hv
        clear hk hv hz hf
        refine p_val (v := .pointer (some ⟨zv, 1, none⟩)) ((wt_of rfl (by kernel_rfl) _ f218).trans rfl) rfl (x_fld (r := 1) rfl f5 (fun w => by kernel_rfl)) (by rw [fz]; decide) ?_
        intro d4 hk hv hz hf
        replace fz := hz.trans fz
        replace fd := hf.trans fd
        replace f5 := (hk 5 (by decide)).trans f5
        replace f7 := (hk 7 (by decide)).trans f7
        replace f8 := (hk 8 (by decide)).trans f8
        replace f13 := (hk 13 (by decide)).trans f13
        replace f218 := (hk 218 (by decide)).trans f218
        have f219 := hv
        clear hk hv hz hf
        refine p_val (v := .int .i64 m) ((wt_of rfl (by kernel_rfl) _ f218).trans rfl) rfl (p_get (v := .int .i64 m) rfl f219 hM.at3 rfl) (by rw [fz]; decide) ?_
        intro d5 hk hv hz hf
        replace fz := hz.trans fz
        replace fd := hf.trans fd
        replace f5 := (hk 5 (by decide)).trans f5
        replace f7 := (hk 7 (by decide)).trans f7
        replace f8 := (hk 8 (by decide)).trans f8
        replace f13 := (hk 13 (by decide)).trans f13
        replace f218 := (hk 218 (by decide)).trans f218
        clear f219
        have f220 := hv
        clear hk hv hz hf
        refine p_val (v := .bool true) ((wt_of rfl (by kernel_rfl) _ f218).trans rfl) rfl (by simp only [execOp, ev_con, ev_of f220]; simp [go_sem, s2]) (by rw [fz]; decide) ?_
        intro d6 hk hv hz hf
        replace fz := hz.trans fz
        replace fd := hf.trans fd
        replace f5 := (hk 5 (by decide)).trans f5
        replace f7 := (hk 7 (by decide)).trans f7
        replace f8 := (hk 8 (by decide)).trans f8
        replace f13 := (hk 13 (by decide)).trans f13
        replace f218 := (hk 218 (by decide)).trans f218
        clear f220
        have f221 := hv
        clear hk hv hz hf
        refine p_val (v := .bool true) rfl rfl (by simp only [execOp, ev_con, ev_of f218, ev_of f221]; simp [go_sem]) (by rw [fz]; decide) ?_
        intro d7 hk hv hz hf
        replace fz := hz.trans fz
        replace fd := hf.trans fd
        replace f5 := (hk 5 (by decide)).trans f5
        replace f7 := (hk 7 (by decide)).trans f7
        replace f8 := (hk 8 (by decide)).trans f8
        replace f13 := (hk 13 (by decide)).trans f13
        clear f218 f221
        have f222 := hv
        clear hk hv hz hf
        refine p_val (v := .bool true) rfl rfl (by simp only [execOp, ev_con, ev_of f222]; simp [go_sem]) (by rw [fz]; decide) ?_
        intro d8 hk hv hz hf
        replace fz := hz.trans fz
        replace fd := hf.trans fd
        replace f5 := (hk 5 (by decide)).trans f5
        replace f7 := (hk 7 (by decide)).trans f7
        replace f8 := (hk 8 (by decide)).trans f8
        replace f13 := (hk 13 (by decide)).trans f13
        clear f222
        have f223 := hv
        clear hk hv hz hf
        refine p_val (v := .pointer (some ⟨zv, 1, none⟩)) ((wt_of rfl (by kernel_rfl) _ f223).trans rfl) rfl (x_fld (r := 1) rfl f5 (fun w => by kernel_rfl)) (by rw [fz]; decide) ?_
        intro d9 hk hv hz hf
        replace fz := hz.trans fz
        replace fd := hf.trans fd
        replace f5 := (hk 5 (by decide)).trans f5
        replace f7 := (hk 7 (by decide)).trans f7
        replace f8 := (hk 8 (by decide)).trans f8
        replace f13 := (hk 13 (by decide)).trans f13
        replace f223 := (hk 223 (by decide)).trans f223
        have f224 := hv
        clear hk hv hz hf
        refine p_val (v := .int .i64 m) ((wt_of rfl (by kernel_rfl) _ f223).trans rfl) rfl (p_get (v := .int .i64 m) rfl f224 hM.at3 rfl) (by rw [fz]; decide) ?_
        intro d10 hk hv hz hf
        replace fz := hz.trans fz
        replace fd := hf.trans fd
        replace f5 := (hk 5 (by decide)).trans f5
        replace f7 := (hk 7 (by decide)).trans f7
        replace f8 := (hk 8 (by decide)).trans f8
        replace f13 := (hk 13 (by decide)).trans f13
        replace f223 := (hk 223 (by decide)).trans f223
        clear f224
        have f225 := hv
        clear hk hv hz hf
        refine p_val (v := .pointer (some ⟨yh, 1, none⟩)) ((wt_of rfl (by kernel_rfl) _ f223).trans rfl) rfl (x_fld (r := 1) rfl f7 (fun w => by kernel_rfl)) (by rw [fz]; decide) ?_
        intro d11 hk hv hz hf
        replace fz := hz.trans fz
        replace fd := hf.trans fd
        replace f5 := (hk 5 (by decide)).trans f5
        replace f7 := (hk 7 (by decide)).trans f7
        replace f8 := (hk 8 (by decide)).trans f8
        replace f13 := (hk 13 (by decide)).trans f13
        replace f223 := (hk 223 (by decide)).trans f223
        replace f225 := (hk 225 (by decide)).trans f225
        have f226 := hv
        clear hk hv hz hf
        refine p_val (v := .int .i64 hl) ((wt_of rfl (by kernel_rfl) _ f223).trans rfl) rfl (p_get (v := .int .i64 hl) rfl f226 hM.at2 rfl) (by rw [fz]; decide) ?_
        intro d12 hk hv hz hf
        replace fz := hz.trans fz
        replace fd := hf.trans fd
        replace f5 := (hk 5 (by decide)).trans f5
        replace f7 := (hk 7 (by decide)).trans f7
        replace f8 := (hk 8 (by decide)).trans f8
        replace f13 := (hk 13 (by decide)).trans f13
        replace f223 := (hk 223 (by decide)).trans f223
        replace f225 := (hk 225 (by decide)).trans f225
        clear f226
        have f227 := hv
        clear hk hv hz hf
        refine p_val (v := .pointer (some ⟨yd, 1, none⟩)) ((wt_of rfl (by kernel_rfl) _ f223).trans rfl) rfl (x_fld (r := 1) rfl f8 (fun w => by kernel_rfl)) (by rw [fz]; decide) ?_
        intro d13 hk hv hz hf
        replace fz := hz.trans fz
        replace fd := hf.trans fd
        replace f5 := (hk 5 (by decide)).trans f5
        replace f7 := (hk 7 (by decide)).trans f7
        replace f8 := (hk 8 (by decide)).trans f8
        replace f13 := (hk 13 (by decide)).trans f13
        replace f223 := (hk 223 (by decide)).trans f223
        replace f225 := (hk 225 (by decide)).trans f225
        replace f227 := (hk 227 (by decide)).trans f227
        have f228 := hv
        clear hk hv hz hf
        refine p_val (v := .int .i64 dl) ((wt_of rfl (by kernel_rfl) _ f223).trans rfl) rfl (p_get (v := .int .i64 dl) rfl f228 hM.at1 rfl) (by rw [fz]; decide) ?_
        intro d14 hk hv hz hf
        replace fz := hz.trans fz
        replace fd := hf.trans fd
        replace f5 := (hk 5 (by decide)).trans f5
        replace f7 := (hk 7 (by decide)).trans f7
        replace f8 := (hk 8 (by decide)).trans f8
        replace f13 := (hk 13 (by decide)).trans f13
        replace f223 := (hk 223 (by decide)).trans f223
        replace f225 := (hk 225 (by decide)).trans f225
        replace f227 := (hk 227 (by decide)).trans f227
        clear f228
        have f229 := hv
        clear hk hv hz hf
        refine p_val (v := .int .i64 q) ((wt_of rfl (by kernel_rfl) _ f223).trans rfl) rfl (by simp only [execOp, ev_con, ev_of f227, ev_of f229]; simp [go_sem, f227, f229, s6]) (by rw [fz]; decide) ?_
        intro d15 hk hv hz hf
        replace fz := hz.trans fz
        replace fd := hf.trans fd
        replace f5 := (hk 5 (by decide)).trans f5
        replace f7 := (hk 7 (by decide)).trans f7
        replace f8 := (hk 8 (by decide)).trans f8
        replace f13 := (hk 13 (by decide)).trans f13
        replace f223 := (hk 223 (by decide)).trans f223
        replace f225 := (hk 225 (by decide)).trans f225
        clear f227 f229
        have f230 := hv
        clear hk hv hz hf
        refine p_val (v := .bool true) ((wt_of rfl (by kernel_rfl) _ f223).trans rfl) rfl (by simp only [execOp, ev_con, ev_of f225, ev_of f230]; simp [go_sem, s3]) (by rw [fz]; decide) ?_
        intro d16 hk hv hz hf
        replace fz := hz.trans fz
        replace fd := hf.trans fd
        replace f5 := (hk 5 (by decide)).trans f5
        replace f7 := (hk 7 (by decide)).trans f7
        replace f8 := (hk 8 (by decide)).trans f8
        replace f13 := (hk 13 (by decide)).trans f13
        replace f223 := (hk 223 (by decide)).trans f223
        clear f225 f230
        have f231 := hv
        clear hk hv hz hf
        refine p_val (v := .bool true) rfl rfl (by simp only [execOp, ev_con, ev_of f223, ev_of f231]; simp [go_sem]) (by rw [fz]; decide) ?_
        intro d17 hk hv hz hf
        replace fz := hz.trans fz
        replace fd := hf.trans fd
        replace f5 := (hk 5 (by decide)).trans f5
        replace f7 := (hk 7 (by decide)).trans f7
        replace f8 := (hk 8 (by decide)).trans f8
        replace f13 := (hk 13 (by decide)).trans f13
        clear f223 f231
        have f232 := hv
        clear hk hv hz hf
        refine p_val (v := .bool true) rfl rfl (by simp only [execOp, ev_con, ev_of f232]; simp [go_sem]) (by rw [fz]; decide) ?_
        intro d18 hk hv hz hf
        replace fz := hz.trans fz
        replace fd := hf.trans fd
        replace f5 := (hk 5 (by decide)).trans f5
        replace f7 := (hk 7 (by decide)).trans f7
        replace f8 := (hk 8 (by decide)).trans f8
        replace f13 := (hk 13 (by decide)).trans f13
        clear f232
        have f233 := hv
        clear hk hv hz hf
        refine p_val (v := .pointer (some ⟨zv, 1, none⟩)) ((wt_of rfl (by kernel_rfl) _ f233).trans rfl) rfl (x_fld (r := 1) rfl f5 (fun w => by kernel_rfl)) (by rw [fz]; decide) ?_
        intro d19 hk hv hz hf
        replace fz := hz.trans fz
        replace fd := hf.trans fd
        replace f5 := (hk 5 (by decide)).trans f5
        replace f7 := (hk 7 (by decide)).trans f7
        replace f8 := (hk 8 (by decide)).trans f8
        replace f13 := (hk 13 (by decide)).trans f13
        replace f233 := (hk 233 (by decide)).trans f233
        have f234 := hv
        clear hk hv hz hf
        refine p_val (v := .int .i64 m) ((wt_of rfl (by kernel_rfl) _ f233).trans rfl) rfl (p_get (v := .int .i64 m) rfl f234 hM.at3 rfl) (by rw [fz]; decide) ?_
        intro d20 hk hv hz hf
        replace fz := hz.trans fz
        replace fd := hf.trans fd
        replace f5 := (hk 5 (by decide)).trans f5
        replace f7 := (hk 7 (by decide)).trans f7
        replace f8 := (hk 8 (by decide)).trans f8
        replace f13 := (hk 13 (by decide)).trans f13
        replace f233 := (hk 233 (by decide)).trans f233
        clear f234
        have f235 := hv
        clear hk hv hz hf
        refine p_val (v := .pointer (some ⟨zv, 2, none⟩)) ((wt_of rfl (by kernel_rfl) _ f233).trans rfl) rfl (x_fld (r := 2) rfl f5 (fun w => by kernel_rfl)) (by rw [fz]; decide) ?_
        intro d21 hk hv hz hf
        replace fz := hz.trans fz
        replace fd := hf.trans fd
        replace f5 := (hk 5 (by decide)).trans f5
        replace f7 := (hk 7 (by decide)).trans f7
        replace f8 := (hk 8 (by decide)).trans f8
        replace f13 := (hk 13 (by decide)).trans f13
        replace f233 := (hk 233 (by decide)).trans f233
        replace f235 := (hk 235 (by decide)).trans f235
        have f236 := hv
        clear hk hv hz hf
        refine p_val (v := .int .i64 r) ((wt_of rfl (by kernel_rfl) _ f233).trans rfl) rfl (p_get (v := .int .i64 r) rfl f236 hM.at3 rfl) (by rw [fz]; decide) ?_
        intro d22 hk hv hz hf
        replace fz := hz.trans fz
        replace fd := hf.trans fd
        replace f5 := (hk 5 (by decide)).trans f5
        replace f7 := (hk 7 (by decide)).trans f7
        replace f8 := (hk 8 (by decide)).trans f8
        replace f13 := (hk 13 (by decide)).trans f13
        replace f233 := (hk 233 (by decide)).trans f233
        replace f235 := (hk 235 (by decide)).trans f235
        clear f236
        have f237 := hv
        clear hk hv hz hf
        refine p_val (v := .int .i64 hl) ((wt_of rfl (by kernel_rfl) _ f233).trans rfl) rfl (by simp only [execOp, ev_con, ev_of f235, ev_of f237]; simp [go_sem, g1]) (by rw [fz]; decide) ?_
        intro d23 hk hv hz hf
        replace fz := hz.trans fz
        replace fd := hf.trans fd
        replace f5 := (hk 5 (by decide)).trans f5
        replace f7 := (hk 7 (by decide)).trans f7
        replace f8 := (hk 8 (by decide)).trans f8
        replace f13 := (hk 13 (by decide)).trans f13
        replace f233 := (hk 233 (by decide)).trans f233
        clear f235 f237
        have f238 := hv
        clear hk hv hz hf
        refine p_val (v := .pointer (some ⟨yh, 1, none⟩)) ((wt_of rfl (by kernel_rfl) _ f233).trans rfl) rfl (x_fld (r := 1) rfl f7 (fun w => by kernel_rfl)) (by rw [fz]; decide) ?_
        intro d24 hk hv hz hf
        replace fz := hz.trans fz
        replace fd := hf.trans fd
        replace f5 := (hk 5 (by decide)).trans f5
        replace f8 := (hk 8 (by decide)).trans f8
        replace f13 := (hk 13 (by decide)).trans f13
        replace f233 := (hk 233 (by decide)).trans f233
        replace f238 := (hk 238 (by decide)).trans f238
        clear f7
        have f239 := hv
        clear hk hv hz hf
        refine p_val (v := .int .i64 hl) ((wt_of rfl (by kernel_rfl) _ f233).trans rfl) rfl (p_get (v := .int .i64 hl) rfl f239 hM.at2 rfl) (by rw [fz]; decide) ?_
        intro d25 hk hv hz hf
        replace fz := hz.trans fz
        replace fd := hf.trans fd
        replace f5 := (hk 5 (by decide)).trans f5
        replace f8 := (hk 8 (by decide)).trans f8
        replace f13 := (hk 13 (by decide)).trans f13
        replace f233 := (hk 233 (by decide)).trans f233
        replace f238 := (hk 238 (by decide)).trans f238
        clear f239
        have f240 := hv
        clear hk hv hz hf
        refine p_val (v := .bool true) ((wt_of rfl (by kernel_rfl) _ f233).trans rfl) rfl (by simp only [execOp, ev_con, ev_of f238, ev_of f240]; simp [go_sem]) (by rw [fz]; decide) ?_
        intro d26 hk hv hz hf
        replace fz := hz.trans fz
        replace fd := hf.trans fd
        replace f5 := (hk 5 (by decide)).trans f5
        replace f8 := (hk 8 (by decide)).trans f8
        replace f13 := (hk 13 (by decide)).trans f13
        replace f233 := (hk 233 (by decide)).trans f233
        clear f238 f240
        have f241 := hv
        clear hk hv hz hf
        refine p_val (v := .bool true) rfl rfl (by simp only [execOp, ev_con, ev_of f233, ev_of f241]; simp [go_sem]) (by rw [fz]; decide) ?_
        intro d27 hk hv hz hf
        replace fz := hz.trans fz
        replace fd := hf.trans fd
        replace f5 := (hk 5 (by decide)).trans f5
        replace f8 := (hk 8 (by decide)).trans f8
        replace f13 := (hk 13 (by decide)).trans f13
        clear f233 f241
        have f242 := hv
        clear hk hv hz hf
        refine p_val (v := .bool true) rfl rfl (by simp only [execOp, ev_con, ev_of f242]; simp [go_sem]) (by rw [fz]; decide) ?_
        intro d28 hk hv hz hf
        replace fz := hz.trans fz
        replace fd := hf.trans fd
        replace f5 := (hk 5 (by decide)).trans f5
        replace f8 := (hk 8 (by decide)).trans f8
        replace f13 := (hk 13 (by decide)).trans f13
        clear f242
        have f243 := hv
        clear hk hv hz hf
        refine p_val (v := .pointer (some ⟨zv, 3, none⟩)) ((wt_of rfl (by kernel_rfl) _ f243).trans rfl) rfl (x_fld (r := 3) rfl f5 (fun w => by kernel_rfl)) (by rw [fz]; decide) ?_
        intro d29 hk hv hz hf
        replace fz := hz.trans fz
        replace fd := hf.trans fd
        replace f5 := (hk 5 (by decide)).trans f5
        replace f8 := (hk 8 (by decide)).trans f8
        replace f13 := (hk 13 (by decide)).trans f13
        replace f243 := (hk 243 (by decide)).trans f243
        have f244 := hv
        clear hk hv hz hf
        refine p_val (v := .int .i64 2) ((wt_of rfl (by kernel_rfl) _ f243).trans rfl) rfl (p_get (v := .int .i64 2) rfl f244 hM.at3 rfl) (by rw [fz]; decide) ?_
        intro d30 hk hv hz hf
        replace fz := hz.trans fz
        replace fd := hf.trans fd
        replace f5 := (hk 5 (by decide)).trans f5
        replace f8 := (hk 8 (by decide)).trans f8
        replace f13 := (hk 13 (by decide)).trans f13
        replace f243 := (hk 243 (by decide)).trans f243
        clear f244
        have f245 := hv
        clear hk hv hz hf
        refine p_val (v := .bool false) ((wt_of rfl (by kernel_rfl) _ f243).trans rfl) rfl (by simp only [execOp, ev_con, ev_of f245]; simp [go_sem]) (by rw [fz]; decide) ?_
        intro d31 hk hv hz hf
        replace fz := hz.trans fz
        replace fd := hf.trans fd
        replace f5 := (hk 5 (by decide)).trans f5
        replace f8 := (hk 8 (by decide)).trans f8
        replace f13 := (hk 13 (by decide)).trans f13
        replace f243 := (hk 243 (by decide)).trans f243
        clear f245
        have f246 := hv
        clear hk hv hz hf
        refine p_val (v := .bool false) ((wt_of rfl (by kernel_rfl) _ f243).trans rfl) rfl (by simp only [execOp, ev_con, ev_of f13]; simp [go_sem]) (by rw [fz]; decide) ?_
        intro d32 hk hv hz hf
        replace fz := hz.trans fz
        replace fd := hf.trans fd
        replace f5 := (hk 5 (by decide)).trans f5
        replace f8 := (hk 8 (by decide)).trans f8
        replace f13 := (hk 13 (by decide)).trans f13
        replace f243 := (hk 243 (by decide)).trans f243
        replace f246 := (hk 246 (by decide)).trans f246
        have f247 := hv
        clear hk hv hz hf
        refine p_val (v := .bool true) ((wt_of rfl (by kernel_rfl) _ f243).trans rfl) rfl (by simp only [execOp, ev_con, ev_of f246, ev_of f247]; simp [go_sem]) (by rw [fz]; decide) ?_
        intro d33 hk hv hz hf
        replace fz := hz.trans fz
        replace fd := hf.trans fd
        replace f5 := (hk 5 (by decide)).trans f5
        replace f8 := (hk 8 (by decide)).trans f8
        replace f13 := (hk 13 (by decide)).trans f13
        replace f243 := (hk 243 (by decide)).trans f243
        clear f246 f247
        have f248 := hv
        clear hk hv hz hf
        refine p_val (v := .bool true) rfl rfl (by simp only [execOp, ev_con, ev_of f243, ev_of f248]; simp [go_sem]) (by rw [fz]; decide) ?_
        intro d34 hk hv hz hf
        replace fz := hz.trans fz
        replace fd := hf.trans fd
        replace f5 := (hk 5 (by decide)).trans f5
        replace f8 := (hk 8 (by decide)).trans f8
        replace f13 := (hk 13 (by decide)).trans f13
        clear f243 f248
        have f249 := hv
        clear hk hv hz hf
        refine p_val (v := .bool true) rfl rfl (by simp only [execOp, ev_con, ev_of f249]; simp [go_sem]) (by rw [fz]; decide) ?_
        intro d35 hk hv hz hf
        replace fz := hz.trans fz
        replace fd := hf.trans fd
        replace f5 := (hk 5 (by decide)).trans f5
        replace f8 := (hk 8 (by decide)).trans f8
        replace f13 := (hk 13 (by decide)).trans f13
        clear f249
        have f250 := hv
        clear hk hv hz hf
        refine p_val (v := .pointer (some ⟨zv, 3, none⟩)) ((wt_of rfl (by kernel_rfl) _ f250).trans rfl) rfl (x_fld (r := 3) rfl f5 (fun w => by kernel_rfl)) (by rw [fz]; decide) ?_
        intro d36 hk hv hz hf
        replace fz := hz.trans fz
        replace fd := hf.trans fd
        replace f5 := (hk 5 (by decide)).trans f5
        replace f8 := (hk 8 (by decide)).trans f8
        replace f13 := (hk 13 (by decide)).trans f13
        replace f250 := (hk 250 (by decide)).trans f250
        have f251 := hv
        clear hk hv hz hf
        refine p_val (v := .int .i64 2) ((wt_of rfl (by kernel_rfl) _ f250).trans rfl) rfl (p_get (v := .int .i64 2) rfl f251 hM.at3 rfl) (by rw [fz]; decide) ?_
        intro d37 hk hv hz hf
        replace fz := hz.trans fz
        replace fd := hf.trans fd
        replace f5 := (hk 5 (by decide)).trans f5
        replace f8 := (hk 8 (by decide)).trans f8
        replace f13 := (hk 13 (by decide)).trans f13
        replace f250 := (hk 250 (by decide)).trans f250
        clear f251
        have f252 := hv
        clear hk hv hz hf
        refine p_val (v := .bool false) ((wt_of rfl (by kernel_rfl) _ f250).trans rfl) rfl (by simp only [execOp, ev_con, ev_of f252]; simp [go_sem]) (by rw [fz]; decide) ?_
        intro d38 hk hv hz hf
        replace fz := hz.trans fz
        replace fd := hf.trans fd
        replace f5 := (hk 5 (by decide)).trans f5
        replace f8 := (hk 8 (by decide)).trans f8
        replace f13 := (hk 13 (by decide)).trans f13
        replace f250 := (hk 250 (by decide)).trans f250
        clear f252
        have f253 := hv
        clear hk hv hz hf
        refine p_val (v := .bool false) ((wt_of rfl (by kernel_rfl) _ f250).trans rfl) rfl (by simp only [execOp, ev_con, ev_of f253]; simp [go_sem]) (by rw [fz]; decide) ?_
        intro d39 hk hv hz hf
        replace fz := hz.trans fz
        replace fd := hf.trans fd
        replace f5 := (hk 5 (by decide)).trans f5
        replace f8 := (hk 8 (by decide)).trans f8
        replace f13 := (hk 13 (by decide)).trans f13
        replace f250 := (hk 250 (by decide)).trans f250
        clear f253
        have f254 := hv
        clear hk hv hz hf
        refine p_val (v := .pointer (some ⟨zv, 3, none⟩)) ((wt_of rfl (by kernel_rfl) _ f254).trans rfl) rfl (x_fld (r := 3) rfl f5 (fun w => by kernel_rfl)) (by rw [fz]; decide) ?_
        intro d40 hk hv hz hf
        replace fz := hz.trans fz
        replace fd := hf.trans fd
        replace f5 := (hk 5 (by decide)).trans f5
        replace f8 := (hk 8 (by decide)).trans f8
        replace f13 := (hk 13 (by decide)).trans f13
        replace f250 := (hk 250 (by decide)).trans f250
        replace f254 := (hk 254 (by decide)).trans f254
        have f255 := hv
        clear hk hv hz hf
        refine p_val (v := .int .i64 2) ((wt_of rfl (by kernel_rfl) _ f254).trans rfl) rfl (p_get (v := .int .i64 2) rfl f255 hM.at3 rfl) (by rw [fz]; decide) ?_
        intro d41 hk hv hz hf
        replace fz := hz.trans fz
        replace fd := hf.trans fd
        replace f5 := (hk 5 (by decide)).trans f5
        replace f8 := (hk 8 (by decide)).trans f8
        replace f13 := (hk 13 (by decide)).trans f13
        replace f250 := (hk 250 (by decide)).trans f250
        replace f254 := (hk 254 (by decide)).trans f254
        clear f255
        have f256 := hv
        clear hk hv hz hf
        refine p_val (v := .bool true) ((wt_of rfl (by kernel_rfl) _ f254).trans rfl) rfl (by simp only [execOp, ev_con, ev_of f256]; simp [go_sem]) (by rw [fz]; decide) ?_
        intro d42 hk hv hz hf
        replace fz := hz.trans fz
        replace fd := hf.trans fd
        replace f5 := (hk 5 (by decide)).trans f5
        replace f8 := (hk 8 (by decide)).trans f8
        replace f13 := (hk 13 (by decide)).trans f13
        replace f250 := (hk 250 (by decide)).trans f250
        replace f254 := (hk 254 (by decide)).trans f254
        clear f256
        have f257 := hv
        clear hk hv hz hf
        refine p_val (v := .bool true) ((wt_of rfl (by kernel_rfl) _ f250).trans rfl) rfl (by simp only [execOp, ev_con, ev_of f254, ev_of f257]; simp [go_sem]) (by rw [fz]; decide) ?_
        intro d43 hk hv hz hf
        replace fz := hz.trans fz
        replace fd := hf.trans fd
        replace f5 := (hk 5 (by decide)).trans f5
        replace f8 := (hk 8 (by decide)).trans f8
        replace f13 := (hk 13 (by decide)).trans f13
        replace f250 := (hk 250 (by decide)).trans f250
        clear f254 f257
        have f258 := hv
        clear hk hv hz hf
        refine p_val (v := .bool true) rfl rfl (by simp only [execOp, ev_con, ev_of f250, ev_of f258]; simp [go_sem]) (by rw [fz]; decide) ?_
        intro d44 hk hv hz hf
        replace fz := hz.trans fz
        replace fd := hf.trans fd
        replace f5 := (hk 5 (by decide)).trans f5
        replace f8 := (hk 8 (by decide)).trans f8
        replace f13 := (hk 13 (by decide)).trans f13
        clear f250 f258
        have f259 := hv
        clear hk hv hz hf
        refine p_val (v := .bool true) rfl rfl (by simp only [execOp, ev_con, ev_of f259]; simp [go_sem]) (by rw [fz]; decide) ?_
        intro d45 hk hv hz hf
        replace fz := hz.trans fz
        replace fd := hf.trans fd
        replace f5 := (hk 5 (by decide)).trans f5
        replace f8 := (hk 8 (by decide)).trans f8
        replace f13 := (hk 13 (by decide)).trans f13
        clear f259
        have f260 := hv
        clear hk hv hz hf
        refine p_val (v := .bool false) ((wt_of rfl (by kernel_rfl) _ f260).trans rfl) rfl (by simp only [execOp, ev_con, ev_of f13]; simp [go_sem]) (by rw [fz]; decide) ?_
        intro d46 hk hv hz hf
        replace fz := hz.trans fz
        replace fd := hf.trans fd
        replace f5 := (hk 5 (by decide)).trans f5
        replace f8 := (hk 8 (by decide)).trans f8
        replace f260 := (hk 260 (by decide)).trans f260
        clear f13
        have f261 := hv
        clear hk hv hz hf
        refine p_val (v := .bool true) ((wt_of rfl (by kernel_rfl) _ f260).trans rfl) rfl (by simp only [execOp, ev_con, ev_of f261]; simp [go_sem]) (by rw [fz]; decide) ?_
        intro d47 hk hv hz hf
        replace fz := hz.trans fz
        replace fd := hf.trans fd
        replace f5 := (hk 5 (by decide)).trans f5
        replace f8 := (hk 8 (by decide)).trans f8
        replace f260 := (hk 260 (by decide)).trans f260
        clear f261
        have f262 := hv
        clear hk hv hz hf
        refine p_val (v := .bool true) ((wt_of rfl (by kernel_rfl) _ f260).trans rfl) rfl (by simp only [execOp, ev_con, ev_of f262]; simp [go_sem]) (by rw [fz]; decide) ?_
        intro d48 hk hv hz hf
        replace fz := hz.trans fz
        replace fd := hf.trans fd
        replace f5 := (hk 5 (by decide)).trans f5
        replace f8 := (hk 8 (by decide)).trans f8
        replace f260 := (hk 260 (by decide)).trans f260
        clear f262
        have f263 := hv
        clear hk hv hz hf
        refine p_not ((wt_of rfl (by kernel_rfl) _ f263).trans rfl) rfl (by rw [fz]; decide) ?_
        intro d49 hk hv hz hf
        replace fz := hz.trans fz
        replace fd := hf.trans fd
        replace f8 := (hk 8 (by decide)).trans f8
        replace f260 := (hk 260 (by decide)).trans f260
        replace f263 := (hk 263 (by decide)).trans f263
        clear f5
        have f264 := hv
        clear hk hv hz hf
        refine p_not ((wt_of rfl (by kernel_rfl) _ f263).trans rfl) rfl (by rw [fz]; decide) ?_
        intro d50 hk hv hz hf
        replace fz := hz.trans fz
        replace fd := hf.trans fd
        replace f8 := (hk 8 (by decide)).trans f8
        replace f260 := (hk 260 (by decide)).trans f260
        replace f263 := (hk 263 (by decide)).trans f263
        clear f264
        have f265 := hv
        clear hk hv hz hf
        refine p_not ((wt_of rfl (by kernel_rfl) _ f263).trans rfl) rfl (by rw [fz]; decide) ?_
        intro d51 hk hv hz hf
        replace fz := hz.trans fz
        replace fd := hf.trans fd
        replace f260 := (hk 260 (by decide)).trans f260
        replace f263 := (hk 263 (by decide)).trans f263
        replace f265 := (hk 265 (by decide)).trans f265
        clear f8
        have f266 := hv
        clear hk hv hz hf
        refine p_not ((wt_of rfl (by kernel_rfl) _ f263).trans rfl) rfl (by rw [fz]; decide) ?_
        intro d52 hk hv hz hf
        replace fz := hz.trans fz
        replace fd := hf.trans fd
        replace f260 := (hk 260 (by decide)).trans f260
        replace f263 := (hk 263 (by decide)).trans f263
        replace f265 := (hk 265 (by decide)).trans f265
        clear f266
        have f267 := hv
        clear hk hv hz hf
        refine p_not ((wt_of rfl (by kernel_rfl) _ f263).trans rfl) rfl (by rw [fz]; decide) ?_
        intro d53 hk hv hz hf
        replace fz := hz.trans fz
        replace fd := hf.trans fd
        replace f260 := (hk 260 (by decide)).trans f260
        replace f263 := (hk 263 (by decide)).trans f263
        clear f265 f267
        have f268 := hv
        clear hk hv hz hf
        refine p_val (v := .bool true) ((wt_of rfl (by kernel_rfl) _ f260).trans rfl) rfl (by simp only [execOp, ev_con, ev_of f263, ev_of f268]; simp [go_sem]) (by rw [fz]; decide) ?_
        intro d54 hk hv hz hf
        replace fz := hz.trans fz
        replace fd := hf.trans fd
        replace f260 := (hk 260 (by decide)).trans f260
        clear f263 f268
        have f269 := hv
        clear hk hv hz hf
        refine p_val (v := .bool true) rfl rfl (by simp only [execOp, ev_con, ev_of f260, ev_of f269]; simp [go_sem]) (by rw [fz]; decide) ?_
        intro d55 hk hv hz hf
        replace fz := hz.trans fz
        replace fd := hf.trans fd
        clear f260 f269
        have f270 := hv
        clear hk hv hz hf
        refine p_val (v := .bool true) rfl rfl (by simp only [execOp, ev_con, ev_of f270]; simp [go_sem]) (by rw [fz]; decide) ?_
        intro d56 hk hv hz hf
        replace fz := hz.trans fz
        replace fd := hf.trans fd
        clear f270
        have f4 := hv
        clear hk hv hz hf
        go_step
        go_step
        go_step
        go_step
        exact bodyPost_ret (ret_t rfl f4) fd ⟨rfl, hM.below⟩
end Go.Proofs.Ytecknicmonhcaaa.bulkThirteen
