/- greet: what Tell answers. -/
import Derived.Test.YtonheibhbilhhaaGreI
import Derived.Test.YtonheibhbilhhaaGreK
import Derived.Test.YtonheibhbilhhaaGreBn
import Derived.Test.YtonheibhbilhhaaGreN
namespace Go.Proofs.Ytonheibhbilhhaa.greet
open Go Go.RowKit Go.PlainAid Go.Proofs.Ytonheibhbilhhaa.lane Go.Proofs.Ytonheibhbilhhaa.desc
set_option linter.unusedVariables false
set_option linter.unusedSimpArgs false
set_option maxRecDepth 100000

/-- what Tell tells -/
def TlP (g : Gr) (s : ByteArray) (e : Int) (w : World) (r : Ending) (w' : World) : Prop :=
  ∃ u' L', r = .returned (.tuple #[grV (tlG g s e) u', .int .i64 (nxE g)]) ∧ Oc w w' u' L' ∧ L'.map Prod.fst = (tlG g s e).c.fs ∧ Below w.heap.size w w'
theorem tl_no {g : Gr} {s : ByteArray} {e : Int} (h : ¬ nxE g = 0) : tlG g s e = g := by unfold tlG; rw [if_pos h]
set_option maxHeartbeats 8000000 in
theorem tell_any (hco : CoAll) (g : Gr) (uv : Value) (L : FL) (s : ByteArray) (e : Int) (w : World) (hc : Rc w uv g.c L) (hw : Wt g.c) (hm : s.size ≤ maxLen) :
    Calls Try.prog 14 #[grV g uv, .string s, .int .i64 e] w (TlP g s e w) := by
  have HCp : Hid (∀ u, Below w.heap.size w u → Calls Try.prog 27 #[ag (cfl g.c uv)] u fun e w' => ∃ vf D, e = .returned (ag (cfl g.c vf)) ∧ Oc u w' vf D ∧ D.map Prod.fst = g.c.fs ∧ Below u.heap.size u w') := fun u hu => copied_any g.c uv L u (hc.below hu) hw
  have HNx : Hid (∀ v u, Calls Try.prog 10 #[grV g v] u fun e w' => e = .returned (.tuple #[.string (nxT g), .int .i64 (nxE g)]) ∧ Below u.heap.size u w') := fun v u => next_any g v u
  have HMs : Hid (∀ v e u, v.oneCell' = true → nxE g = 0 → Calls Try.prog 28 #[grV g v, .int .i64 e] u fun r w' => r = .returned (grV (missG g e) v) ∧ Below u.heap.size u w') := fun v e u hv hn => missed_any g v e u ((okG_iff g).1 (nx_ok.1 hn).1).2.1 hv
  have HKe : Hid (∀ v u, v.oneCell' = true → nxE g = 0 → Calls Try.prog 29 #[grV g v, .string s] u (KeP g v s u)) := fun v u hv hn => keep_any hco g v s u (nx_ok.1 hn).1 (nx_ok.1 hn).2 hv hm
  have HSb : Hid (∀ (k : Gr) v u, k.st = g.st → nxE g = 0 → Calls Try.prog 30 #[grV k v] u fun r w' => r = .returned (.int .i64 (stepB k)) ∧ Below u.heap.size u w') := fun k v u hk hn => stepBehind_any k v u (by rw [hk]; exact ((okG_iff g).1 (nx_ok.1 hn).1).1)
  have hM := Mo.nil w
  clear hc hw hm hco
  go_enter Try.func14, Try.ntmps14
  repeat' (first | (go_big_may; first | (refine v_box rfl rfl rfl ?_; intro u zg hN; replace hM := hM.new hN; clear hN) | (refine v_alloc rfl zer_greeting rfl ?_; intro u za hN; replace hM := hM.new hN; clear hN) | (refine v_load rfl rfl row_config rfl hM.at1 (of_decide_eq_true rfl) (show _ = cfl g.c uv from rfl) ?_)) | go_values | go_skip | go_guarded | go_step | go_upon | (simp only [Int.not_lt, Int.not_le] at *; go_simp))
  refine (HCp.out _ hM.below).mono ?_
  rintro e1 u1 ⟨vf, D, rfl, ho, hD, hb⟩
  have h1 := ho.one
  replace hM := hM.take hb ho
  have HD : Hid (D.map Prod.fst = g.c.fs) := hD
  have H1 : Hid (vf.oneCell' = true) := h1
  clear ho hb HCp hD h1
  repeat' (first | (go_big_may; first | (refine v_store rfl rfl row_config rfl rfl hM.at1 (cfl_vs _ H1.out) (of_decide_eq_true rfl) (show _ = grl g vf from rfl) ?_; intro u hv hc; replace hM := hM.put1 hc hv; clear hv hc) | (refine v_load rfl rfl row_greeting rfl hM.at1 (Nat.le_refl _) (cut_all rfl) ?_)) | go_values | go_skip | go_guarded | go_step | go_upon | (simp only [Int.not_lt, Int.not_le] at *; go_simp))
  refine (HNx.out _ _).mono ?_
  rintro e2 u2 ⟨rfl, hb⟩
  replace hM := hM.call hb
  clear hb HNx
  by_cases hn : nxE g = 0
  case neg =>
    have e1 : (nxE g != 0) = true := by simpa using hn
    have HT : Hid (tlG g s e = g) := tl_no hn
    clear hn
    repeat' (first | (go_big_may; first | (refine v_load rfl rfl row_greeting rfl hM.at1 (Nat.le_refl _) (cut_all rfl) ?_) | (refine v_fill rfl rfl row_greeting rfl rfl hM.at0 (grl_vs _ H1.out) rfl ?_; intro u hv hc; replace hM := hM.put0 hc hv; clear hv hc)) | go_values | go_skip | go_guarded | go_step | go_upon | (simp only [Int.not_lt, Int.not_le] at *; go_simp))
    exact bodyPost_ret (ret_2 rfl rfl (ld_var row_greeting hM.at0 rfl) rfl) rfl ⟨vf, D, by rw [HT.out]; rfl, hM.own, by rw [HT.out]; exact HD.out, hM.below⟩
  have HN : Hid (nxE g = 0) := hn
  have hne : (nxE g != 0) = false := by simpa using hn
  clear hn
  by_cases he : e = 0
  case neg =>
    have e1 : (e != 0) = true := by simpa using he
    have HT : Hid (tlG g s e = missG g e) := tl_miss HN.out he
    clear he
    repeat' (first | (go_big_may; first | (refine v_load rfl rfl row_greeting rfl hM.at1 (Nat.le_refl _) (cut_all rfl) ?_)) | go_values | go_skip | go_guarded | go_step | go_upon | (simp only [Int.not_lt, Int.not_le] at *; go_simp))
    refine (HMs.out _ _ _ H1.out HN.out).mono ?_
    rintro e3 u3 ⟨rfl, hb⟩
    replace hM := hM.call hb
    clear hb
    repeat' (first | (go_big_may; first | (refine v_fill rfl rfl row_greeting rfl rfl hM.at0 (grl_vs _ H1.out) rfl ?_; intro u hv hc; replace hM := hM.put0 hc hv; clear hv hc)) | go_values | go_skip | go_guarded | go_step | go_upon | (simp only [Int.not_lt, Int.not_le] at *; go_simp))
    exact bodyPost_ret (ret_2 rfl rfl (ld_var row_greeting hM.at0 rfl) rfl) rfl ⟨vf, D, by rw [HT.out, HN.out]; rfl, hM.own, by rw [HT.out, miss_c]; exact HD.out, hM.below⟩
  subst he
  repeat' (first | (go_big_may; first | (refine v_load rfl rfl row_greeting rfl hM.at1 (Nat.le_refl _) (cut_all rfl) ?_)) | go_values | go_skip | go_guarded | go_step | go_upon | (simp only [Int.not_lt, Int.not_le] at *; go_simp))
  refine (HKe.out _ _ H1.out HN.out).mono ?_
  rintro e3 u3 ⟨k, u', vf2, L2, rfl, hu', hk, ho2, hb⟩
  cases hq : keepV g s with
  | none =>
    have HT : Hid (tlG g s 0 = missG g 4) := tl_none HN.out hq
    have HU : Hid (u'.oneCell' = true) := hu'
    replace hM := hM.call hb
    clear hk ho2 hb hu' hq
    repeat' (first | (go_big_may; first | (refine v_alloc rfl zer_greeting rfl ?_; intro u zk hN; replace hM := hM.new hN; clear hN) | (refine v_fill rfl rfl row_greeting rfl rfl hM.at0 (grl_vs _ HU.out) rfl ?_; intro u hv hc; replace hM := hM.put0 hc hv; clear hv hc) | (refine v_load rfl rfl row_greeting rfl hM.at2 (Nat.le_refl _) (cut_all rfl) ?_)) | go_values | go_skip | go_guarded | go_step | go_upon | (simp only [Int.not_lt, Int.not_le] at *; go_simp))
    refine (HMs.out _ _ _ H1.out HN.out).mono ?_
    rintro e4 u4 ⟨rfl, hb⟩
    replace hM := hM.call hb
    clear hb
    repeat' (first | (go_big_may; first | (refine v_fill rfl rfl row_greeting rfl rfl hM.at1 (grl_vs _ H1.out) rfl ?_; intro u hv hc; replace hM := hM.put1 hc hv; clear hv hc)) | go_values | go_skip | go_guarded | go_step | go_upon | (simp only [Int.not_lt, Int.not_le] at *; go_simp))
    exact bodyPost_ret (ret_2 rfl rfl (ld_var row_greeting hM.at1 rfl) rfl) rfl ⟨vf, D, by rw [HT.out, HN.out]; rfl, hM.own, by rw [HT.out, miss_c]; exact HD.out, hM.below⟩
  | some k' =>
    have HT : Hid (tlG g s 0 = { k' with tr := 0, st := stepB k' }) := tl_some HN.out hq
    obtain ⟨rfl, hcase⟩ := hk k' hq
    have HKs : Hid (k.st = g.st) := (keep_parts hq).1
    have HU : Hid (u'.oneCell' = true) := hu'
    have hX : ∃ vf3 L3, Mo w u3 [(za, 29, grl noGr nilS), (zg, 29, grl g vf)] vf3 L3 ∧ u' = vf3 ∧ L3.map Prod.fst = k.c.fs := by
      rcases hcase with ⟨rfl, h3⟩ | ⟨rfl, h3⟩
      · exact ⟨u', D, hM.call hb, rfl, by rw [h3]; exact HD.out⟩
      · exact ⟨u', L2, hM.take hb ho2, rfl, h3⟩
    obtain ⟨vf3, L3, hM3, rfl, h3⟩ := hX
    have HL3 : Hid (L3.map Prod.fst = k.c.fs) := h3
    clear hM
    have hM := hM3
    clear hM3 hk ho2 hb hu' hq hcase h3
    repeat' (first | (go_big_may; first | (refine v_alloc rfl zer_greeting rfl ?_; intro u zk hN; replace hM := hM.new hN; clear hN) | (refine v_fill rfl rfl row_greeting rfl rfl hM.at0 (grl_vs _ HU.out) rfl ?_; intro u hv hc; replace hM := hM.put0 hc hv; clear hv hc) | (refine v_load rfl rfl row_greeting rfl hM.at0 (Nat.le_refl _) (cut_all rfl) ?_)) | go_values | go_skip | go_guarded | go_step | go_upon | (simp only [Int.not_lt, Int.not_le] at *; go_simp))
    refine (HSb.out _ _ _ HKs.out HN.out).mono ?_
    rintro e4 u4 ⟨rfl, hb⟩
    replace hM := hM.call hb
    clear hb
    repeat' (first | (go_big_may; first | (refine v_putx rfl rfl (one_int 0) rfl rfl hM.at0 (of_decide_eq_true rfl) (show _ = grl { k with tr := 0 } u' from rfl) ?_; intro u hv hc; replace hM := hM.put0 hc hv; clear hv hc) | (refine v_putx rfl rfl (one_int (stepB k)) rfl rfl hM.at0 (of_decide_eq_true rfl) (show _ = grl { k with tr := 0, st := stepB k } u' from rfl) ?_; intro u hv hc; replace hM := hM.put0 hc hv; clear hv hc) | (refine v_load rfl rfl row_greeting rfl hM.at0 (Nat.le_refl _) (cut_all rfl) ?_) | (refine v_fill rfl rfl row_greeting rfl rfl hM.at1 (grl_vs _ HU.out) rfl ?_; intro u hv hc; replace hM := hM.put1 hc hv; clear hv hc)) | go_values | go_skip | go_guarded | go_step | go_upon | (simp only [Int.not_lt, Int.not_le] at *; go_simp))
    exact bodyPost_ret (ret_2 rfl rfl (ld_var row_greeting hM.at1 rfl) rfl) rfl ⟨u', L3, by rw [HT.out, HN.out]; rfl, hM.own, by rw [HT.out]; exact HL3.out, hM.below⟩
end Go.Proofs.Ytonheibhbilhhaa.greet
