/- host: the commands that were taken; a deed that is a halt. -/
import Derived.Test.YthjmcopknkemnaaHstL
namespace Go.Proofs.Ythjmcopknkemnaa.host
open Go Go.RowKit
open Go.Proofs.Ythjmcopknkemnaa
open Go.Proofs.Ythjmcopknkemnaa.slots (Row row_board row_cmd Chg ag fl Wf bsq balloc bx_lt)
open Go.Proofs.Ythjmcopknkemnaa.ring (Ces Rcs rgV rgW Rg Ce ceV named keep below_drewN)
set_option linter.unusedVariables false
set_option linter.unusedSimpArgs false
set_option maxRecDepth 100000

theorem el_cmd : El 75 23 4 := el_of (b := 32) (z := agv (ivs [0, 0, 0, 0])) Try.underlying75 (by kernel_rfl) rfl (by omega) (by omega) (by omega) (by decide)
def cm4 (x : Cm) : List Int := [x.1, x.2.1, x.2.2.1, x.2.2.2]
theorem wk_c {p q : Nat} : ∀ (n : Nat) (s : Ps), (wkS p q n s).C = s.C
  | 0, s => rfl
  | n + 1, s => by
    unfold wkS
    split
    · rw [wk_c n (wsV p s)]; rfl
    · rfl
theorem wr_c {p q : Nat} (s : Ps) (n : Int) : (wrS p q s n).C = s.C := by unfold wrS; split; exact wk_c _ _; rfl
theorem rs_c (s : Ps) : (rsV s).C = s.C := by unfold rsV; split <;> rfl
theorem stp_c {p q : Nat} (s : Ps) (d : Dd) (h : d.1 ≠ 1) : (stp p q s d).C = s.C ∧ tld p s d = [] := by
  unfold stp tld
  rw [if_neg h, if_neg h]
  refine ⟨?_, rfl⟩
  split
  · exact wr_c s _
  · split
    · exact rs_c s
    · split <;> rfl
theorem sb_c {p : Nat} (s : Ps) (x : Cm) : (sbT p s x = 0 → (sbS p s x).C = s.C ++ [x]) ∧ (sbT p s x ≠ 0 → (sbS p s x).C = s.C) := by
  unfold sbT sbS
  cases h1 : pkB x
  · simp
  · cases h2 : rmB p s <;> simp
/-- a number of a slice is read -/
theorem v_getR {ops : Array Oper} {rest : List Oper} {o : Oper} {a : Act} {w : World} {Q : Exit → Act → World → Prop} (hgd : Region.wanted o (yielded ops a.tmps) = true) {t : TypeId} {x : Operand} (ho : o.op = .load t x) (ht : t = 3 ∨ t = 25)
    {B j : Nat} {v : Value} (hx : a.eval x = .pointer (some ⟨B, j, none⟩)) (hc : w.cell? ⟨B, j, none⟩ = some v)
    (h : wpList Try.prog ops Q rest (a.put o.dst v) w) : wpList Try.prog ops Q (o :: rest) a w := by
  refine wpList_step fun K hK' => ?_
  rw [if_pos hgd]
  have hs : (Instr.loadAt t (.pointer (some ⟨B, j, none⟩))).run Try.prog w = .ok v w := by
    rcases ht with rfl | rfl <;> simp [go_sem, hc]
  unfold Oper.wp execOp
  simp only [ho, hx, Sem.run_bind, hs, Result.andThen_ok, Sem.run_pure]
  exact hK' _ _ h
/-- where taken is in its rounds -/
structure Tki (w wr : World) (p q : Nat) (T : List Dd) (k j : Nat) (v : Value) (s : Ps) (old : List Int) : Prop where
  mo : Mo w wr [] [] [(23, 4, v, s.C.map cm4)]
  e1 : pls p q s (T.drop k) = pls p q ps0 T
  e2 : old ++ plt p q s (T.drop k) = plt p q ps0 T
  e3 : old.length = j ∧ j ≤ k ∧ s.C.length ≤ k
theorem one_at {l : List Int} {j : Nat} {x : Int} (h : l[j]? = some x) : (l.map one1)[j]? = some [x] := by rw [List.getElem?_map, h]; rfl
set_option maxHeartbeats 8000000 in
theorem taken_any (p q : Nat) (v tv : Value) (T : List Dd) (w : World) (hv : Rds 8 w v (T.map ddL)) (ht : Rds 1 w tv ((plt p q ps0 T).map one1)) (hT : T.length ≤ 200) : Calls Try.prog 29 #[v, tv] w fun r w' => ∃ lv, r = .returned (.tuple #[lv, .bool true]) ∧ Rds 4 w' lv ((pls p q ps0 T).C.map cm4) ∧ Below w.heap.size w w' := by
  obtain ⟨a, cc, rfl, hc1, hc2⟩ := hv.form
  obtain ⟨a2, cc2, rfl, hd1, hd2⟩ := ht.form
  rw [List.length_map] at hc1 hv hd1 ht ⊢
  rw [List.length_map]
  obtain ⟨n, hn⟩ : ∃ n, T.length = n := ⟨_, rfl⟩
  obtain ⟨t, hlt⟩ : ∃ t, (plt p q ps0 T).length = t := ⟨_, rfl⟩
  have htn : t ≤ n := by rw [← hlt, ← hn]; exact plt_len T ps0
  have HTn : Hid (T.length = n) := hn
  have HTt : Hid ((plt p q ps0 T).length = t) := hlt
  rw [hn] at hv hc1 hT ⊢
  rw [hlt] at ht hd1 ⊢
  have HR : Hid (Rds 8 w (.slice a n cc) (T.map ddL)) := hv
  have HT : Hid (Rds 1 w (.slice a2 t cc2) ((plt p q ps0 T).map one1)) := ht
  have hmx : n ≤ 9223372036854775807 := by unfold maxLen at hc2; omega
  have hM := (Mo.nil w).row 23 4 (by decide)
  have HP0 : Hid (Tki w w p q T 0 0 (.slice none 0 0) ps0 []) := ⟨hM, rfl, rfl, by simp [ps0]⟩
  clear hv ht hn hlt hM
  go_enter Try.func29, Try.ntmps29
  go_wp2
  go_loopw [6, 7, 12] (fun ov jv i wr => ∃ k j : Nat, k ≤ n ∧ j ≤ t ∧ i = .int .i64 (k : Int) ∧ jv = .int .i64 (j : Int) ∧ Hid (∃ s old, Tki w wr p q T k j ov s old)) (fun _ _ i _ => n - (intOf i).toNat)
  case atStart => exact ⟨0, 0, Nat.zero_le _, Nat.zero_le _, rfl, rfl, ps0, [], HP0.out⟩
  case round =>
    obtain ⟨k, j, hk, hj, rfl, rfl, HA⟩ := hrel
    obtain ⟨s, old, hP⟩ := HA.out
    obtain ⟨hM, he1, he2, he3⟩ := hP
    have HE3 : Hid (old.length = j ∧ j ≤ k ∧ s.C.length ≤ k) := he3
    by_cases hlt : ¬ k < n
    · have HX : Hid (s = pls p q ps0 T ∧ j = t) := by
        rw [List.drop_eq_nil_of_le (by have := HTn.out; omega)] at he1 he2
        refine ⟨he1, ?_⟩
        have := congrArg List.length he2
        rw [List.length_append, HTt.out] at this
        simp [plt] at this
        omega
      have e3 : decide ((k : Int) < (n : Int)) = false := by simp; omega
      have e4 : ((j : Int) == (t : Int)) = true := by have := HX.out.2; simp; omega
      clear he1 he2 he3 HP0 HA
      repeat' (first | go_values | go_skip | go_guarded | go_step | go_upon | (simp only [Int.not_lt, Int.not_le] at *; go_simp))
      go_ret2
      refine ⟨u6, rfl, ?_, hM.below⟩
      rw [← HX.out.1]
      exact (hM.ow (23, 4, u6, s.C.map cm4) (by simp)).rds
    have hlt : k < n := by omega
    have e3 : decide ((k : Int) < (n : Int)) = true := by simp; omega
    obtain ⟨x, hx⟩ : ∃ x, T[k]? = some x := ⟨T[k]'(by have := HTn.out; omega), List.getElem?_eq_getElem (by have := HTn.out; omega)⟩
    obtain ⟨g, off, rfl, hrg⟩ := HR.out.at k (ddL x) (by rw [List.getElem?_map, hx]; rfl)
    rw [pls_at hx] at he1
    rw [plt_at hx] at he2
    have HE1 : Hid (pls p q (stp p q s x) (T.drop (k + 1)) = pls p q ps0 T) := he1
    have HE2 : Hid (old ++ (tld p s x ++ plt p q (stp p q s x) (T.drop (k + 1))) = plt p q ps0 T) := he2
    have HRG : Hid (wr.rangeAt g (off + k * 8) (ivs (ddL x))) := hrg wr hM.below
    have HDL : Hid ((ivs (ddL x)).length = 8) := rfl
    have HDV : Hid (Vs (ivs (ddL x)) 8) := ivs_vs rfl
    have HD0 : Hid ((ivs [0, 0, 0, 0, 0, 0, 0, 0]).length = 8) := rfl
    have Q0 : Hid ((ivs (ddL x))[0]? = some (.int .i64 x.1)) := rfl
    have HLC : Hid (1 + 4 ≤ (ivs (ddL x)).length) := by show 1 + 4 ≤ 8; omega
    have HAC : Hid (cv (ivs (ddL x)) 1 4 = ivs (cm4 x.2.1)) := rfl
    have HC4 : Hid ((agv (ivs (cm4 x.2.1))).cells = (ivs (cm4 x.2.1)).toArray) := rfl
    have HCL : Hid ((ivs (cm4 x.2.1)).length = 4) := rfl
    have HML : Hid ((s.C.map cm4).length ≤ 100000) := by show _ ≤ _; rw [List.length_map]; omega
    have HNO : Hid (x.1 ≠ 1 → (stp p q s x).C = s.C ∧ tld p s x = []) := fun h => stp_c s x h
    have HYE : Hid (x.1 = 1 → stp p q s x = sbS p s x.2.1 ∧ tld p s x = [sbT p s x.2.1]) := fun h => by unfold stp tld; rw [if_pos h, if_pos h]; exact ⟨rfl, rfl⟩
    have HSC : Hid ((sbT p s x.2.1 = 0 → (sbS p s x.2.1).C = s.C ++ [x.2.1]) ∧ (sbT p s x.2.1 ≠ 0 → (sbS p s x.2.1).C = s.C)) := sb_c s x.2.1
    clear he1 he2 he3 hx hrg HP0 HA
    obtain ⟨kd, cm, rest⟩ := x
    simp only at Q0 HAC HC4 HCL HNO HYE HSC
    generalize hdd : ivs (ddL (kd, cm, rest)) = DD at *
    clear hdd
    by_cases c1 : kd = 1
    · subst c1
      obtain ⟨y1, y2⟩ := HYE.out rfl
      have HS1 : Hid (stp p q s (1, cm, rest) = sbS p s cm) := y1
      have HT1 : Hid (tld p s (1, cm, rest) = [sbT p s cm]) := y2
      have htx : (plt p q ps0 T)[j]? = some (sbT p s cm) := by
        rw [← HE2.out, HT1.out, List.getElem?_append_right (by have := HE3.out.1; omega), HE3.out.1, Nat.sub_self]
        rfl
      have hjt : j < t := by have := (List.getElem?_eq_some_iff.1 htx).1; have := HTt.out; omega
      obtain ⟨g2, off2, rfl, hrg2⟩ := HT.out.at j [sbT p s cm] (one_at htx)
      have HCE : Hid (∀ W, Below w.heap.size w W → W.cell? ⟨g2, off2 + j, none⟩ = some (.int .i64 (sbT p s cm))) := fun W hW => by have := hrg2 W hW 0 _ rfl; rw [Nat.mul_one] at this; exact this
      have e5 : decide ((t : Int) ≤ (j : Int)) = false := by simp; omega
      have hE2 : old ++ [sbT p s cm] ++ plt p q (sbS p s cm) (T.drop (k + 1)) = plt p q ps0 T := by
        have := HE2.out
        rw [HT1.out, HS1.out] at this
        rw [List.append_assoc]
        exact this
      have HE2' : Hid (old ++ [sbT p s cm] ++ plt p q (sbS p s cm) (T.drop (k + 1)) = plt p q ps0 T) := hE2
      have HE1' : Hid (pls p q (sbS p s cm) (T.drop (k + 1)) = pls p q ps0 T) := by have := HE1.out; rw [HS1.out] at this; exact this
      clear y1 y2 htx hrg2 hE2 HE1 HE2 HS1 HT1 HYE HNO
      generalize hS : sbS p s cm = S' at *
      generalize sbT p s cm = tx at *
      clear hS
      by_cases h0 : tx = 0
      · subst h0
        have HC' : Hid (S'.C = s.C ++ [cm]) := HSC.out.1 (by first | rfl | trivial)
        clear HSC
        repeat' (first | (go_big_may; first | (refine v_ldR rfl rfl row_deed rfl HRG.out HDL.out ?_) | (refine v_alloc rfl zer_deed rfl ?_; intro u xd hN; replace hM := hM.new hN (by decide); clear hN) | (refine v_fill rfl rfl row_deed rfl rfl hM.at0 HDV.out HD0.out ?_; intro u hv hc; replace hM := hM.put0 hc hv; clear hv hc) | (refine v_get rfl rfl (.inl rfl) rfl hM.at0 Q0.out ?_) | (refine v_getR rfl rfl (.inr rfl) rfl (HCE.out _ hM.below) ?_) | (refine v_load rfl rfl row_cmd rfl hM.at0 HLC.out HAC.out ?_) | (refine v_bs rfl rfl el_cmd rfl HC4.out HCL.out ?_; intro u4 g4 hb4 hc4; replace hM := hM.call hb4; clear hb4) | (refine v_appO rfl rfl el_cmd [] rfl rfl hM hc4 rfl HML.out ?_; intro u5 ov2 hM2; replace hM := hM2; clear hM2 hc4)) | go_values | go_skip | go_guarded | go_step | go_upon | (simp only [Int.not_lt, Int.not_le] at *; go_simp))
        go_roundw
        case rel =>
          refine ⟨k + 1, j + 1, by omega, by omega, by go_num, by go_num, S', old ++ [0], ?_, HE1'.out, HE2'.out, ?_⟩
          · rw [HC'.out, List.map_append]
            exact hM.sub (List.nil_sublist _) (by simp)
          · have := HE3.out
            rw [HC'.out, List.length_append, List.length_append, List.length_singleton, List.length_singleton]
            omega
        case measure => simp [intOf]; omega
      · have HC' : Hid (S'.C = s.C) := HSC.out.2 h0
        have e6 : (tx == 0) = false := by simpa using h0
        clear HSC h0
        repeat' (first | (go_big_may; first | (refine v_ldR rfl rfl row_deed rfl HRG.out HDL.out ?_) | (refine v_alloc rfl zer_deed rfl ?_; intro u xd hN; replace hM := hM.new hN (by decide); clear hN) | (refine v_fill rfl rfl row_deed rfl rfl hM.at0 HDV.out HD0.out ?_; intro u hv hc; replace hM := hM.put0 hc hv; clear hv hc) | (refine v_get rfl rfl (.inl rfl) rfl hM.at0 Q0.out ?_) | (refine v_getR rfl rfl (.inr rfl) rfl (HCE.out _ hM.below) ?_)) | go_values | go_skip | go_guarded | go_step | go_upon | (simp only [Int.not_lt, Int.not_le] at *; go_simp))
        go_roundw
        case rel =>
          refine ⟨k + 1, j + 1, by omega, by omega, by go_num, by go_num, S', old ++ [tx], ?_, HE1'.out, HE2'.out, ?_⟩
          · rw [HC'.out]
            exact hM.sub (List.nil_sublist _) (by simp)
          · have := HE3.out
            rw [HC'.out, List.length_append, List.length_singleton]
            omega
        case measure => simp [intOf]; omega
    · have e7 : (kd != 1) = true := by simpa using c1
      obtain ⟨y1, y2⟩ := HNO.out c1
      have HE1' : Hid (pls p q (stp p q s (kd, cm, rest)) (T.drop (k + 1)) = pls p q ps0 T) := HE1.out
      have HE2' : Hid (old ++ plt p q (stp p q s (kd, cm, rest)) (T.drop (k + 1)) = plt p q ps0 T) := by have := HE2.out; rw [y2] at this; exact this
      have HC' : Hid ((stp p q s (kd, cm, rest)).C = s.C) := y1
      generalize hS : stp p q s (kd, cm, rest) = S' at *
      clear hS y1 y2 c1 HE1 HE2 HYE HNO HSC
      repeat' (first | (go_big_may; first | (refine v_ldR rfl rfl row_deed rfl HRG.out HDL.out ?_) | (refine v_alloc rfl zer_deed rfl ?_; intro u xd hN; replace hM := hM.new hN (by decide); clear hN) | (refine v_fill rfl rfl row_deed rfl rfl hM.at0 HDV.out HD0.out ?_; intro u hv hc; replace hM := hM.put0 hc hv; clear hv hc) | (refine v_get rfl rfl (.inl rfl) rfl hM.at0 Q0.out ?_)) | go_values | go_skip | go_guarded | go_step | go_upon | (simp only [Int.not_lt, Int.not_le] at *; go_simp))
      go_roundw
      case rel =>
        refine ⟨k + 1, j, by omega, by omega, by go_num, rfl, S', old, ?_, HE1'.out, HE2'.out, ?_⟩
        · rw [HC'.out]
          exact hM.sub (List.nil_sublist _) (by simp)
        · have := HE3.out
          rw [HC'.out]
          omega
      case measure => simp [intOf]; omega
end Go.Proofs.Ythjmcopknkemnaa.host
