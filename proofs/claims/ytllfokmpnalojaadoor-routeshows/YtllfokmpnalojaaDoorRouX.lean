/- route: what plugref's TextPath answers: just what Read does. -/
import Derived.Test.YtllfokmpnalojaaDoorRouW
namespace Go.Proofs.YtllfokmpnalojaaDoor.route
open Go Go.RowKit
set_option linter.unusedVariables false
set_option linter.unusedSimpArgs false
set_option maxRecDepth 100000

/-- the last d of the fifteen ports whose text this is -/
def wdR : Nat → ByteArray → List Int
  | 0, _ => []
  | d + 1, x => (if dgt ((15 - d : Nat) : Int) = x then [((15 - d : Nat) : Int)] else []) ++ wdR d x
theorem wdR_len : ∀ (d : Nat) (x : ByteArray), (wdR d x).length ≤ d
  | 0, _ => by simp [wdR]
  | d + 1, x => by
    have := wdR_len d x
    simp only [wdR, List.length_append]
    split
    · simp; omega
    · simp; omega
theorem dgt_cd (p : Int) : (dgt p).data.toList = cd p := rfl
theorem dgt_inj {p q : Int} (h1 : 1 ≤ p) (h2 : p ≤ 15) (h3 : 1 ≤ q) (h4 : q ≤ 15) (h : dgt p = dgt q) : p = q := cd_inj h1 h2 h3 h4 (by rw [← dgt_cd, h, dgt_cd])
theorem wd_low : ∀ (d : Nat) (p : Int), 1 ≤ p → p ≤ 15 → d ≤ 15 → p + d < 16 → wdR d (dgt p) = []
  | 0, _, _, _, _, _ => rfl
  | d + 1, p, h1, h2, h3, h4 => by
    have : ¬ dgt ((15 - d : Nat) : Int) = dgt p := fun e => by
      have := dgt_inj (p := ((15 - d : Nat) : Int)) (q := p) (by omega) (by omega) h1 h2 e
      omega
    rw [wdR, if_neg this, wd_low d p h1 h2 (by omega) (by omega)]
    rfl
theorem wd_at : ∀ (d : Nat) (p : Int), 1 ≤ p → p ≤ 15 → d ≤ 15 → 16 ≤ p + d → wdR d (dgt p) = [p]
  | 0, _, _, _, _, _ => by omega
  | d + 1, p, h1, h2, h3, h4 => by
    by_cases hp : ((15 - d : Nat) : Int) = p
    · rw [wdR, hp, if_pos rfl, wd_low d p h1 h2 (by omega) (by omega)]
      rfl
    · have : ¬ dgt ((15 - d : Nat) : Int) = dgt p := fun e => hp (dgt_inj (by omega) (by omega) h1 h2 e)
      rw [wdR, if_neg this, wd_at d p h1 h2 (by omega) (by omega)]
      rfl
def tpOf (s : ByteArray) : List Int := (spB (Lib.countByte s.data.toList 46) s).flatMap (wdR 15)
theorem count_txt : ∀ (P : List Int), (∀ p ∈ P, 1 ≤ p ∧ p ≤ 15) → P ≠ [] → (txtL P).count 46 + 1 = P.length
  | [], _, h => absurd rfl h
  | [p], h, _ => by
    rw [txt_one, List.count_eq_zero_of_not_mem (cd_dot (h p (by simp)).1 (h p (by simp)).2)]
    rfl
  | p :: q :: P, h, _ => by
    have := count_txt (q :: P) (fun r hr => h r (List.mem_cons_of_mem _ hr)) (by simp)
    rw [txt_more, List.count_append, List.count_eq_zero_of_not_mem (cd_dot (h p (by simp)).1 (h p (by simp)).2), List.count_cons_self]
    simp only [List.length_cons] at this ⊢
    omega
theorem parts_is {X : List ByteArray} {P : List Int} (h : X.map (·.data.toList) = P.map cd) : X = P.map dgt := by
  have e : X.map (fun x => (⟨x.data.toList.toArray⟩ : ByteArray)) = X := by
    conv => rhs; rw [← List.map_id X]
    exact List.map_congr_left fun x _ => ba_ext (by simp)
  have e2 : X.map (fun x => (⟨x.data.toList.toArray⟩ : ByteArray)) = (X.map (·.data.toList)).map (fun l => (⟨l.toArray⟩ : ByteArray)) := by rw [List.map_map]; rfl
  rw [← e, e2, h, List.map_map]
  rfl
theorem flat_dgt : ∀ (P : List Int), (∀ p ∈ P, 1 ≤ p ∧ p ≤ 15) → (P.map dgt).flatMap (wdR 15) = P
  | [], _ => rfl
  | p :: P, h => by
    rw [List.map_cons, List.flatMap_cons, wd_at 15 p (h p (by simp)).1 (h p (by simp)).2 (by omega) (by have := (h p (by simp)).1; omega), flat_dgt P (fun r hr => h r (List.mem_cons_of_mem _ hr))]
    rfl
theorem tp_txt {P : List Int} (h : chk P = 0) : tpOf (txt P) = P := by
  obtain ⟨h1, h6, hP⟩ := chk_ok h
  have hc := count_txt P hP (chk_ne h)
  have hs := sp_txt P hP (chk_ne h) (txt P) (Lib.countByte (txt P).data.toList 46) rfl (by show P.length ≤ (txtL P).count 46 + 1; omega)
  unfold tpOf
  rw [parts_is hs]
  exact flat_dgt P hP
/-- what TextPath answers -/
def rtC (s : ByteArray) : Int := if s.size ≤ 20 ∧ chk (tpOf s) = 0 ∧ txt (tpOf s) = s then 0 else 4
def rtL (s : ByteArray) : List Int := if s.size ≤ 20 ∧ chk (tpOf s) = 0 ∧ txt (tpOf s) = s then tpOf s else []
theorem rt_rd (s : ByteArray) : rtC s = rdC s ∧ rtL s = rdL s := by
  by_cases h : rdC s = 0
  · obtain ⟨h1, h2⟩ := rd_ok h
    have e : tpOf s = rdL s := by
      have := tp_txt h1
      rw [h2] at this
      exact this
    have hs := txt_size h1
    rw [h2] at hs
    have hc : s.size ≤ 20 ∧ chk (tpOf s) = 0 ∧ txt (tpOf s) = s := ⟨by omega, by rw [e]; exact h1, by rw [e]; exact h2⟩
    unfold rtC rtL
    rw [if_pos hc, if_pos hc]
    exact ⟨h.symm, e⟩
  · have hn : ¬ (s.size ≤ 20 ∧ chk (tpOf s) = 0 ∧ txt (tpOf s) = s) := fun q => by
      have := (rd_txt q.2.1).1
      rw [q.2.2] at this
      exact h this
    unfold rtC rtL
    rw [if_neg hn, if_neg hn, rd_no h]
    refine ⟨?_, rfl⟩
    unfold rdC at h ⊢
    split
    · rename_i q; rw [if_pos q] at h; exact absurd rfl h
    · rfl
theorem flat_len : ∀ (X : List ByteArray), (X.flatMap (wdR 15)).length ≤ 15 * X.length
  | [] => by simp
  | x :: X => by
    have := flat_len X
    have h2 := wdR_len 15 x
    rw [List.flatMap_cons, List.length_append, List.length_cons]
    omega
set_option maxHeartbeats 8000000 in
theorem textPath_any (s : ByteArray) (w : World) (hs : s.size ≤ 140737488351232) : Calls Tryd.prog 10 #[.string s] w fun e w' => ∃ v, e = .returned (.tuple #[v, .int .i64 (rtC s)]) ∧ Iw w' w.heap.size v (rtL s) ∧ Below w.heap.size w w' := by
  unfold rtC rtL
  by_cases h20 : ¬ s.size ≤ 20
  · rw [if_neg (fun q => h20 q.1), if_neg (fun q => h20 q.1)]
    have h21 : 20 < s.size := by omega
    clear h20
    go_enter Tryd.func10, Tryd.ntmps10
    go_wp2
    go_ret2
    exact ⟨_, rfl, Iw.nil _ _, Below.refl _ _⟩
  have h20 : s.size ≤ 20 := by omega
  have HG : Hid (Calls Tryd.prog 26 #[.string s, .string ⟨#[46]⟩] w fun e w' => ∃ v, e = .returned v ∧ Rts w' v (spB (Lib.countByte s.data.toList 46) s) ∧ Below w.heap.size w w') := split_any s w (by omega)
  obtain ⟨L, hL⟩ : ∃ L, tpOf s = L := ⟨_, rfl⟩
  obtain ⟨X, hX⟩ : ∃ X, spB (Lib.countByte s.data.toList 46) s = X := ⟨_, rfl⟩
  have hLX : X.flatMap (wdR 15) = L := by rw [← hX, ← hL]; rfl
  have hXl : X.length ≤ 21 := by
    have h1 := (spB_len (Lib.countByte s.data.toList 46) s).2
    have h2 : Lib.countByte s.data.toList 46 ≤ s.size := by rw [size_list]; exact List.count_le_length
    rw [hX] at h1
    omega
  have hLl : L.length ≤ 1000 := by have := flat_len X; rw [hLX] at this; omega
  rw [hL]
  rw [hX] at HG
  obtain ⟨C, hC⟩ : ∃ C : Int, (if s.size ≤ 20 ∧ chk L = 0 ∧ txt L = s then 0 else 4) = C := ⟨_, rfl⟩
  obtain ⟨R, hR⟩ : ∃ R, (if s.size ≤ 20 ∧ chk L = 0 ∧ txt L = s then L else []) = R := ⟨_, rfl⟩
  have HC0 : Hid (chk L = 0 ∧ txt L = s → C = 0 ∧ R = L) := fun h => by rw [if_pos ⟨h20, h⟩] at hC hR; exact ⟨hC.symm, hR.symm⟩
  have HC1 : Hid (¬ (chk L = 0 ∧ txt L = s) → C = 4 ∧ R = []) := fun h => by rw [if_neg (fun q => h q.2)] at hC hR; exact ⟨hC.symm, hR.symm⟩
  rw [hC, hR]
  obtain ⟨n, hn⟩ : ∃ n, X.length = n := ⟨_, rfl⟩
  have HN : Hid (X.length = n) := hn
  rw [hn] at hXl
  have HL0 : Hid ([] ++ (X.drop 0).flatMap (wdR 15) = L) := hLX
  have HLl : Hid (L.length ≤ 1000) := hLl
  clear hC hR hL hX hLX hLl hn hs
  go_enter Tryd.func10, Tryd.ntmps10
  go_wp2_with fail
  refine (HG.out).mono ?_
  rintro e u1 ⟨v1, rfl, h1, h2⟩
  obtain ⟨a, c, rfl, hlc, hcm⟩ := h1.form
  rw [HN.out] at h1 hlc ⊢
  have HR1 : Hid (Rts u1 (.slice a n c) X) := h1
  have HB1 : Hid (Below w.heap.size w u1) := h2
  unfold maxLen at hcm
  clear h1 h2 HG
  go_wp2
  go_loopw [4, 6, 7, 16] (fun v _ _ i wr => ∃ (k : Nat) (acc : List Int), k ≤ n ∧ i = .int .i64 (k : Int) ∧ Hid (acc ++ (X.drop k).flatMap (wdR 15) = L) ∧ Hid (Iw wr u1.heap.size v acc) ∧ Hid (Below u1.heap.size u1 wr ∧ Below w.heap.size w wr)) (fun _ _ _ i _ => n - (intOf i).toNat)
  case atStart => exact ⟨0, [], Nat.zero_le _, rfl, HL0.out, Iw.nil _ _, Below.refl _ _, HB1.out⟩
  case round =>
    clear HL0
    obtain ⟨k, acc, hk, rfl, HA, HI, HB⟩ := hrel
    by_cases hlt : ¬ k < n
    · have HE : Hid (acc = L) := by
        have := HA.out
        rw [List.drop_eq_nil_of_le (by rw [HN.out]; omega), List.flatMap_nil, List.append_nil] at this
        exact this
      have HC : Hid (Calls Tryd.prog 8 #[_] wr fun e w' => e = .returned (.tuple #[.string (shT L), .int .i64 (chk L)]) ∧ Below wr.heap.size wr w') := pathText_any _ L wr (by rw [← HE.out]; exact HI.out.ris)
      have hsh : chk L = 0 → shT L = txt L := fun h => by unfold shT; rw [if_pos h]
      generalize chk L = z at HC HC0 HC1 hsh
      clear HA
      go_wp2_with fail
      refine (HC.out).mono ?_
      rintro e u ⟨rfl, hb⟩
      have H2 : Hid (Below w.heap.size w u) := bsq HB.out.2 hb
      have HI2 : Hid (Iw u u1.heap.size u4 acc) := HI.out.below hb
      clear HC hb HI
      cases hz : (z != 0) with
      | true =>
        have HQ : Hid (C = 4 ∧ R = []) := HC1.out (fun h => by rw [h.1] at hz; simp at hz)
        clear HC0 HC1 hsh
        generalize shT L = T
        go_wp2
        go_ret2
        exact ⟨_, by rw [HQ.out.1]; rfl, by rw [HQ.out.2]; exact Iw.nil _ _, H2.out⟩
      | false =>
        have hz0 : z = 0 := by simpa using hz
        have hr := hsh hz0
        subst hz0
        rw [hr]
        by_cases hx : txt L = s
        · have HQ : Hid (C = 0 ∧ R = L) := HC0.out ⟨rfl, hx⟩
          clear HC0 HC1 hsh hr
          rw [hx]
          have hbq : (s.toList == s.toList) = true := by simp
          clear hx
          go_wp2
          go_ret2
          exact ⟨_, by rw [HQ.out.1]; rfl, by rw [HQ.out.2, ← HE.out]; exact HI2.out.mono HB1.out.size, H2.out⟩
        · have HQ : Hid (C = 4 ∧ R = []) := HC1.out (fun h => hx h.2)
          have hbq : ((txt L).toList == s.toList) = false := text_ne hx
          generalize txt L = T at hbq
          clear HC0 HC1 hsh hr hx
          go_wp2
          go_ret2
          exact ⟨_, by rw [HQ.out.1]; rfl, by rw [HQ.out.2]; exact Iw.nil _ _, H2.out⟩
    · have hlt : k < n := by omega
      have hkl : k < X.length := by rw [HN.out]; exact hlt
      obtain ⟨g, off, rfl, c0⟩ := (HR1.out.below HB.out.1).at k X[k] (List.getElem?_eq_getElem hkl)
      have HA2 := HA.out
      rw [List.drop_eq_getElem_cons hkl, List.flatMap_cons] at HA2
      obtain ⟨Z, hZ⟩ : ∃ Z, (X.drop (k + 1)).flatMap (wdR 15) = Z := ⟨_, rfl⟩
      have HZ : Hid ((X.drop (k + 1)).flatMap (wdR 15) = Z) := hZ
      rw [hZ] at HA2
      generalize X[k] = x at c0 HA2
      have HA3 : Hid (acc ++ (wdR 15 x ++ Z) = L) := HA2
      clear HA HA2 hkl HC0 HC1 hZ
      rename World => wo
      go_wp2
      go_loopw [4, 7] (fun v i wr => ∃ (m d : Nat) (ac : List Int), m + d = 16 ∧ 1 ≤ m ∧ i = .int .i64 (m : Int) ∧ Hid (ac ++ (wdR d x ++ Z) = L) ∧ Hid (Iw wr u1.heap.size v ac) ∧ Hid (Below u1.heap.size u1 wr ∧ Below w.heap.size w wr)) (fun _ i _ => 16 - (intOf i).toNat)
      case atStart => exact ⟨1, 15, acc, rfl, Nat.le_refl _, rfl, HA3.out, HI.out, HB.out.1, HB.out.2⟩
      case round =>
        clear HA3
        obtain ⟨m, d, ac, hmd, hm1, rfl, HJ, HK, HL2⟩ := hrel
        by_cases hm15 : ¬ m ≤ 15
        · have hd0 : d = 0 := by omega
          have HJ2 : Hid (ac ++ (X.drop (k + 1)).flatMap (wdR 15) = L) := by
            have := HJ.out
            rw [hd0] at this
            rw [HZ.out]
            exact this
          have hmd : decide ((m : Int) ≤ 15) = false := decide_eq_false (by omega)
          clear HJ hd0 HZ
          go_wp2
          go_roundw
          case rel => exact ⟨k + 1, ac, by omega, by go_num, HJ2.out, HK.out, HL2.out⟩
          case measure => simp [intOf]; omega
        · have hm15 : m ≤ 15 := by omega
          have hmdc : decide ((m : Int) ≤ 15) = true := decide_eq_true (by omega)
          obtain ⟨d, rfl⟩ : ∃ q, d = q + 1 := ⟨d - 1, by omega⟩
          have HI3 : Hid (Calls Tryd.prog 23 #[.int .i64 (m : Int)] wr fun e w' => e = .returned (.string (dgt (m : Int))) ∧ wr = w') := port_any (m : Int) wr (by omega) (by omega)
          have hw : wdR (d + 1) x = (if dgt (m : Int) = x then [(m : Int)] else []) ++ wdR d x := by rw [wdR, show 15 - d = m by omega]
          have HJ1 := HJ.out
          rw [hw] at HJ1
          have HX : Hid (ac.length ≤ 1000) := by
            have h1 := congrArg List.length HJ1
            have := HLl.out
            rw [List.length_append] at h1
            show ac.length ≤ 1000
            omega
          have HM : Hid (m + 1 + d = 16) := by show m + 1 + d = 16; omega
          by_cases hx : dgt (m : Int) = x
          · rw [if_pos hx] at HJ1
            have HJ2 : Hid ((ac ++ [(m : Int)]) ++ (wdR d x ++ Z) = L) := by
              show (ac ++ [(m : Int)]) ++ (wdR d x ++ Z) = L
              rw [List.append_assoc]
              simpa using HJ1
            have hbq : ((dgt (m : Int)).toList == x.toList) = true := by rw [hx]; simp
            generalize dgt (m : Int) = Y at HI3 hbq
            clear HJ HJ1 hw hx hmd
            go_wp2_with fail
            refine (HI3.out).mono ?_
            rintro e u ⟨rfl, rfl⟩
            clear HI3
            go_wp2_with
              (at_builtin
               refine wpList_ints _ rfl _ _ rfl u1.heap.size _ ac rfl (HK.out.below (balloc _ _)) _ [(m : Int)] rfl (one_ris _ _) (by have := HX.out; simp; omega) (Nat.le_trans HL2.out.1.size (by simp)) ?_
               intro v' w' q1 q3
               have t1 : Hid (Iw w' u1.heap.size v' (ac ++ [(m : Int)])) := q1
               have t2 : Hid (Below u1.heap.size u1 w' ∧ Below w.heap.size w w') := ⟨(bsq HL2.out.1 (balloc _ _)).trans q3, bsq HB1.out ((bsq HL2.out.1 (balloc _ _)).trans q3)⟩
               clear q1 q3)
            go_wp2
            go_roundw
            case rel => exact ⟨m + 1, d, ac ++ [(m : Int)], HM.out, by omega, by go_num, HJ2.out, t1.out, t2.out⟩
            case measure => simp [intOf]; omega
          · rw [if_neg hx, List.nil_append] at HJ1
            have HJ2 : Hid (ac ++ (wdR d x ++ Z) = L) := HJ1
            have hbq : ((dgt (m : Int)).toList == x.toList) = false := text_ne hx
            generalize dgt (m : Int) = Y at HI3 hbq
            clear HJ HJ1 hw hx hmd
            go_wp2_with fail
            refine (HI3.out).mono ?_
            rintro e u ⟨rfl, rfl⟩
            clear HI3
            go_wp2
            go_roundw
            case rel => exact ⟨m + 1, d, ac, HM.out, by omega, by go_num, HJ2.out, HK.out, HL2.out⟩
            case measure => simp [intOf]; omega
end Go.Proofs.YtllfokmpnalojaaDoor.route
