/- route: strconv.Atoi as it is used here; the plain mathematics of reading; what Read answers. -/
import Derived.Test.YtllfokmpnalojaaDoorRouQ
import Derived.Test.YtllfokmpnalojaaDoorRouE
import Derived.Lib.AtoiErrMem
import Derived.Shelf.Strconv.ErrVarAll
namespace Go.Proofs.YtllfokmpnalojaaDoor.route
open Go Go.RowKit
set_option linter.unusedVariables false
set_option linter.unusedSimpArgs false
set_option maxRecDepth 100000

/-- the two errors that Atoi may tell hold something -/
def Vr (w : World) : Prop := ∃ t1 p1 t2 p2, w.var? Tryd.prog "strconv.ErrSyntax" = some #[.iface t1 p1] ∧ w.var? Tryd.prog "strconv.ErrRange" = some #[.iface t2 p2]
theorem var_below {w u : World} {n : String} {cs : Array Value} (h : w.var? Tryd.prog n = some cs) (hb : Below w.heap.size w u) : u.var? Tryd.prog n = some cs := by
  unfold World.var? at h ⊢
  cases hg : Tryd.prog.globalNamed n with
  | none => rw [hg] at h; cases h
  | some g =>
    rw [hg] at h
    simp only [Option.bind_some] at h ⊢
    cases hw : w.heap[g]? with
    | none => rw [hw] at h; cases h
    | some o =>
      rw [hb.block g (Array.getElem?_eq_some_iff.1 hw).1, hw]
      rw [hw] at h
      exact h
theorem Vr.below {w u : World} (h : Vr w) (hb : Below w.heap.size w u) : Vr u := by
  obtain ⟨t1, p1, t2, p2, h1, h2⟩ := h
  exact ⟨t1, p1, t2, p2, var_below h1 hb, var_below h2 hb⟩
/-- the number that Atoi tells beside an error, or without one -/
def atoiV (l : List UInt8) : Int :=
  match Lib.atoiAll l with
  | .ok v => v
  | .range => Lib.atoiSat l
  | _ => 0
theorem atoi_any (s : ByteArray) (w : World) (hs : s.size ≤ 140737488351232) (hv : Vr w) : Calls Tryd.prog 25 #[.string s] w fun e w' => ∃ er, e = .returned (.tuple #[.int .i64 (atoiV s.data.toList), er]) ∧ Below w.heap.size w w' := by
  obtain ⟨t1, p1, t2, p2, h1, h2⟩ := hv
  unfold atoiV
  cases h : Lib.atoiAll s.data.toList with
  | ok v =>
    refine (Tryd.strconv_Atoi_ok s (by omega) v h w).mono fun e w' ⟨he, hw⟩ => ⟨_, he, ?_⟩
    rcases hw with rfl | ⟨t, rfl⟩
    · exact Below.refl _ _
    · exact Lib.bytesWorld_below _ _ _
  | range => exact (Tryd.strconv_Atoi_range_var s (by omega) h t2 p2 w h2).mono fun e w' ⟨N, he, _, _, hb⟩ => ⟨_, he, hb⟩
  | _ => exact (Any.strconv_Atoi_syntax_var Tryd.laysC172 s (by omega) h t1 p1 w h1).mono fun e w' ⟨N, he, _, _, hb⟩ => ⟨_, he, hb⟩
theorem atoi_cd {p : Int} (h1 : 1 ≤ p) (h2 : p ≤ 15) : atoiV (cd p) = p := by
  have key : ∀ i : Fin 16, atoiV (Lib.decDigits i.val) = (i.val : Int) := by decide +kernel
  have := key ⟨p.toNat, by omega⟩
  show atoiV (Lib.decDigits p.toNat) = p
  rw [this]
  show ((p.toNat : Nat) : Int) = p
  omega
theorem txtL_ge : ∀ (P : List Int), (∀ p ∈ P, 1 ≤ p ∧ p ≤ 15) → P.length ≤ (txtL P).length
  | [], _ => by simp
  | [p], h => by
    rw [txt_one]
    exact cd_len (h p (by simp)).1 (h p (by simp)).2
  | p :: q :: P, h => by
    have h1 := txtL_ge (q :: P) (fun r hr => h r (List.mem_cons_of_mem _ hr))
    have h2 := cd_len (h p (by simp)).1 (h p (by simp)).2
    rw [txt_more]
    simp only [List.length_append, List.length_cons] at h1 ⊢
    omega
theorem ix_hit {s : ByteArray} {x r : List UInt8} (h : s.data.toList = x ++ 46 :: r) (hx : (46 : UInt8) ∉ x) : ix s = (x.length : Int) := by
  unfold ix
  rw [h]
  rcases index_cases (x ++ 46 :: r) with ⟨_, h2⟩ | ⟨y, t, h1, h2, h3⟩
  · exact absurd (by simp) h2
  · rw [h3, (sep_inj hx h2 h1).1]
theorem ix_miss {s : ByteArray} (h : (46 : UInt8) ∉ s.data.toList) : ix s = -1 := by
  unfold ix
  rcases index_cases s.data.toList with ⟨h1, _⟩ | ⟨y, t, h1, h2, h3⟩
  · exact h1
  · rw [h1] at h
    exact absurd (by simp) h
theorem ex_list (s : ByteArray) (i j : Nat) : (s.extract i j).data.toList = (s.data.toList.drop i).take (j - i) := by
  rw [ByteArray.data_extract, Array.toList_extract, List.extract_eq_take_drop]
theorem sp_txt : ∀ (P : List Int), (∀ p ∈ P, 1 ≤ p ∧ p ≤ 15) → P ≠ [] → ∀ (s : ByteArray) (k : Nat), s.data.toList = txtL P → P.length ≤ k + 1 → (spB k s).map (·.data.toList) = P.map cd
  | [], _, h, _, _, _, _ => absurd rfl h
  | [p], h, _, s, k, hs, _ => by
    have hp := h p (by simp)
    rw [txt_one] at hs
    have : ix s = -1 := ix_miss (by rw [hs]; exact cd_dot hp.1 hp.2)
    rw [spB_miss (by omega)]
    simp [hs]
  | p :: q :: P, h, _, s, k, hs, hk => by
    have hp := h p (by simp)
    rw [txt_more] at hs
    obtain ⟨k, rfl⟩ : ∃ m, k = m + 1 := ⟨k - 1, by simp at hk; omega⟩
    have hi := ix_hit hs (cd_dot hp.1 hp.2)
    rw [spB_hit hi, List.map_cons, List.map_cons]
    have e1 : (s.extract 0 (cd p).length).data.toList = cd p := by
      rw [ex_list, hs]
      simp
    have e2 : (s.extract ((cd p).length + 1) s.size).data.toList = txtL (q :: P) := by
      rw [ex_list, size_list, hs, List.take_of_length_le (by simp; omega)]
      rw [show cd p ++ 46 :: txtL (q :: P) = (cd p ++ [46]) ++ txtL (q :: P) by simp, List.drop_append_of_le_length (by simp), List.drop_eq_nil_of_le (by simp), List.nil_append]
    rw [e1, sp_txt (q :: P) (fun r hr => h r (List.mem_cons_of_mem _ hr)) (by simp) _ k e2 (by simpa using hk)]
theorem sp_size : ∀ (k : Nat) (s : ByteArray), ∀ x ∈ spB k s, x.size ≤ s.size
  | 0, s, x, h => by rw [spB_zero] at h; simp at h; rw [h]; exact Nat.le_refl _
  | k + 1, s, x, h => by
    rcases ix_cases s with q | ⟨j, q, hj⟩
    · rw [spB_miss (by omega)] at h; simp at h; rw [h]; exact Nat.le_refl _
    · rw [spB_hit q] at h
      rcases List.mem_cons.1 h with rfl | h
      · rw [ByteArray.size_extract]; omega
      · have := sp_size k _ x h
        rw [ByteArray.size_extract] at this
        omega
theorem toList_beq (s t : ByteArray) : (s.toList == t.toList) = decide (s = t) := by
  rw [ByteArray.toList_eq, ByteArray.toList_eq]
  by_cases h : s = t
  · subst h; simp
  · rw [decide_eq_false h, beq_eq_false_iff_ne]
    intro q
    apply h
    apply ByteArray.ext
    exact Array.toList_inj.1 q
theorem text_ne {s t : ByteArray} (h : ¬ s = t) : (s.toList == t.toList) = false := by
  rw [toList_beq]; exact decide_eq_false h
theorem Iw.mono {w : World} {B B' : Nat} {v : Value} {l : List Int} (h : Iw w B v l) (hb : B' ≤ B) : Iw w B' v l := by
  refine ⟨h.1, ?_⟩
  rcases h.2 with q | ⟨g, cap, cur, h1, h2, h3⟩
  · exact .inl q
  · exact .inr ⟨g, cap, cur, h1, Nat.le_trans hb h2, h3⟩
/-- the numbers of a text's parts -/
def pathOf (s : ByteArray) : List Int := (spB (min 6 s.size) s).map fun x => atoiV x.data.toList
theorem path_txt {P : List Int} (h : chk P = 0) : pathOf (txt P) = P := by
  obtain ⟨h1, h6, hP⟩ := chk_ok h
  have hge := txtL_ge P hP
  have hsz : (txt P).size = (txtL P).length := size_list _
  have := sp_txt P hP (chk_ne h) (txt P) (min 6 (txt P).size) rfl (by omega)
  unfold pathOf
  rw [show (fun x : ByteArray => atoiV x.data.toList) = atoiV ∘ (fun x : ByteArray => x.data.toList) from rfl, ← List.map_map, this, List.map_map]
  have : ∀ (Q : List Int), (∀ p ∈ Q, 1 ≤ p ∧ p ≤ 15) → Q.map (atoiV ∘ cd) = Q := by
    intro Q hQ
    induction Q with
    | nil => rfl
    | cons q Q ih =>
      rw [List.map_cons, ih (fun r hr => hQ r (List.mem_cons_of_mem _ hr))]
      show atoiV (cd q) :: Q = _
      rw [atoi_cd (hQ q (by simp)).1 (hQ q (by simp)).2]
  exact this P hP
theorem path_len (s : ByteArray) : 1 ≤ (pathOf s).length ∧ (pathOf s).length ≤ 7 := by
  unfold pathOf
  rw [List.length_map]
  have := spB_len (min 6 s.size) s
  omega
/-- what Read answers -/
def rdC (s : ByteArray) : Int := if chk (pathOf s) = 0 ∧ txt (pathOf s) = s then 0 else 4
def rdL (s : ByteArray) : List Int := if chk (pathOf s) = 0 ∧ txt (pathOf s) = s then pathOf s else []
theorem rd_txt {P : List Int} (h : chk P = 0) : rdC (txt P) = 0 ∧ rdL (txt P) = P := by
  have e := path_txt h
  unfold rdC rdL
  rw [e, if_pos ⟨h, rfl⟩, if_pos ⟨h, rfl⟩]
  exact ⟨rfl, rfl⟩
theorem rd_ok {s : ByteArray} (h : rdC s = 0) : chk (rdL s) = 0 ∧ txt (rdL s) = s := by
  unfold rdC at h
  unfold rdL
  by_cases q : chk (pathOf s) = 0 ∧ txt (pathOf s) = s
  · rw [if_pos q]; exact q
  · rw [if_neg q] at h; omega
theorem rd_no {s : ByteArray} (h : rdC s ≠ 0) : rdL s = [] := by
  unfold rdC at h
  unfold rdL
  by_cases q : chk (pathOf s) = 0 ∧ txt (pathOf s) = s
  · rw [if_pos q] at h; exact absurd rfl h
  · rw [if_neg q]
set_option maxHeartbeats 4000000 in
theorem read_any (s : ByteArray) (w : World) (hs : s.size ≤ 140737488351232) (hV : Vr w) : Calls Tryd.prog 9 #[.string s] w fun e w' => ∃ v, e = .returned (.tuple #[v, .int .i64 (rdC s)]) ∧ Iw w' w.heap.size v (rdL s) ∧ Below w.heap.size w w' := by
  have HG : Hid (Calls Tryd.prog 24 #[.string s, .string ⟨#[46]⟩, .int .i64 7] w fun e w' => ∃ v, e = .returned v ∧ Rts w' v (spB (min 6 s.size) s) ∧ Below w.heap.size w w') := splitN_any s w hs
  have hpl := path_len s
  unfold rdC rdL
  obtain ⟨L, hL⟩ : ∃ L, pathOf s = L := ⟨_, rfl⟩
  obtain ⟨X, hX⟩ : ∃ X, spB (min 6 s.size) s = X := ⟨_, rfl⟩
  have hLX : X.map (fun x => atoiV x.data.toList) = L := by rw [← hX, ← hL]; rfl
  have hxs : ∀ x ∈ X, x.size ≤ 140737488351232 := by
    rw [← hX]
    exact fun x hx => Nat.le_trans (sp_size _ _ x hx) hs
  rw [hL] at hpl ⊢
  rw [hX] at HG
  obtain ⟨C, hC⟩ : ∃ C : Int, (if chk L = 0 ∧ txt L = s then 0 else 4) = C := ⟨_, rfl⟩
  obtain ⟨R, hR⟩ : ∃ R, (if chk L = 0 ∧ txt L = s then L else []) = R := ⟨_, rfl⟩
  have HC0 : Hid (chk L = 0 ∧ txt L = s → C = 0 ∧ R = L) := fun h => by rw [if_pos h] at hC hR; exact ⟨hC.symm, hR.symm⟩
  have HC1 : Hid (¬ (chk L = 0 ∧ txt L = s) → C = 4 ∧ R = []) := fun h => by rw [if_neg h] at hC hR; exact ⟨hC.symm, hR.symm⟩
  rw [hC, hR]
  obtain ⟨n, hn⟩ : ∃ n, X.length = n := ⟨_, rfl⟩
  have HN : Hid (X.length = n) := hn
  have hn7 : n ≤ 7 := by rw [← hn, ← List.length_map (f := fun x : ByteArray => atoiV x.data.toList), hLX]; omega
  have HL0 : Hid ([] ++ (X.drop 0).map (fun x => atoiV x.data.toList) = L) := hLX
  have HX : Hid (∀ x ∈ X, x.size ≤ 140737488351232) := hxs
  have HV : Hid (Vr w) := hV
  clear hC hR hL hX hLX hxs hpl hn hV hs
  go_enter Tryd.func9, Tryd.ntmps9
  go_wp2_with fail
  refine (HG.out).mono ?_
  rintro e u1 ⟨v1, rfl, h1, h2⟩
  obtain ⟨a, c, rfl, hlc, hcm⟩ := h1.form
  rw [HN.out] at h1 hlc ⊢
  have HR1 : Hid (Rts u1 (.slice a n c) X) := h1
  have HB1 : Hid (Below w.heap.size w u1) := h2
  unfold maxLen at hcm
  clear h1 h2 HG
  go_wp2
  go_loopw [4, 6, 7, 8, 14] (fun v _ _ _ i wr => ∃ (k : Nat) (acc : List Int), k ≤ n ∧ i = .int .i64 (k : Int) ∧ Hid (acc.length = k) ∧ Hid (acc ++ (X.drop k).map (fun x => atoiV x.data.toList) = L) ∧ Hid (Iw wr u1.heap.size v acc) ∧ Hid (Below u1.heap.size u1 wr ∧ Below w.heap.size w wr)) (fun _ _ _ _ i _ => n - (intOf i).toNat)
  case atStart => exact ⟨0, [], Nat.zero_le _, rfl, rfl, HL0.out, Iw.nil _ _, Below.refl _ _, HB1.out⟩
  case round =>
    clear HL0
    obtain ⟨k, acc, hk, rfl, HAl, HA, HI, HB⟩ := hrel
    by_cases hlt : ¬ k < n
    · have HE : Hid (acc = L) := by
        have := HA.out
        rw [List.drop_eq_nil_of_le (by rw [HN.out]; omega), List.map_nil, List.append_nil] at this
        exact this
      have HC : Hid (Calls Tryd.prog 7 #[_] wr fun e w' => e = .returned (.tuple #[.string (shT L), .int .i64 (chk L)]) ∧ Below wr.heap.size wr w') := show_any _ L wr (by rw [← HE.out]; exact HI.out.ris)
      have hsh : chk L = 0 → shT L = txt L := fun h => by unfold shT; rw [if_pos h]
      generalize chk L = z at HC HC0 HC1 hsh
      clear HA
      go_wp2_with fail
      refine (HC.out).mono ?_
      rintro e u ⟨rfl, hb⟩
      have H2 : Hid (Below w.heap.size w u) := bsq HB.out.2 hb
      have HI2 : Hid (Iw u u1.heap.size u4 acc) := HI.out.below hb
      clear HC hb HI
      cases hz : (z != 0) with
      | true =>
        have HQ : Hid (C = 4 ∧ R = []) := HC1.out (fun h => by rw [h.1] at hz; simp at hz)
        clear HC0 HC1 hsh
        generalize shT L = T
        go_wp2
        go_ret2
        exact ⟨_, by rw [HQ.out.1]; rfl, by rw [HQ.out.2]; exact Iw.nil _ _, H2.out⟩
      | false =>
        have hz0 : z = 0 := by simpa using hz
        have hr := hsh hz0
        subst hz0
        rw [hr]
        by_cases hx : txt L = s
        · have HQ : Hid (C = 0 ∧ R = L) := HC0.out ⟨rfl, hx⟩
          clear HC0 HC1 hsh hr
          rw [hx]
          have hbq : (s.toList == s.toList) = true := by simp
          clear hx
          go_wp2
          go_ret2
          exact ⟨_, by rw [HQ.out.1]; rfl, by rw [HQ.out.2, ← HE.out]; exact HI2.out.mono HB1.out.size, H2.out⟩
        · have HQ : Hid (C = 4 ∧ R = []) := HC1.out (fun h => hx h.2)
          have hbq : ((txt L).toList == s.toList) = false := text_ne hx
          generalize txt L = T at hbq
          clear HC0 HC1 hsh hr hx
          go_wp2
          go_ret2
          exact ⟨_, by rw [HQ.out.1]; rfl, by rw [HQ.out.2]; exact Iw.nil _ _, H2.out⟩
    · have hlt : k < n := by omega
      have hkl : k < X.length := by rw [HN.out]; exact hlt
      obtain ⟨g, off, rfl, c0⟩ := (HR1.out.below HB.out.1).at k X[k] (List.getElem?_eq_getElem hkl)
      have HA2 := HA.out
      rw [List.drop_eq_getElem_cons hkl, List.map_cons] at HA2
      have HT : Hid (Calls Tryd.prog 25 #[.string X[k]] wr fun e w' => ∃ er, e = .returned (.tuple #[.int .i64 (atoiV X[k].data.toList), er]) ∧ Below wr.heap.size wr w') := atoi_any X[k] wr (HX.out _ (List.getElem_mem hkl)) (HV.out.below HB.out.2)
      generalize atoiV X[k].data.toList = y at HA2 HT
      generalize X[k] = x at c0 HT
      have HA3 : Hid ((acc ++ [y]) ++ (X.drop (k + 1)).map (fun x => atoiV x.data.toList) = L) := by
        show (acc ++ [y]) ++ _ = L
        rw [List.append_assoc]
        exact HA2
      have HX2 : Hid (acc.length ≤ 7) := by show acc.length ≤ 7; have := HAl.out; omega
      clear HA HA2 hkl HC0 HC1
      go_wp2_with fail
      refine (HT.out).mono ?_
      rintro e u ⟨er, rfl, hb⟩
      have H2 : Hid (Below u1.heap.size u1 u ∧ Below w.heap.size w u) := ⟨bsq HB.out.1 hb, bsq HB.out.2 hb⟩
      have HI2 : Hid (Iw u u1.heap.size u4 acc) := HI.out.below hb
      clear hb HT HI HB
      go_wp2_with
        (at_builtin
         refine wpList_ints _ rfl _ _ rfl u1.heap.size _ acc rfl (HI2.out.below (balloc _ _)) _ [y] rfl (one_ris _ _) (by have := HX2.out; simp; omega) (Nat.le_trans H2.out.1.size (by simp)) ?_
         intro v' w' q1 q3
         have t1 : Hid (Iw w' u1.heap.size v' (acc ++ [y])) := q1
         have t2 : Hid (Below u1.heap.size u1 w' ∧ Below w.heap.size w w') := ⟨(bsq H2.out.1 (balloc _ _)).trans q3, bsq HB1.out ((bsq H2.out.1 (balloc _ _)).trans q3)⟩
         clear q1 q3)
      go_wp2
      go_roundw
      case rel => exact ⟨k + 1, acc ++ [y], by omega, by go_num, by have := HAl.out; show (acc ++ [y]).length = k + 1; simp; omega, HA3.out, t1.out, t2.out⟩
      case measure => simp [intOf]; omega
end Go.Proofs.YtllfokmpnalojaaDoor.route
